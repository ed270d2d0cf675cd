/- RingOk of the reference; no conditions. -/
import Derived.Test.YtnmijppppcgobaaGreatDoorMrg1
import Derived.BigQuiet
import Derived.Deep.QuietTactic
import Derived.OpenShut
import Derived.ChangeArms
import Derived.Deep.Slices
import Derived.Deep.RegionWith
import Derived.Laws.AppendOwn
import Derived.OwnWalk
import Derived.Deep.Onto
import Derived.Maps.AppendAt
import Derived.WalkLawsBesides
import Derived.Deep.DeepCutAuto
set_option linter.unusedVariables false
namespace Go.Proofs.YtnmijppppcgobaaGreatDoor
open Go.ChangeShapes Go.WideShapes Go.ChangeAt Go.RowKit

def inB (n lo hi : Int) : Bool := decide (lo ≤ n ∧ n ≤ hi)
def timeB (n : Int) : Bool := inB n 0 1000000000
/-- the four tests of a ring ahead of its buckets -/
def ringHead (r : RingD) : Bool := inB r.1 1 1000 && (inB (r.2.2.1.length : Int) 1 8 && (decide (r.2.2.2.length = r.2.2.1.length) && timeB r.2.1))
def ringOk (r : RingD) : Bool := ringHead r && (r.2.2.1.all isMon && r.2.2.2.all isMon)
set_option maxRecDepth 100000 in
theorem inB_any (n lo hi : Int) (w : World) : Calls Tryz.prog 90 #[.int .i64 n, .int .i64 lo, .int .i64 hi] w fun e w' => e = .returned (.bool (inB n lo hi)) ∧ w = w' := by
  by_cases h0 : lo ≤ n
  all_goals
    go_enter Tryz.func90, Tryz.ntmps90
    go_wp2
    go_ret
    exact ⟨by simp [inB]; omega, rfl⟩
set_option maxRecDepth 100000 in
theorem specTime_any (n : Int) (w : World) : Calls Tryz.prog 82 #[.int .i64 n] w fun e w' => e = .returned (.bool (timeB n)) ∧ w = w' := by
  have HT : Hid (timeB n = inB n 0 1000000000) := Lib.hid rfl
  rw [HT.out]
  have HI := Lib.hid (fun w => inB_any n 0 1000000000 w)
  generalize inB n 0 1000000000 = t at HI
  go_enter Tryz.func82, Tryz.ntmps82
  go_wp2_with fail
  refine (HI.out _).mono ?_
  rintro e w1 ⟨rfl, rfl⟩
  go_wp2
  go_ret
  exact ⟨rfl, rfl⟩
set_option maxRecDepth 100000 in
theorem ring_at {hi : Nat} {w : World} {A : Option Addr} {n c : Nat} {l : List Int} (h : rd .i64 hi w (.slice A n c) l) {j : Nat} {x : Int} (hx : l[j]? = some x) : ∃ b off : Nat, A = some ⟨b, off, none⟩ ∧ b < hi ∧ w.cell? ⟨b, off + j, none⟩ = some (.int .i64 x) := by
  obtain ⟨A', c', hv, hc, hj⟩ := h
  simp only [Value.slice.injEq] at hv
  obtain ⟨rfl, -, -⟩ := hv
  obtain ⟨b, off, e, h1, h2⟩ := hj j (List.getElem?_eq_some_iff.1 hx).1
  rw [List.getD_eq_getElem?_getD, hx] at h2
  exact ⟨b, off, e, h1, h2⟩
set_option maxRecDepth 100000 in
theorem all_snoc {l : List Int} {i : Nat} {x : Int} (hx : l[i]? = some x) (h : (l.take i).all isMon = true) : isMon x = true → (l.take (i + 1)).all isMon = true := fun hm => by
  obtain ⟨hi, rfl⟩ := List.getElem?_eq_some_iff.1 hx
  rw [List.take_succ_eq_append_getElem hi, List.all_append, h]
  simp [hm]
set_option maxRecDepth 100000 in
theorem all_fail {l : List Int} {i : Nat} {x : Int} (hx : l[i]? = some x) : isMon x = false → l.all isMon = false := fun hm => by
  rw [List.all_eq_false]
  exact ⟨x, List.mem_of_getElem? hx, by simp [hm]⟩
set_option maxRecDepth 100000 in
theorem ring_no {r : RingD} (h : ringHead r = false) : ringOk r = false := by simp [ringOk, h]

set_option maxRecDepth 100000 in
set_option maxHeartbeats 4000000 in
theorem specRingOk_any (hi : Nat) (vc vs : Value) (r : RingD) (w : World) (hc : rd .i64 hi w vc r.2.2.1) (hs : rd .i64 hi w vs r.2.2.2) (hh : hi ≤ w.heap.size) (hlc : r.2.2.1.length ≤ 1048576) (hls : r.2.2.2.length ≤ 1048576) :
    Calls Tryz.prog 164 #[.agg #[.int .i64 r.1, .int .i64 r.2.1, vc, vs]] w fun e w' => e = .returned (.bool (ringOk r)) ∧ Below w.heap.size w w' := by
  obtain ⟨sp, hd, cs, ss⟩ := r
  simp only at hc hs hlc hls ⊢
  obtain ⟨AC, cC, rfl, hcC⟩ := hc.form
  obtain ⟨AS, cS, rfl, hcS⟩ := hs.form
  have HC := Lib.hid hc
  have HS := Lib.hid hs
  have HB0 : Hid (Below w.heap.size w (w.alloc (.cells #[.int .i64 sp, .int .i64 hd, .slice AC cs.length cC, .slice AS ss.length cS] 26))) := Lib.hid ((Below.refl _ _).alloc (Nat.le_refl _) _)
  have HD : Hid (ringHead (sp, hd, cs, ss) = (inB sp 1 1000 && (inB (cs.length : Int) 1 8 && (decide (ss.length = cs.length) && timeB hd)))) := Lib.hid rfl
  clear hc hs
  have HI1 := Lib.hid (fun w => inB_any sp 1 1000 w)
  have HI2 := Lib.hid (fun w => inB_any (cs.length : Int) 1 8 w)
  have HT := Lib.hid (fun w => specTime_any hd w)
  generalize inB sp 1 1000 = b1 at HI1 HD
  generalize inB (cs.length : Int) 1 8 = b2 at HI2 HD
  generalize timeB hd = b4 at HT HD
  cases b1
  · have HN : Hid (ringOk (sp, hd, cs, ss) = false) := Lib.hid (ring_no (by rw [HD.out]; rfl))
    rw [HN.out]
    go_enter Tryz.func164, Tryz.ntmps164
    go_wp2_with fail
    refine (HI1.out _).mono ?_
    rintro e w1 ⟨rfl, rfl⟩
    go_wp2
    go_ret
    exact ⟨rfl, HB0.out⟩
  cases b2
  · have HN : Hid (ringOk (sp, hd, cs, ss) = false) := Lib.hid (ring_no (by rw [HD.out]; rfl))
    rw [HN.out]
    go_enter Tryz.func164, Tryz.ntmps164
    go_wp2_with fail
    refine (HI1.out _).mono ?_
    rintro e w1 ⟨rfl, rfl⟩
    go_wp2_with fail
    refine (HI2.out _).mono ?_
    rintro e w1 ⟨rfl, rfl⟩
    go_wp2
    go_ret
    exact ⟨rfl, HB0.out⟩
  by_cases h3 : ss.length = cs.length
  · cases b4
    · have HN : Hid (ringOk (sp, hd, cs, ss) = false) := Lib.hid (ring_no (by rw [HD.out, decide_eq_true h3]; rfl))
      rw [HN.out]
      have h3' : ((ss.length : Int) != (cs.length : Int)) = false := by simp [h3]
      clear h3
      go_enter Tryz.func164, Tryz.ntmps164
      go_wp2_with fail
      refine (HI1.out _).mono ?_
      rintro e w1 ⟨rfl, rfl⟩
      go_wp2_with fail
      refine (HI2.out _).mono ?_
      rintro e w1 ⟨rfl, rfl⟩
      go_wp2_with fail
      refine (HT.out _).mono ?_
      rintro e w1 ⟨rfl, rfl⟩
      go_wp2
      go_ret
      exact ⟨rfl, HB0.out⟩
    · have HY : Hid (ringOk (sp, hd, cs, ss) = (cs.all isMon && ss.all isMon)) := Lib.hid (by unfold ringOk; rw [HD.out, decide_eq_true h3]; rfl)
      rw [HY.out]
      have h3' : ((ss.length : Int) != (cs.length : Int)) = false := by simp [h3]
      have H3 := Lib.hid h3
      clear h3
      go_enter Tryz.func164, Tryz.ntmps164
      go_wp2_with fail
      refine (HI1.out _).mono ?_
      rintro e w1 ⟨rfl, rfl⟩
      go_wp2_with fail
      refine (HI2.out _).mono ?_
      rintro e w1 ⟨rfl, rfl⟩
      go_wp2_with fail
      refine (HT.out _).mono ?_
      rintro e w1 ⟨rfl, rfl⟩
      go_wp2
      have hbx := heap_alloc_new w (.cells #[.int .i64 sp, .int .i64 hd, .slice AC cs.length cC, .slice AS ss.length cS] 26)
      generalize w.alloc (.cells #[.int .i64 sp, .int .i64 hd, .slice AC cs.length cC, .slice AS ss.length cS] 26) = w1 at HB0 hbx ⊢
      have k2 := cell_of_row _ _ 2 _ _ (0, 0) hbx
      have k3 := cell_of_row _ _ 3 _ _ (0, 0) hbx
      simp only [List.getElem?_toArray, List.getElem?_cons_zero, List.getElem?_cons_succ] at k2 k3
      clear hbx
      have z1 : w.heap.size ≤ w1.heap.size := HB0.out.size
      go_loop [33] (fun iv => ∃ i : Nat, i ≤ cs.length ∧ iv = .int .i64 i ∧ Hid ((cs.take i).all isMon = true ∧ (ss.take i).all isMon = true)) (fun iv => cs.length - (intOf iv).toNat)
      case atStart => exact ⟨0, Nat.zero_le _, rfl, Lib.hid ⟨rfl, rfl⟩⟩
      case round =>
        obtain ⟨i, hi', rfl, HA⟩ := hrel
        by_cases hin : i < cs.length
        · have hin2 : i < ss.length := by have := H3.out; omega
          obtain ⟨x, hx⟩ : ∃ x, cs[i]? = some x := ⟨_, List.getElem?_eq_getElem hin⟩
          obtain ⟨y, hy⟩ : ∃ y, ss[i]? = some y := ⟨_, List.getElem?_eq_getElem hin2⟩
          obtain ⟨p, o, rfl, hp, d0⟩ := ring_at (HC.out.below HB0.out hh) hx
          obtain ⟨q, r, rfl, hq, e0⟩ := ring_at (HS.out.below HB0.out hh) hy
          have HX := Lib.hid (all_snoc hx HA.out.1)
          have HY2 := Lib.hid (all_snoc hy HA.out.2)
          have HMX := Lib.hid (fun w => l01Money_any x w)
          have HMY := Lib.hid (fun w => l01Money_any y w)
          have HLX := Lib.hid (all_fail hx)
          have HLY := Lib.hid (all_fail hy)
          have g1 : (i : Int) < (cs.length : Int) := by omega
          have g1' : (i : Int) < (ss.length : Int) := by omega
          have g2 : 0 ≤ (i : Int) := by omega
          clear hx hy
          generalize isMon x = mx at HX HMX HLX
          generalize isMon y = my at HY2 HMY HLY
          cases mx
          · have HF : Hid ((cs.all isMon && ss.all isMon) = false) := Lib.hid (by rw [HLX.out rfl]; rfl)
            go_wp2_with fail
            refine (HMX.out _).mono ?_
            rintro e w2 ⟨rfl, rfl⟩
            go_wp2
            go_ret
            exact ⟨by rw [HF.out]; rfl, HB0.out⟩
          cases my
          · have HF : Hid ((cs.all isMon && ss.all isMon) = false) := Lib.hid (by rw [HLY.out rfl, Bool.and_false])
            go_wp2_with fail
            refine (HMX.out _).mono ?_
            rintro e w2 ⟨rfl, rfl⟩
            go_wp2_with fail
            refine (HMY.out _).mono ?_
            rintro e w2 ⟨rfl, rfl⟩
            go_wp2
            go_ret
            exact ⟨by rw [HF.out]; rfl, HB0.out⟩
          · go_wp2_with fail
            refine (HMX.out _).mono ?_
            rintro e w2 ⟨rfl, rfl⟩
            go_wp2_with fail
            refine (HMY.out _).mono ?_
            rintro e w2 ⟨rfl, rfl⟩
            go_wp2
            go_round
            case rel => exact ⟨i + 1, by omega, by go_num, Lib.hid ⟨HX.out trivial, HY2.out trivial⟩⟩
            case measure => simp [intOf] <;> omega
        · obtain rfl : i = cs.length := by omega
          have HF : Hid ((cs.all isMon && ss.all isMon) = true) := Lib.hid (by
            have h1 := HA.out.1
            have h2 := HA.out.2
            rw [List.take_length] at h1
            rw [← H3.out, List.take_length] at h2
            rw [h1, h2]; rfl)
          go_wp2
          go_ret
          exact ⟨by rw [HF.out]; rfl, HB0.out⟩
  · have HN : Hid (ringOk (sp, hd, cs, ss) = false) := Lib.hid (ring_no (by rw [HD.out, decide_eq_false h3]; rfl))
    rw [HN.out]
    have h3' : ((ss.length : Int) != (cs.length : Int)) = true := by simp; omega
    clear h3
    go_enter Tryz.func164, Tryz.ntmps164
    go_wp2_with fail
    refine (HI1.out _).mono ?_
    rintro e w1 ⟨rfl, rfl⟩
    go_wp2_with fail
    refine (HI2.out _).mono ?_
    rintro e w1 ⟨rfl, rfl⟩
    go_wp2
    go_ret
    exact ⟨rfl, HB0.out⟩
end Go.Proofs.YtnmijppppcgobaaGreatDoor
set_option linter.unusedVariables false
namespace Go.Proofs.YtnmijppppcgobaaGreatDoor
open Go.ChangeShapes Go.WideShapes Go.ChangeAt Go.RowKit

/-- the sum of two amounts, where it is one -/
def addOk (a b : Int) : Bool := isMon a && isMon b && decide (a ≤ 4611686018427387904 - b)
def addVal (a b : Int) : Int := if addOk a b = true then a + b else 0

set_option maxRecDepth 100000 in
theorem specAdd_any (a b : Int) (w : World) : Calls Tryz.prog 192 #[.int .i64 a, .int .i64 b] w fun e w' => e = .returned (.tuple #[.int .i64 (addVal a b), .bool (addOk a b)]) ∧ w = w' := by
  cases ha : isMon a
  · go_enter Tryz.func192, Tryz.ntmps192
    go_wp2_with (go_at_call 162; refine (l01Money_any _ _).mono ?_; rintro e w' ⟨rfl, rfl⟩)
    go_ret2
    exact ⟨by simp [addVal, addOk, ha], rfl⟩
  cases hb : isMon b
  · go_enter Tryz.func192, Tryz.ntmps192
    go_wp2_with (go_at_call 162; refine (l01Money_any _ _).mono ?_; rintro e w' ⟨rfl, rfl⟩)
    go_ret2
    exact ⟨by simp [addVal, addOk, hb], rfl⟩
  have h1 := isMon_true ha
  have h2 := isMon_true hb
  by_cases hlt : 4611686018427387904 - b < a
  all_goals
    go_enter Tryz.func192, Tryz.ntmps192
    go_wp2_with (go_at_call 162; refine (l01Money_any _ _).mono ?_; rintro e w' ⟨rfl, rfl⟩)
    go_ret2
    exact ⟨by simp [addVal, addOk, ha, hb]; omega, rfl⟩

set_option maxRecDepth 100000 in
theorem sum_over (a b : Int) (w : World) (ha : isMon a = true) (hb : isMon b = true) (h : 4611686018427387904 - b < a) :
    Calls Tryz.prog 140 #[.int .i64 a, .int .i64 b] w fun e w' => e = .returned (.tuple #[.int .i64 0, .iface 153 (.agg #[.int .i64 4611686018427387904])]) ∧ w = w' := by
  have h1 := isMon_true ha
  have h2 := isMon_true hb
  go_enter Tryz.func140, Tryz.ntmps140
  go_wp2_with (go_at_call 198; refine (isMoney_any _ _).mono ?_; rintro e w' ⟨rfl, rfl⟩)
  go_ret2
  exact ⟨rfl, rfl⟩

set_option maxRecDepth 100000 in
theorem sum_ok (a b : Int) (w : World) (ha : isMon a = true) (hb : isMon b = true) (h : ¬ 4611686018427387904 - b < a) :
    Calls Tryz.prog 140 #[.int .i64 a, .int .i64 b] w fun e w' => e = .returned (.tuple #[.int .i64 (a + b), .nilIface]) ∧ w = w' := by
  have h1 := isMon_true ha
  have h2 := isMon_true hb
  go_enter Tryz.func140, Tryz.ntmps140
  go_wp2_with (go_at_call 198; refine (isMoney_any _ _).mono ?_; rintro e w' ⟨rfl, rfl⟩)
  go_ret2
  exact ⟨rfl, rfl⟩

end Go.Proofs.YtnmijppppcgobaaGreatDoor
set_option linter.unusedVariables false
namespace Go.Proofs.YtnmijppppcgobaaGreatDoor
open Go.ChangeShapes Go.WideShapes Go.ChangeAt Go.RowKit

def clampM (n : Int) : Int := if n < 0 then 0 else if 4611686018427387904 < n then 4611686018427387904 else n
def satVal (a b : Int) : Int := if addOk (clampM a) (clampM b) = true then clampM a + clampM b else 4611686018427387904
set_option maxRecDepth 100000 in
theorem clampM_bd (n : Int) : 0 ≤ clampM n ∧ clampM n ≤ 4611686018427387904 := by unfold clampM; split <;> (try split) <;> omega
set_option maxRecDepth 100000 in
theorem clampM_mon (n : Int) : isMon (clampM n) = true := by
  have := clampM_bd n
  simp [isMon, this.1, this.2]

end Go.Proofs.YtnmijppppcgobaaGreatDoor
set_option linter.unusedVariables false
namespace Go.Proofs.YtnmijppppcgobaaGreatDoor
open Go.ChangeShapes Go.WideShapes Go.ChangeAt Go.RowKit

/-- every element by so many places to the right -/
def shiftL (by_ : Nat) (l : List Int) : List Int := (List.range l.length).map fun i => if by_ ≤ i then l.getD (i - by_) 0 else 0
set_option maxRecDepth 100000 in
theorem shiftL_len (k : Nat) (l : List Int) : (shiftL k l).length = l.length := by simp [shiftL]
set_option maxRecDepth 100000 in
theorem shiftL_at {k i : Nat} {l : List Int} (h : i < l.length) : (shiftL k l)[i]? = some (if k ≤ i then l.getD (i - k) 0 else 0) := by
  unfold shiftL
  rw [List.getElem?_map, List.getElem?_range h]; rfl
/-- does the ring roll -/
def ringGo (r : RingD) (now : Int) : Bool := ringOk r && (timeB now && decide (r.2.1 < now / r.1))
def ringRoll (r : RingD) (now : Int) : RingD := if ringGo r now = true then (r.1, now / r.1, shiftL (now / r.1 - r.2.1).toNat r.2.2.1, shiftL (now / r.1 - r.2.1).toNat r.2.2.2) else r
def ringIn (r : RingD) (now amount : Int) : Bool := ringOk r && (timeB now && isMon amount)
def addOne (l : List Int) (n : Int) : List Int := l.set 0 (satVal (l.getD 0 0) n)
def ringAdd (r : RingD) (now amount : Int) : RingD := if ringIn r now amount = true then ((ringRoll r now).1, (ringRoll r now).2.1, addOne (ringRoll r now).2.2.1 1, addOne (ringRoll r now).2.2.2 amount) else r
def totalL (l : List Int) : Int := l.foldl satVal 0
def ringTotal (r : RingD) (now : Int) (sums : Bool) : Int := if (ringOk r && timeB now) = true then totalL (if sums = true then (ringRoll r now).2.2.2 else (ringRoll r now).2.2.1) else 0
set_option maxRecDepth 100000 in
theorem totalL_next {l : List Int} {i : Nat} {x : Int} (h : l[i]? = some x) : totalL (l.take (i + 1)) = satVal (totalL (l.take i)) x := by
  obtain ⟨hi, rfl⟩ := List.getElem?_eq_some_iff.1 h
  unfold totalL
  rw [List.take_succ_eq_append_getElem hi, List.foldl_append]
  rfl
set_option maxRecDepth 100000 in
theorem ringRoll_lc (r : RingD) (now : Int) : (ringRoll r now).2.2.1.length = r.2.2.1.length := by
  unfold ringRoll; split
  · exact shiftL_len _ _
  · rfl
set_option maxRecDepth 100000 in
theorem ringRoll_ls (r : RingD) (now : Int) : (ringRoll r now).2.2.2.length = r.2.2.2.length := by
  unfold ringRoll; split
  · exact shiftL_len _ _
  · rfl
set_option maxRecDepth 100000 in
theorem ringOk_len {r : RingD} (h : ringOk r = true) : 1 ≤ r.1 ∧ r.1 ≤ 1000 ∧ 1 ≤ r.2.2.1.length ∧ r.2.2.1.length ≤ 8 ∧ r.2.2.2.length = r.2.2.1.length ∧ 0 ≤ r.2.1 ∧ r.2.1 ≤ 1000000000 := by
  unfold ringOk ringHead timeB inB at h
  simp only [Bool.and_eq_true, decide_eq_true_eq] at h
  omega
set_option maxRecDepth 100000 in
/-- element j of a row of one's own: its cell, free to be written -/
theorem nums.own_at {K : IntKind} {lo hi : Nat} {w : World} {A : Option Addr} {n c : Nat} {l : List Int} (h : nums K lo hi w (.slice A n c) l) {j : Nat} (hj : j < l.length) :
    ∃ b off : Nat, A = some ⟨b, off, none⟩ ∧ lo ≤ b ∧ b < hi ∧ w.cell? ⟨b, off + j, none⟩ = some (.int K (l.getD j 0)) ∧ w.frozen? ⟨b, off + j, none⟩ = false ∧ Proofs.YtnmijppppcgobaaGreatDoor.blk (.slice A n c) = some b := by
  obtain ⟨A', c', hv, hc, hh⟩ := h
  simp only [Value.slice.injEq] at hv
  obtain ⟨rfl, rfl, rfl⟩ := hv
  obtain ⟨b, off, rfl, h1, h2, h3, h4⟩ := hh j hj
  refine ⟨b, off, rfl, h1, h2, h3, h4, ?_⟩
  cases hn : l.length with
  | zero => omega
  | succ n => rfl
set_option maxRecDepth 100000 in
/-- .. stored into -/
theorem nums.set {K : IntKind} {lo hi : Nat} {w : World} {b off n c : Nat} {l : List Int} (h : nums K lo hi w (.slice (some ⟨b, off, none⟩) n c) l) {j : Nat} (hj : j < l.length) (x : Int) :
    nums K lo hi (w.setCell ⟨b, off + j, none⟩ (.int K x)) (.slice (some ⟨b, off, none⟩) n c) (l.set j x) := by
  obtain ⟨A', c', hv, hc, hh⟩ := h
  simp only [Value.slice.injEq] at hv
  obtain ⟨rfl, rfl, rfl⟩ := hv
  refine ⟨some ⟨b, off, none⟩, c, by rw [List.length_set], by rw [List.length_set]; exact hc, fun i hi' => ?_⟩
  rw [List.length_set] at hi'
  obtain ⟨b', off', e, h1, h2, h3, h4⟩ := hh i hi'
  simp only [Option.some.injEq, Addr.mk.injEq, and_true] at e
  obtain ⟨rfl, rfl⟩ := e
  refine ⟨b, off, rfl, h1, h2, ?_, by simpa using h4⟩
  by_cases e : j = i
  · subst e
    rw [World.cell?_setCell_same _ _ _ h3, List.getD_eq_getElem?_getD, List.getElem?_set_self hj]
    rfl
  · rw [World.cell?_setCell_other _ _ _ _ (fun he => e (by have := congrArg Addr.off he; simp at this; omega)), h3, List.getD_eq_getElem?_getD, List.getD_eq_getElem?_getD, List.getElem?_set_ne e]
set_option maxRecDepth 100000 in
theorem nums.far {K : IntKind} {lo hi : Nat} {w : World} {v : Value} {l : List Int} (h : nums K lo hi w v l) {g o : Nat} (u : Value) (hg : Proofs.YtnmijppppcgobaaGreatDoor.blk v ≠ some g) : nums K lo hi (w.setCell ⟨g, o, none⟩ u) v l := by
  obtain ⟨A, c, rfl, hc, hh⟩ := h
  refine ⟨A, c, rfl, hc, fun j hj => ?_⟩
  obtain ⟨b, off, rfl, h1, h2, h3, h4⟩ := hh j hj
  have hb : Proofs.YtnmijppppcgobaaGreatDoor.blk (.slice (some ⟨b, off, none⟩) l.length c) = some b := by
    cases hn : l.length with
    | zero => omega
    | succ n => rfl
  refine ⟨b, off, rfl, h1, h2, ?_, by simpa using h4⟩
  rw [World.cell?_setCell_other _ _ _ _ (fun he => hg (by rw [hb]; exact congrArg some (by have := congrArg Addr.block he; simpa using this.symm)))]
  exact h3
/-- a ring as it is given back -/
def ringOne (r : RingD) (w : World) (e : Ending) (w' : World) : Prop := ∃ vc vs, e = .returned (.agg #[.int .i64 r.1, .int .i64 r.2.1, vc, vs]) ∧ RingR.mine w.heap.size w'.heap.size w' [.int .i64 r.1, .int .i64 r.2.1, vc, vs] r ∧ Below w.heap.size w w'
end Go.Proofs.YtnmijppppcgobaaGreatDoor
set_option linter.unusedVariables false
namespace Go.Proofs.YtnmijppppcgobaaGreatDoor
open Go.ChangeShapes Go.WideShapes Go.ChangeAt Go.RowKit Go.Deep

/-- what reads as data of type T reads as R's data, with G -/
def Opens {H : Type} (enc : TypeId × Value → H) (P : Program) (w : World) {α : Type} (R : Rep α) (T : TypeId) (G : α → Prop) : Prop :=
  ∀ (fuel : Nat) (cs : List Value) (x : DataW H × List MemPlace), DataW.trod enc P w 0 (fun _ => true) true fuel T cs = some x → ∃ y, R.rd w.heap.size w cs y ∧ G y
def OpensF {H : Type} (enc : TypeId × Value → H) (P : Program) (w : World) {α : Type} (fs : List Field) (off : Nat) (R : Rep α) (G : α → Prop) : Prop :=
  ∀ (n : Nat) (cs : List Value) (xs : List (DataW H × List MemPlace)), cs.length = off + R.k → xs.length = fs.length →
    (∀ (i : Nat) (f : Field), fs[i]? = some f → DataW.trod enc P w 0 (fun _ => true) true n f.type ((cs.drop f.offset).take (P.cellsOf f.type)) = xs[i]?) → ∃ y, R.rd w.heap.size w (cs.drop off) y ∧ G y
section
variable {H : Type} {enc : TypeId × Value → H} {P : Program} {w : World} {α β : Type} {R : Rep α} {S : Rep β} {G : α → Prop} {G' : β → Prop} {T e : TypeId}
set_option maxRecDepth 100000 in
theorem opens_int {K : IntKind} (ht : P.underlying T = some (.int K)) : Opens enc P w (Rep.int K) T (fun z => (Lit.int K z).wf = true) := by
  intro fuel cs x h
  obtain ⟨n, rfl, _, hw⟩ := DataW.trod_int ht h
  exact ⟨n, rfl, hw⟩
set_option maxRecDepth 100000 in
theorem opens_str (ht : P.underlying T = some .string) : Opens enc P w Rep.str T (fun s => s.size ≤ maxLen) := by
  intro fuel cs x h
  obtain ⟨n, rfl, _, hw⟩ := DataW.trod_string ht h
  exact ⟨n, rfl, hw⟩
set_option maxRecDepth 100000 in
theorem opens_slice (hk0 : 0 < R.k) (ht : P.underlying T = some (.slice e)) (hC : P.cellsOf e = R.k) (h0 : Opens enc P w R e G) : Opens enc P w R.slice T (fun l => l.length ≤ maxLen ∧ ∀ y ∈ l, G y) := by
  intro fuel cs x h
  rcases open_slice ht h with ⟨rfl, _⟩ | ⟨a, len, cap, m, n, D, Pl, rfl, _, hl, hm, hmm, _, hi⟩
  · exact ⟨[], ⟨none, 0, rfl, Nat.le_refl _, fun j x hx => by simp at hx⟩, Nat.zero_le _, fun y hy => by cases hy⟩
  · simp only [if_true] at hmm
    subst hmm
    have hy : ∀ i, i < len → ∃ y cs', w.cells? 0 (a.add (i * R.k)) R.k = some cs' ∧ R.rd w.heap.size w cs' y ∧ G y := fun i hil => by
      obtain ⟨cs', h1, h2⟩ := hi i (by omega)
      rw [hC] at h1
      obtain ⟨y, h3, h4⟩ := h0 n cs' _ h2
      exact ⟨y, cs', h1, h3, h4⟩
    have hL : ∀ k, k ≤ len → ∃ l : List α, l.length = k ∧ ∀ j x, l[j]? = some x → ∃ cs', w.cells? 0 (a.add (j * R.k)) R.k = some cs' ∧ R.rd w.heap.size w cs' x ∧ G x := by
      intro k
      induction k with
      | zero => intro _; exact ⟨[], rfl, fun j x hx => by simp at hx⟩
      | succ k ih =>
        intro hk
        obtain ⟨l, hl1, hl2⟩ := ih (by omega)
        obtain ⟨y, cs', h1, h2, h3⟩ := hy k (by omega)
        refine ⟨l ++ [y], by simp [hl1], fun j x hx => ?_⟩
        by_cases hj : j < l.length
        · rw [List.getElem?_append_left hj] at hx
          exact hl2 j x hx
        · have hj' : j = k := by have := (List.getElem?_eq_some_iff.1 hx).1; simp at this; omega
          subst hj'
          rw [List.getElem?_append_right (by omega), hl1, Nat.sub_self] at hx
          have hyx : y = x := by simpa using hx
          subst hyx
          exact ⟨cs', h1, h2, h3⟩
    obtain ⟨l, hl1, hl2⟩ := hL len (Nat.le_refl _)
    subst hl1
    refine ⟨l, ⟨some a, m, rfl, hl, fun j x hx => ?_⟩, by omega, fun y hy => ?_⟩
    · obtain ⟨cs', h1, h2, h3⟩ := hl2 j x hx
      obtain ⟨_, hlen, hat⟩ := World.cells?_some h1
      have hk := R.rd_len h2
      obtain ⟨b, off, spot⟩ := a
      have hcell : ∀ t u, cs'[t]? = some u → w.cell? ((⟨b, off, spot⟩ : Addr).add (j * R.k + t)) = some u := fun t u hu => by
        have ht : t < R.k := by rw [← hk]; exact (List.getElem?_eq_some_iff.1 hu).1
        rw [← Go.Deep.add_add, hat t ht, hu]
      have h00 := hcell 0 _ (List.getElem?_eq_getElem (by omega))
      have hspot : spot = none := by
        have hjl := (List.getElem?_eq_some_iff.1 hx).1
        obtain ⟨cs0, g1, g2, _⟩ := hl2 0 _ (List.getElem?_eq_getElem (by omega))
        obtain ⟨_, glen, gat⟩ := World.cells?_some g1
        have g0 := gat 0 (by omega)
        rw [List.getElem?_eq_getElem (by omega), Nat.zero_mul] at g0
        exact World.cell?_spot g0
      subst hspot
      have hb : b < w.heap.size := by
        rcases Nat.lt_or_ge b w.heap.size with h' | h'
        · exact h'
        · rw [Go.WideShapes.add_plain] at h00; simp [World.cell?, Array.getElem?_eq_none h'] at h00
      exact ⟨b, off, cs', rfl, hb, h2, fun t u hu => by rw [Nat.add_assoc, ← Go.WideShapes.add_plain]; exact hcell t u hu⟩
    · obtain ⟨j, hj⟩ := List.mem_iff_getElem?.1 hy
      obtain ⟨_, _, _, h3⟩ := hl2 j y hj
      exact h3
set_option maxRecDepth 100000 in
theorem opensF_one {f : Field} {off : Nat} (h : Opens enc P w R f.type G) (ho : f.offset = off) (hk : P.cellsOf f.type = R.k) : OpensF enc P w [f] off R G := by
  intro n cs xs hl hx hf
  match xs, hx with
  | [x], _ =>
    have := hf 0 f rfl
    rw [ho, hk, List.take_of_length_le (by rw [List.length_drop]; omega)] at this
    exact h n _ _ this
set_option maxRecDepth 100000 in
theorem opensF_cons {f : Field} {fs : List Field} {off : Nat} (h : Opens enc P w R f.type G) (ho : f.offset = off) (hk : P.cellsOf f.type = R.k) (hr : OpensF enc P w fs (off + R.k) S G') : OpensF enc P w (f :: fs) off (R.pair S) (fun y => G y.1 ∧ G' y.2) := by
  intro n cs xs hl hx hf
  match xs, hx with
  | x :: xs, hx =>
    have h0 := hf 0 f rfl
    rw [ho, hk] at h0
    obtain ⟨y, h1, h2⟩ := h n _ _ h0
    have hl' : cs.length = off + R.k + S.k := by rw [hl]; show off + (R.k + S.k) = _; omega
    obtain ⟨z, h3, h4⟩ := hr n cs xs hl' (by simpa using hx) (fun i g hg => by simpa using hf (i + 1) g (by simpa using hg))
    refine ⟨(y, z), ⟨(cs.drop off).take R.k, cs.drop (off + R.k), ?_, h1, h3⟩, h2, h4⟩
    rw [← List.drop_drop]
    exact (List.take_append_drop _ _).symm
set_option maxRecDepth 100000 in
theorem opens_struct {fs : Array Field} (ht : P.underlying T = some (.struct fs)) (hC : P.cellsOf T = R.k) (h : OpensF enc P w fs.toList 0 R G) : Opens enc P w R T G := by
  intro fuel cs x hx
  obtain ⟨xs, n, _, _, hl, hlen, hf⟩ := DataW.trod_struct ht hx
  have := h n cs xs (by rw [hl, hC]; omega) (by simpa using hlen) (fun i f hif => hf i f (by simpa using hif))
  simpa using this
end
end Go.Proofs.YtnmijppppcgobaaGreatDoor
set_option linter.unusedVariables false
namespace Go.Proofs.YtnmijppppcgobaaGreatDoor
open Go.ChangeShapes Go.WideShapes Go.ChangeAt Go.RowKit Go.Deep

set_option maxRecDepth 100000 in
/-- one's own rows in the blocks of a frame that is written -/
theorem bk.cells {w : World} {g : Nat} {t : TypeId} {a b c d : Value} (h : bk w g t [a, b, c, d]) : (w.cell? ⟨g, 0, none⟩ = some a ∧ w.cell? ⟨g, 1, none⟩ = some b ∧ w.cell? ⟨g, 2, none⟩ = some c ∧ w.cell? ⟨g, 3, none⟩ = some d) ∧ (w.frozen? ⟨g, 0, none⟩ = false ∧ w.frozen? ⟨g, 1, none⟩ = false ∧ w.frozen? ⟨g, 2, none⟩ = false ∧ w.frozen? ⟨g, 3, none⟩ = false) :=
  ⟨⟨h.cell 0, h.cell 1, h.cell 2, h.cell 3⟩, h.frozen 0, h.frozen 1, h.frozen 2, h.frozen 3⟩
set_option maxRecDepth 100000 in
set_option maxHeartbeats 1600000 in
theorem toRing_any (hi : Nat) (vc vs : Value) (r : RingD) (w : World) (h1 : rd .i64 hi w vc r.2.2.1) (h2 : rd .i64 hi w vs r.2.2.2) (hh : hi ≤ w.heap.size) (hc : r.2.2.1.length ≤ 1048576) (hs : r.2.2.2.length ≤ 1048576) :
    Calls Tryz.prog 95 #[.agg #[.int .i64 r.1, .int .i64 r.2.1, vc, vs]] w (ringOne r w) := by
  obtain ⟨sp, hd, cs, ss⟩ := r
  simp only at h1 h2 hc hs ⊢
  obtain ⟨A1, c1, rfl, -⟩ := h1.form
  obtain ⟨A2, c2, rfl, -⟩ := h2.form
  have HT1 := Lib.hid (fun W (hW : Below w.heap.size w W) => toInts_any hi (.slice A1 cs.length c1) cs W hc (h1.below hW hh) (Nat.le_trans hh hW.size))
  have HT2 := Lib.hid (fun W (hW : Below w.heap.size w W) => toInts_any hi (.slice A2 ss.length c2) ss W hs (h2.below hW hh) (Nat.le_trans hh hW.size))
  clear h1 h2
  go_enter Tryz.func95, Tryz.ntmps95
  go_wp2_with fail
  obtain ⟨W, hW⟩ : ∃ W, W = ((w.alloc (.cells #[.int .i64 sp, .int .i64 hd, .slice A1 cs.length c1, .slice A2 ss.length c2] 56)).alloc (.cells #[.int .i64 0, .int .i64 0, .slice none 0 0, .slice none 0 0] 26)).alloc (.cells #[.int .i64 sp, .int .i64 hd, .slice none 0 0, .slice none 0 0] 26) := ⟨_, rfl⟩
  have b0 : bk W w.heap.size 56 [.int .i64 sp, .int .i64 hd, .slice A1 cs.length c1, .slice A2 ss.length c2] := by rw [hW]; exact ((bk.new w _ _).alloc _).alloc _
  have b1 : bk W (w.heap.size + 1) 26 [.int .i64 0, .int .i64 0, .slice none 0 0, .slice none 0 0] := by rw [hW]; exact (by simpa using bk.new (w.alloc _) _ _ : bk _ (w.heap.size + 1) _ _).alloc _
  have b2 : bk W (w.heap.size + 1 + 1) 26 [.int .i64 sp, .int .i64 hd, .slice none 0 0, .slice none 0 0] := by rw [hW]; simpa using bk.new ((w.alloc _).alloc _) _ _
  have HB0 : Hid (Below w.heap.size w W) := Lib.hid (by rw [hW]; exact (((Below.refl _ _).alloc (Nat.le_refl _) _).alloc (by simp) _).alloc (by simp; omega) _)
  have hz0 : W.heap.size = w.heap.size + 3 := by rw [hW]; simp
  rw [← hW]
  clear hW
  refine (HT1.out W HB0.out).mono ?_
  rintro e w1 ⟨u1, rfl, hu1, hb1⟩
  obtain ⟨AU, cU, rfl, -⟩ := hu1.form
  have z1 := hb1.size
  have HU1 := Lib.hid hu1
  have HB1 : Hid (Below w.heap.size w w1) := Lib.hid (HB0.out.trans (hb1.mono (by omega)))
  replace b0 := b0.below hb1 (by omega)
  replace b1 := b1.below hb1 (by omega)
  replace b2 := b2.below hb1 (by omega)
  clear hb1 HB0
  obtain ⟨⟨p0, p1, p2, p3⟩, -⟩ := b0.cells
  obtain ⟨⟨q0, q1, q2, q3⟩, f0, f1, f2, f3⟩ := b2.cells
  have B0 := Lib.hid b0
  have B1 := Lib.hid b1
  have B2 := Lib.hid b2
  clear b0 b1 b2
  go_wp2_with fail
  obtain ⟨W2, hW2⟩ : ∃ W2, W2 = w1.setCell ⟨w.heap.size + 1 + 1, 2, none⟩ (.slice AU cs.length cU) := ⟨_, rfl⟩
  rw [← hW2]
  have b0 := B0.out.far (p := ⟨w.heap.size + 1 + 1, 2, none⟩) (show w.heap.size ≠ w.heap.size + 1 + 1 by omega) (.slice AU cs.length cU)
  have b1 := B1.out.far (p := ⟨w.heap.size + 1 + 1, 2, none⟩) (show w.heap.size + 1 ≠ w.heap.size + 1 + 1 by omega) (.slice AU cs.length cU)
  have b2 := B2.out.set 2 (.slice AU cs.length cU)
  rw [← hW2] at b0 b1 b2
  have HU2 : Hid (nums .i64 W.heap.size w1.heap.size W2 (.slice AU cs.length cU) cs) := Lib.hid (by rw [hW2]; exact HU1.out.far _ (fun h => by have := HU1.out.blk _ h; omega))
  have HB2 : Hid (Below w.heap.size w W2) := Lib.hid (by rw [hW2]; exact HB1.out.setCell (p := ⟨_, _, none⟩) (show w.heap.size ≤ w.heap.size + 1 + 1 by omega) _)
  have z2 : W2.heap.size = w1.heap.size := by rw [hW2]; simp
  clear hW2 p0 p1 p2 p3 q0 q1 q2 q3 f0 f1 f2 f3 HU1 HB1 B0 B1 B2
  refine (HT2.out W2 HB2.out).mono ?_
  rintro e w3 ⟨u3, rfl, hu3, hb3⟩
  obtain ⟨AV, cV, rfl, -⟩ := hu3.form
  have z3 := hb3.size
  have HU3 := Lib.hid (HU2.out.below hb3 (by omega))
  have HV3 := Lib.hid hu3
  have HB3 : Hid (Below w.heap.size w w3) := Lib.hid (HB2.out.trans (hb3.mono (by omega)))
  replace b0 := b0.below hb3 (by omega)
  replace b1 := b1.below hb3 (by omega)
  replace b2 := b2.below hb3 (by omega)
  clear hb3 hu3 HB2 HU2
  obtain ⟨⟨p0, p1, p2, p3⟩, -⟩ := b0.cells
  obtain ⟨⟨q0, q1, q2, q3⟩, f0, f1, f2, f3⟩ := b2.cells
  obtain ⟨⟨r0, r1, r2, r3⟩, g0, g1, g2, g3⟩ := b1.cells
  clear b0 b1 b2
  go_wp2
  refine bodyPost_ret (v := .agg #[.int .i64 sp, .int .i64 hd, .slice AU cs.length cU, .slice AV ss.length cV]) (by simp [results, Tryz.results95, go_sem, r0, r1, r2, r3]) rfl ?_
  have ht := (((((Turned.refl w.heap.size (w.heap.size + 3) w3).set (b := w.heap.size + 1 + 1) 3 (.slice AV ss.length cV) (by omega) (by omega)).set (b := w.heap.size + 1) 0 (.int .i64 sp) (by omega) (by omega)).set (b := w.heap.size + 1) 1 (.int .i64 hd) (by omega) (by omega)).set (b := w.heap.size + 1) 2 (.slice AU cs.length cU) (by omega) (by omega)).set (b := w.heap.size + 1) 3 (.slice AV ss.length cV) (by omega) (by omega)
  have hsz := ht.size
  exact ⟨_, _, rfl, ring_mine_of ((HU3.out.turned ht (.inr (by omega)) (by omega)).mono (by omega) (by omega)) ((HV3.out.turned ht (.inr (by omega)) (by omega)).mono (by omega) (by omega)) (fun b h h' => by have h5 := HU3.out.blk b h; have h6 := HV3.out.blk b h'; omega), HB3.out.trans (ht.below (Nat.le_refl _) (by omega))⟩
/-- what a ring takes of the bound -/
def ringSz (r : RingD) : Int := r.2.2.1.length + r.2.2.2.length
set_option maxRecDepth 100000 in
set_option maxHeartbeats 1600000 in
theorem szRing_any (vc vs : Value) (r : RingD) (left : Int) (w : World) {hi : Nat} (h1 : rd .i64 hi w vc r.2.2.1) (h2 : rd .i64 hi w vs r.2.2.2) (hc : r.2.2.1.length ≤ maxLen) (hs : r.2.2.2.length ≤ maxLen) (hl0 : 0 ≤ left) (hl1 : left ≤ 1048576) :
    Calls Tryz.prog 87 #[.agg #[.int .i64 r.1, .int .i64 r.2.1, vc, vs], .int .i64 left] w fun e w' => ∃ q : Int, e = .returned (.int .i64 q) ∧ (q = -1 ∨ (q = left - ringSz r ∧ 0 ≤ q)) ∧ Below w.heap.size w w' := by
  obtain ⟨sp, hd, cs, ss⟩ := r
  simp only [ringSz] at h1 h2 hc hs ⊢
  obtain ⟨A1, c1, rfl, -⟩ := h1.form
  obtain ⟨A2, c2, rfl, -⟩ := h2.form
  clear h1 h2
  unfold maxLen at hc hs
  have HI := Lib.hid (fun (n c : Nat) (A : Option Addr) (l : Int) (W : World) (h1 : n ≤ 9223372036854775807) (h0 : 0 ≤ l) (h2 : l ≤ 1048576) => (show Calls Tryz.prog 169 #[.slice A n c, .int .i64 l] W (fun e w' => e = .returned (.int .i64 (if l - n < 0 then -1 else l - n)) ∧ W = w') by
    have hw : IntKind.i64.wrap (l - n) = l - n := IntWalk.i64_in _ (by omega)
    by_cases hn : l - n < 0
    · rw [if_pos hn]
      go_enter Tryz.func169, Tryz.ntmps169
      go_wp2
      go_ret
      exact ⟨rfl, rfl⟩
    · rw [if_neg hn]
      go_enter Tryz.func169, Tryz.ntmps169
      go_wp2
      go_ret
      exact ⟨rfl, rfl⟩))
  have HB0 : Hid (Below w.heap.size w (w.alloc (.cells #[.int .i64 sp, .int .i64 hd, .slice A1 cs.length c1, .slice A2 ss.length c2] 56))) := Lib.hid ((Below.refl _ _).alloc (Nat.le_refl _) _)
  by_cases hn1 : left - (cs.length : Int) < 0
  · go_enter Tryz.func87, Tryz.ntmps87
    go_wp2_with fail
    refine (HI.out _ _ _ _ _ (by omega) hl0 hl1).mono ?_
    rw [if_pos hn1]
    rintro e w1 ⟨rfl, rfl⟩
    go_wp2
    go_ret
    exact ⟨_, rfl, .inl rfl, HB0.out⟩
  by_cases hn2 : left - (cs.length : Int) - (ss.length : Int) < 0
  · have hq : ¬ (left - (cs.length : Int) < 0) := hn1
    go_enter Tryz.func87, Tryz.ntmps87
    go_wp2_with fail
    refine (HI.out _ _ _ _ _ (by omega) hl0 hl1).mono ?_
    rw [if_neg (by omega : ¬ (left - (cs.length : Int) < 0))]
    rintro e w1 ⟨rfl, rfl⟩
    go_wp2_with fail
    refine (HI.out _ _ _ _ _ (by omega) (by omega) (by omega)).mono ?_
    rw [if_pos hn2]
    rintro e w1 ⟨rfl, rfl⟩
    go_wp2
    go_ret
    exact ⟨_, rfl, .inl rfl, HB0.out⟩
  · go_enter Tryz.func87, Tryz.ntmps87
    go_wp2_with fail
    refine (HI.out _ _ _ _ _ (by omega) hl0 hl1).mono ?_
    rw [if_neg (by omega : ¬ (left - (cs.length : Int) < 0))]
    rintro e w1 ⟨rfl, rfl⟩
    go_wp2_with fail
    refine (HI.out _ _ _ _ _ (by omega) (by omega) (by omega)).mono ?_
    rw [if_neg (by omega : ¬ (left - (cs.length : Int) - (ss.length : Int) < 0))]
    rintro e w1 ⟨rfl, rfl⟩
    go_wp2
    go_ret
    exact ⟨_, rfl, .inr ⟨by omega, by omega⟩, HB0.out⟩
end Go.Proofs.YtnmijppppcgobaaGreatDoor
set_option linter.unusedVariables false
namespace Go.Proofs.YtnmijppppcgobaaGreatDoor
open Go.ChangeShapes Go.WideShapes Go.ChangeAt Go.RowKit

set_option maxRecDepth 100000 in
theorem ring2 {hi : Nat} {w : World} {x y : Int} {vc vs : Value} {r : RingD} (h : RingR.rd hi w [.int .i64 x, .int .i64 y, vc, vs] r) : rd .i64 hi w vc r.2.2.1 ∧ rd .i64 hi w vs r.2.2.2 := by
  obtain ⟨c, s, e, h1, h2⟩ := ring_rd h
  simp only [List.cons.injEq, and_true] at e
  obtain ⟨-, -, rfl, rfl⟩ := e
  exact ⟨h1, h2⟩
set_option maxRecDepth 100000 in
theorem ringOwn {lo hi : Nat} {w : World} {x y : Int} {vc vs : Value} {r : RingD} (h : RingR.mine lo hi w [.int .i64 x, .int .i64 y, vc, vs] r) : nums .i64 lo hi w vc r.2.2.1 ∧ nums .i64 lo hi w vs r.2.2.2 ∧ ∀ b, blk vc = some b → blk vs ≠ some b := by
  obtain ⟨c, s, e, h1, h2, h3⟩ := ring_mine h
  simp only [List.cons.injEq, and_true] at e
  obtain ⟨-, -, rfl, rfl⟩ := e
  exact ⟨h1, h2, h3⟩
/-- a ring whose buckets are marked -/
def markedR (r : RingD) (k : Int) : RingD := (r.1, r.2.1, marksL (fun x => x) k r.2.2.1.length, marksL (fun x => x) (k + r.2.2.1.length) r.2.2.2.length)
set_option maxRecDepth 100000 in
theorem markRing_r {lo hi : Nat} {vc vs : Value} {r : RingD} (k : Int) {w : World} (hk0 : 0 ≤ k) (hk1 : k ≤ 1000000000) (h : RingR.mine lo hi w [.int .i64 r.1, .int .i64 r.2.1, vc, vs] r) (hh : hi ≤ w.heap.size) (hc : r.2.2.1.length ≤ 1048576) (hs : r.2.2.2.length ≤ 1048576) :
    Calls Tryz.prog 101 #[.agg #[.int .i64 r.1, .int .i64 r.2.1, vc, vs], .int .i64 k] w fun e w' => e = .returned (.int .i64 (k + r.2.2.1.length + r.2.2.2.length)) ∧ RingR.mine lo hi w' [.int .i64 r.1, .int .i64 r.2.1, vc, vs] (markedR r k) ∧ Turned lo hi w w' :=
  (markRing_any lo hi vc vs r k w hk0 hk1 (ringOwn h).1 (ringOwn h).2.1 (ringOwn h).2.2 hh hc hs).mono fun _ _ ⟨e, h1, h2, h3⟩ => ⟨e, ring_mine_of h1 h2 (ringOwn h).2.2, h3⟩
end Go.Proofs.YtnmijppppcgobaaGreatDoor
set_option linter.unusedVariables false
namespace Go.Proofs.YtnmijppppcgobaaGreatDoor
open Go.ChangeShapes Go.WideShapes Go.ChangeAt Go.RowKit

set_option maxRecDepth 100000 in
theorem bk.under {w w' : World} {lo hi g : Nat} {t : TypeId} {cs : List Value} (h : bk w g t cs) (ht : Turned lo hi w w') (hg : g < lo ∨ hi ≤ g) : bk w' g t cs := (ht.block g h.lt (by omega)).trans h
end Go.Proofs.YtnmijppppcgobaaGreatDoor
set_option linter.unusedVariables false
namespace Go.Proofs.YtnmijppppcgobaaGreatDoor
open Go.ChangeShapes Go.WideShapes Go.ChangeAt Go.RowKit

set_option maxRecDepth 100000 in
theorem infoSlot : (Tryz.prog.info? 176).map (fun i => (i.zero.map (·.cells), i.size, i.bytes)) = some (some #[.string ⟨#[]⟩, .string ⟨#[]⟩, .slice none 0 0], 3, 56) := by kernel_rfl
/-- the first i elements stand, each with memory of its own behind the row's -/
def grows (w : World) (g n i : Nat) (l : List SlotD) (E : Nat → List Value) (m : Nat → Nat) : Prop :=
  filled w g 0 3 n i E ∧ (∀ j, (E j).length = 3) ∧ Steps m i ∧ g < m 0 ∧ m i ≤ w.heap.size ∧ ∀ j x, j < i → l[j]? = some x → SlotR.mine (m j) (m (j + 1)) w (E j) x
set_option maxRecDepth 100000 in
theorem grows.start {w : World} {g n : Nat} {l : List SlotD} (h : roomL w g 0 (n * 3)) (hg : g < w.heap.size) : grows w g n 0 l (fun _ => [.string ⟨#[]⟩, .string ⟨#[]⟩, .slice none 0 0]) (fun _ => w.heap.size) :=
  ⟨filled.start h, fun _ => rfl, ⟨fun j hj => absurd hj (by omega)⟩, hg, Nat.le_refl _, fun j x hj => absurd hj (by omega)⟩
set_option maxRecDepth 100000 in
theorem Steps.put {m : Nat → Nat} {i M : Nat} (h : Steps m i) (hM : m i ≤ M) : Steps (fun j => if j = i + 1 then M else m j) (i + 1) := ⟨fun j hj => by
  show (if j = i + 1 then M else m j) ≤ (if j + 1 = i + 1 then M else m (j + 1))
  by_cases e : j = i
  · subst e
    rw [if_neg (by omega), if_pos rfl]; exact hM
  · rw [if_neg (by omega), if_neg (by omega)]; exact h.up j (by omega)⟩
set_option maxRecDepth 100000 in
theorem grows.next {w w2 : World} {g n i : Nat} {l : List SlotD} {E : Nat → List Value} {m : Nat → Nat} {x : SlotD} {u : Value} (h : grows w g n i l E m) (hb : Below w.heap.size w w2) (hx : l[i]? = some x) (hin : i < n) (hg : g < w.heap.size)
    (hu : nums .u8 w.heap.size w2.heap.size w2 u x.2.2) :
    grows (setsAt w2 g (i * 3) [.string x.1, .string x.2.1, u]) g n (i + 1) l (fun j => if j = i then [.string x.1, .string x.2.1, u] else E j) (fun j => if j = i + 1 then w2.heap.size else m j) := by
  obtain ⟨h1, h2, h3, h4, h5, h6⟩ := h
  have hf : filled w2 g 0 3 n i (fun j => if j = i then [.string x.1, .string x.2.1, u] else E j) := (h1.keep (hb.block g hg)).congr fun j hj => if_neg (by omega)
  have hl : ∀ j, ((fun j => if j = i then [Value.string x.1, .string x.2.1, u] else E j) j).length = 3 := fun j => by
    simp only
    split
    · rfl
    · exact h2 j
  have hn := hf.next hin (fun j _ => hl j)
  simp only [if_true, Nat.zero_add] at hn
  have ht := setsAt_turned [.string x.1, .string x.2.1, u] w2 g (i * 3) (Turned.refl g (g + 1) w2) (Nat.le_refl _) (by omega)
  have hsz := hb.size
  have hz := ht.size
  refine ⟨hn, hl, h3.put (by omega), by show g < (if 0 = i + 1 then w2.heap.size else m 0); rw [if_neg (by omega)]; exact h4, by show (if i + 1 = i + 1 then w2.heap.size else m (i + 1)) ≤ _; rw [if_pos rfl]; exact hz, fun j y hj hy => ?_⟩
  by_cases e : j = i
  · subst e
    have hxy : y = x := Option.some.inj (hy.symm.trans hx)
    subst hxy
    show SlotR.mine (if j = j + 1 then w2.heap.size else m j) (if j + 1 = j + 1 then w2.heap.size else m (j + 1)) _ (if j = j then _ else E j) y
    rw [if_neg (by omega), if_pos rfl, if_pos rfl]
    exact ((slot_mine_of hu).turned ht (.inr (by have := h3.le (Nat.zero_le j) (Nat.le_refl _); omega)) (Nat.le_refl _)).mono (by omega) (Nat.le_refl _)
  · have hji : j < i := by omega
    show SlotR.mine (if j = i + 1 then w2.heap.size else m j) (if j + 1 = i + 1 then w2.heap.size else m (j + 1)) _ (if j = i then _ else E j) y
    rw [if_neg e, if_neg (by omega), if_neg (by omega)]
    have hm0 := h3.le (Nat.zero_le j) (by omega)
    have hm1 := h3.le (show j + 1 ≤ i by omega) (Nat.le_refl _)
    exact ((h6 j y hji hy).below hb (by omega)).turned ht (.inr (by omega)) (by omega)
set_option maxRecDepth 100000 in
theorem grows.done {w : World} {g n lo : Nat} {l : List SlotD} {E : Nat → List Value} {m : Nat → Nat} (h : grows w g n n l E m) (hn : n = l.length) (hg : lo ≤ g) : SlotsR.mine lo w.heap.size w [.slice (some ⟨g, 0, none⟩) n n] l := by
  obtain ⟨h1, h2, h3, h4, h5, h6⟩ := h
  exact rows_mine (R := SlotR) hn (Nat.le_refl _) hg h4 h3 h5 h1 fun j x hx => h6 j x (by rw [hn]; exact (List.getElem?_eq_some_iff.1 hx).1) hx
set_option maxRecDepth 100000 in
set_option maxHeartbeats 1600000 in
theorem toSlots_any (hi : Nat) (v : Value) (l : List SlotD) (w : World) (hn : l.length ≤ 1048576) (hs : ∀ x ∈ l, x.2.2.length ≤ 1048576) (h : SlotsR.rd hi w [v] l) (hhi : hi ≤ w.heap.size) :
    Calls Tryz.prog 96 #[v] w fun e w' => ∃ u, e = .returned u ∧ SlotsR.mine w.heap.size w'.heap.size w' [u] l ∧ Below w.heap.size w w' := by
  obtain ⟨A, c, rfl, hc, h⟩ := slots_rd h
  have HR := Lib.hid h
  have HS := Lib.hid hs
  clear h hs
  have hmk := make_run (P := Tryz.prog) 27 176 #[.string ⟨#[]⟩, .string ⟨#[]⟩, .slice none 0 0] 3 56 Tryz.underlying27 infoSlot l.length (by omega) (by omega)
  go_enter Tryz.func96, Tryz.ntmps96
  go_wp2
  go_loopw [4] (fun iv wr => ∃ (i : Nat) (E : Nat → List Value) (m : Nat → Nat), i ≤ l.length ∧ iv = .int .i64 i ∧ Hid (grows wr w.heap.size l.length i l E m) ∧ w.heap.size < wr.heap.size ∧ Hid (Below w.heap.size w wr)) (fun iv _ => l.length - (intOf iv).toNat)
  case atStart => exact ⟨0, _, _, Nat.zero_le _, rfl, Lib.hid (grows.start (room_made w _ _ _) (by simp)), by simp, Lib.hid ((Below.refl _ _).alloc (Nat.le_refl _) _)⟩
  case round =>
    obtain ⟨i, E, m, hi, rfl, HF, hz, HB⟩ := hrel
    by_cases hin : i < l.length
    · obtain ⟨x, hx⟩ : ∃ x, l[i]? = some x := ⟨_, List.getElem?_eq_getElem hin⟩
      obtain ⟨b, off, A', c', rfl, hbl, c0, c1, c2, hrd⟩ := HR.out i x hx
      have hxs := HS.out x (List.mem_of_getElem? hx)
      have HX := Lib.hid hx
      clear hx
      have c0 := (HB.out.cell (p := ⟨b, off + i * 3, none⟩) (show b < w.heap.size by omega)).trans c0
      have c1 := (HB.out.cell (p := ⟨b, off + i * 3 + 1, none⟩) (show b < w.heap.size by omega)).trans c1
      have c2 := (HB.out.cell (p := ⟨b, off + i * 3 + 2, none⟩) (show b < w.heap.size by omega)).trans c2
      have HRD := Lib.hid (hrd.below HB.out hhi)
      clear hrd
      have g1 : (i : Int) < (l.length : Int) := by omega
      have g2 : 0 ≤ (i : Int) := by omega
      go_wp2_with fail
      refine (toSlot_any _ _ x _ hxs HRD.out (by omega)).mono ?_
      rintro e w2 ⟨u, rfl, hu, hb2⟩
      obtain ⟨AU, cU, rfl, -⟩ := hu.form
      have HN := Lib.hid (HF.out.next hb2 HX.out hin hz hu)
      obtain ⟨⟨u0, d0⟩, f0⟩ := (HF.out.1.keep (hb2.block _ hz)).cells hin 0 (by omega)
      obtain ⟨⟨u1, d1⟩, f1⟩ := (HF.out.1.keep (hb2.block _ hz)).cells hin 1 (by omega)
      obtain ⟨⟨u2, d2⟩, f2⟩ := (HF.out.1.keep (hb2.block _ hz)).cells hin 2 (by omega)
      simp only [Nat.zero_add, Nat.add_zero] at d0 f0 d1 f1 d2 f2
      have hz2 := hb2.size
      have HB2 : Hid (Below w.heap.size w w2) := Lib.hid (HB.out.trans (hb2.mono (by omega)))
      clear hb2 hu
      go_wp2
      go_roundw
      case rel => exact ⟨i + 1, _, _, by omega, by go_num, HN, by simp; omega, Lib.hid (setsAt_below [.string x.1, .string x.2.1, .slice AU x.2.2.length cU] w2 w.heap.size (i * 3) HB2.out (Nat.le_refl _))⟩
      case measure => simp [intOf] <;> omega
    · obtain rfl : i = l.length := by omega
      go_wp2
      go_ret
      exact ⟨_, rfl, HF.out.done rfl (Nat.le_refl _), HB.out⟩
set_option maxRecDepth 100000 in
set_option maxHeartbeats 3200000 in
theorem eqSlots_any (hi1 hi2 : Nat) (va vb : Value) (l : List SlotD) (w : World) (hn : l.length ≤ 4611686018427387904) (hs : ∀ x ∈ l, x.2.2.length ≤ 4611686018427387904) (h1 : SlotsR.rd hi1 w [va] l) (h2 : SlotsR.rd hi2 w [vb] l) (hh1 : hi1 ≤ w.heap.size) (hh2 : hi2 ≤ w.heap.size) :
    Calls Tryz.prog 99 #[va, vb] w fun e w' => e = .returned (.bool true) ∧ Below w.heap.size w w' := by
  obtain ⟨A1, c1, rfl, -, h1⟩ := slots_rd h1
  obtain ⟨A2, c2, rfl, -, h2⟩ := slots_rd h2
  have H1 := Lib.hid h1
  have H2 := Lib.hid h2
  have HS := Lib.hid hs
  clear h1 h2 hs
  go_enter Tryz.func99, Tryz.ntmps99
  go_wp2
  go_loopw [5] (fun iv wr => ∃ k : Nat, k ≤ l.length ∧ iv = .int .i64 k ∧ Hid (Below w.heap.size w wr) ∧ w.heap.size ≤ wr.heap.size) (fun iv _ => l.length - (intOf iv).toNat)
  case atStart => exact ⟨0, Nat.zero_le _, rfl, Lib.hid (Below.refl _ _), Nat.le_refl _⟩
  case round =>
    obtain ⟨k, hk, rfl, HB, hz⟩ := hrel
    by_cases hlt : k < l.length
    · obtain ⟨x, hx⟩ : ∃ x, l[k]? = some x := ⟨_, List.getElem?_eq_getElem hlt⟩
      obtain ⟨b1, o1, B1, d1, rfl, hb1, x1, y1, v1, r1⟩ := H1.out k x hx
      obtain ⟨b2, o2, B2, d2, rfl, hb2, x2, y2, v2, r2⟩ := H2.out k x hx
      have hxs := HS.out x (List.mem_of_getElem? hx)
      have HE := Lib.hid (fun W (hW : Below w.heap.size w W) => eqSlot_any hi1 hi2 _ _ x W hxs (r1.below hW hh1) (r2.below hW hh2) (Nat.le_trans hh1 hW.size) (Nat.le_trans hh2 hW.size))
      clear r1 r2
      have x1 := (HB.out.cell (p := ⟨b1, _, none⟩) (show b1 < w.heap.size by omega)).trans x1
      have y1 := (HB.out.cell (p := ⟨b1, _, none⟩) (show b1 < w.heap.size by omega)).trans y1
      have v1 := (HB.out.cell (p := ⟨b1, _, none⟩) (show b1 < w.heap.size by omega)).trans v1
      have x2 := (HB.out.cell (p := ⟨b2, _, none⟩) (show b2 < w.heap.size by omega)).trans x2
      have y2 := (HB.out.cell (p := ⟨b2, _, none⟩) (show b2 < w.heap.size by omega)).trans y2
      have v2 := (HB.out.cell (p := ⟨b2, _, none⟩) (show b2 < w.heap.size by omega)).trans v2
      have g1 : (k : Int) < (l.length : Int) := by omega
      have g2 : 0 ≤ (k : Int) := by omega
      clear hx
      have hD : Below w.heap.size w wr.drew := HB.out.drew
      go_wp2
      go_region_held3 (fun w' => w'.cell? ⟨b1, o1 + k * 3, none⟩ = some (.string x.1) ∧ w'.cell? ⟨b1, o1 + k * 3 + 1, none⟩ = some (.string x.2.1) ∧ w'.cell? ⟨b1, o1 + k * 3 + 2, none⟩ = some (.slice B1 x.2.2.length d1) ∧ w'.cell? ⟨b2, o2 + k * 3, none⟩ = some (.string x.1) ∧ w'.cell? ⟨b2, o2 + k * 3 + 1, none⟩ = some (.string x.2.1) ∧ w'.cell? ⟨b2, o2 + k * 3 + 2, none⟩ = some (.slice B2 x.2.2.length d2)) (go_keep) ((go_at_call 180; refine (HE.out _ hD).mono ?_; rintro e w2 ⟨rfl, hb⟩; have q1 := (hb.cell (p := ⟨b1, o1 + k * 3, none⟩) (show b1 < wr.heap.size by omega)).trans x1; have q2 := (hb.cell (p := ⟨b1, o1 + k * 3 + 1, none⟩) (show b1 < wr.heap.size by omega)).trans y1; have q3 := (hb.cell (p := ⟨b1, o1 + k * 3 + 2, none⟩) (show b1 < wr.heap.size by omega)).trans v1; have q4 := (hb.cell (p := ⟨b2, o2 + k * 3, none⟩) (show b2 < wr.heap.size by omega)).trans x2; have q5 := (hb.cell (p := ⟨b2, o2 + k * 3 + 1, none⟩) (show b2 < wr.heap.size by omega)).trans y2; have q6 := (hb.cell (p := ⟨b2, o2 + k * 3 + 2, none⟩) (show b2 < wr.heap.size by omega)).trans v2))
      have hz2 := hb.size
      have HB2 : Hid (Below w.heap.size w w2) := Lib.hid (hD.trans (hb.mono hz))
      clear hb
      go_wp2
      go_roundw
      case rel => exact ⟨k + 1, by omega, by go_num, HB2, by have : wr.heap.size ≤ w2.heap.size := hz2; omega⟩
      case measure => simp [intOf] <;> omega
    · go_wp2
      go_ret
      exact ⟨rfl, HB.out⟩
def slotSz (x : SlotD) : Nat := x.1.size + x.2.1.size + x.2.2.length
def slotsSz (l : List SlotD) : Nat := l.length + (l.map slotSz).sum
set_option maxRecDepth 100000 in
set_option maxHeartbeats 1600000 in
theorem szSlots_any (hi : Nat) (v : Value) (l : List SlotD) (left : Int) (w : World) (hn : l.length ≤ maxLen) (hs : ∀ x ∈ l, x.1.size ≤ maxLen ∧ x.2.1.size ≤ maxLen ∧ x.2.2.length ≤ maxLen) (h : SlotsR.rd hi w [v] l) (hh : hi ≤ w.heap.size) (h0 : 0 ≤ left) (h1 : left ≤ 1048576) :
    Calls Tryz.prog 88 #[v, .int .i64 left] w (szRes left (slotsSz l) w) := by
  obtain ⟨A, c, rfl, hc, h⟩ := slots_rd h
  have HR := Lib.hid h
  have HS := Lib.hid hs
  clear h hs
  unfold maxLen at hn
  by_cases hbig : left - (l.length : Int) < 0
  · go_enter Tryz.func88, Tryz.ntmps88
    go_wp2
    go_ret
    exact ⟨_, rfl, .inl rfl, Below.refl _ _⟩
  have hge : 0 ≤ left - (l.length : Int) := by omega
  go_enter Tryz.func88, Tryz.ntmps88
  go_wp2
  go_loopw [1, 5] (fun nv iv wr => ∃ (i : Nat) (r : Int), i ≤ l.length ∧ iv = .int .i64 i ∧ nv = .int .i64 r ∧ 0 ≤ r ∧ r ≤ 1048576 ∧ Hid (r = left - (l.length : Int) - (sumTo slotSz l i : Nat)) ∧ Hid (Below w.heap.size w wr) ∧ w.heap.size ≤ wr.heap.size) (fun _ iv _ => l.length - (intOf iv).toNat)
  case atStart => exact ⟨0, _, Nat.zero_le _, rfl, rfl, by omega, by omega, Lib.hid (by simp [sumTo]), Lib.hid (Below.refl _ _), Nat.le_refl _⟩
  case round =>
    obtain ⟨i, r, hi, rfl, rfl, hr0, hr1, HV, HB, hz⟩ := hrel
    by_cases hin : i < l.length
    · obtain ⟨x, hx⟩ : ∃ x, l[i]? = some x := ⟨_, List.getElem?_eq_getElem hin⟩
      obtain ⟨b, off, A', c', rfl, hbl, c0, c1, c2, hrd⟩ := HR.out i x hx
      obtain ⟨s1, s2, s3⟩ := HS.out x (List.mem_of_getElem? hx)
      have HN := Lib.hid (sumTo_next slotSz l i x hx)
      clear hx
      have c0 := (HB.out.cell (p := ⟨b, off + i * 3, none⟩) (show b < w.heap.size by omega)).trans c0
      have c1 := (HB.out.cell (p := ⟨b, off + i * 3 + 1, none⟩) (show b < w.heap.size by omega)).trans c1
      have c2 := (HB.out.cell (p := ⟨b, off + i * 3 + 2, none⟩) (show b < w.heap.size by omega)).trans c2
      have HZ := Lib.hid (szSlot_any _ x r wr (hrd.below HB.out hh) s1 s2 s3 hr0 hr1)
      clear hrd s1 s2 s3
      have g1 : (i : Int) < (l.length : Int) := by omega
      have g2 : 0 ≤ (i : Int) := by omega
      go_wp2_with fail
      refine HZ.out.mono ?_
      rintro e w2 ⟨r2, rfl, hr2, hb2⟩
      have hz2 := hb2.size
      have HB2 : Hid (Below w.heap.size w w2) := Lib.hid (HB.out.trans (hb2.mono (by omega)))
      clear hb2
      rcases hr2 with rfl | ⟨hr2, hr3⟩
      · go_wp2
        go_ret
        exact ⟨_, rfl, .inl rfl, HB2.out⟩
      · have HR2 := Lib.hid hr2
        have hr4 : r2 ≤ 1048576 := by omega
        clear hr2
        go_wp2
        go_roundw
        case rel => exact ⟨i + 1, r2, by omega, by go_num, rfl, hr3, hr4, Lib.hid (by rw [HN.out, HR2.out, HV.out]; unfold slotSz; omega), HB2, by omega⟩
        case measure => simp [intOf] <;> omega
    · obtain rfl : i = l.length := by omega
      go_wp2
      go_ret
      exact ⟨r, rfl, .inr ⟨by rw [HV.out, sumTo_all]; unfold slotsSz; omega, hr0⟩, HB.out⟩
end Go.Proofs.YtnmijppppcgobaaGreatDoor
set_option linter.unusedVariables false
namespace Go.Proofs.YtnmijppppcgobaaGreatDoor
open Go.ChangeShapes Go.WideShapes Go.ChangeAt Go.RowKit

set_option maxRecDepth 100000 in
set_option maxHeartbeats 4000000 in
theorem toAcctI_any (hi : Nat) (vh vc vs vl : Value) (a : AcctD) (w : World) (hz : acctSmall 1048576 a) (h : AcctR.rd hi w (aCells a vh vc vs vl) a) (hh : hi ≤ w.heap.size) :
    Calls Tryz.prog 38 #[.agg #[.string (aId a), .int .i64 (aLim a), .int .i64 (aPos a), .int .i64 (aMost a), .int .i64 (aSum a), vh, .int .i64 (aR a).1, .int .i64 (aR a).2.1, vc, vs, vl]] w (acctOneI a w) := by
  obtain ⟨vh', vc', vs', vl', hcs, r1, r2, r3, r4⟩ := acct_rd h
  simp only [aCells, List.cons.injEq, and_true, true_and] at hcs
  obtain ⟨rfl, rfl, rfl, rfl⟩ := hcs
  clear h
  obtain ⟨z1, z2, z3, z4, z5⟩ := hz
  obtain ⟨id, lim, pos, most, sum, hs, ⟨sp, hd, cs, ss⟩, sl⟩ := a
  simp only [aId, aLim, aPos, aMost, aSum, aH, aS] at r1 r2 r3 r4 z1 z2 z3 z4 z5 ⊢
  obtain ⟨AH, cH, rfl, -⟩ := Rep.slice_form r1
  obtain ⟨AC, cC, rfl, -⟩ := r2.form
  obtain ⟨AS, cS, rfl, -⟩ := r3.form
  obtain ⟨AL, cL, rfl, -⟩ := Rep.slice_form r4
  have HT1 := Lib.hid (fun W (hW : Below w.heap.size w W) => toHolds_any hi _ hs W z1 (Rep.below (R := HoldsR) r1 hW hh) (Nat.le_trans hh hW.size))
  have HT2 := Lib.hid (fun W (hW : Below w.heap.size w W) => toRing_any hi _ _ (sp, hd, cs, ss) W (r2.below hW hh) (r3.below hW hh) (Nat.le_trans hh hW.size) z2 z3)
  have HT3 := Lib.hid (fun W (hW : Below w.heap.size w W) => toSlots_any hi _ sl W z4 z5 (Rep.below (R := SlotsR) r4 hW hh) (Nat.le_trans hh hW.size))
  clear r1 r2 r3 r4 z5
  go_enter Tryz.func38, Tryz.ntmps38
  go_wp2_with fail
  obtain ⟨W, hW⟩ : ∃ W, W = ((w.alloc (.cells #[.string id, .int .i64 lim, .int .i64 pos, .int .i64 most, .int .i64 sum, .slice AH hs.length cH, .int .i64 sp, .int .i64 hd, .slice AC cs.length cC, .slice AS ss.length cS, .slice AL sl.length cL] 59)).alloc (.cells #[.string ⟨#[]⟩, .int .i64 0, .int .i64 0, .int .i64 0, .int .i64 0, .slice none 0 0, .int .i64 0, .int .i64 0, .slice none 0 0, .slice none 0 0, .slice none 0 0] 29)).alloc (.cells #[.string id, .int .i64 lim, .int .i64 pos, .int .i64 most, .int .i64 sum, .slice none 0 0, .int .i64 0, .int .i64 0, .slice none 0 0, .slice none 0 0, .slice none 0 0] 29) := ⟨_, rfl⟩
  have b0 : bk W w.heap.size 59 [.string id, .int .i64 lim, .int .i64 pos, .int .i64 most, .int .i64 sum, .slice AH hs.length cH, .int .i64 sp, .int .i64 hd, .slice AC cs.length cC, .slice AS ss.length cS, .slice AL sl.length cL] := by rw [hW]; exact ((bk.new w _ _).alloc _).alloc _
  have b1 : bk W (w.heap.size + 1) 29 [.string ⟨#[]⟩, .int .i64 0, .int .i64 0, .int .i64 0, .int .i64 0, .slice none 0 0, .int .i64 0, .int .i64 0, .slice none 0 0, .slice none 0 0, .slice none 0 0] := by rw [hW]; simpa using (bk.new (w.alloc _) 29 [.string ⟨#[]⟩, .int .i64 0, .int .i64 0, .int .i64 0, .int .i64 0, .slice none 0 0, .int .i64 0, .int .i64 0, .slice none 0 0, .slice none 0 0, .slice none 0 0]).alloc _
  have b2 : bk W (w.heap.size + 1 + 1) 29 [.string id, .int .i64 lim, .int .i64 pos, .int .i64 most, .int .i64 sum, .slice none 0 0, .int .i64 0, .int .i64 0, .slice none 0 0, .slice none 0 0, .slice none 0 0] := by rw [hW]; simpa using bk.new ((w.alloc _).alloc _) 29 [.string id, .int .i64 lim, .int .i64 pos, .int .i64 most, .int .i64 sum, .slice none 0 0, .int .i64 0, .int .i64 0, .slice none 0 0, .slice none 0 0, .slice none 0 0]
  have HB0 : Hid (Below w.heap.size w W) := Lib.hid (by rw [hW]; exact (((Below.refl _ _).alloc (Nat.le_refl _) _).alloc (by simp) _).alloc (by simp <;> omega) _)
  have y0 : W.heap.size = w.heap.size + 3 := by rw [hW]; simp
  rw [← hW]
  clear hW
  refine (HT1.out W HB0.out).mono ?_
  rintro e w1 ⟨u1, rfl, hu1, hb1⟩
  obtain ⟨A1, c1, rfl, -⟩ := Rep.slice_form hu1.rd
  have y1 := hb1.size
  have HU1 := Lib.hid hu1
  have HB1 : Hid (Below w.heap.size w w1) := Lib.hid (HB0.out.trans (hb1.mono (by omega)))
  replace b0 := b0.below hb1 (by omega)
  replace b1 := b1.below hb1 (by omega)
  replace b2 := b2.below hb1 (by omega)
  clear hu1 hb1 HB0 HT1
  obtain ⟨⟨p0, p1, p2, p3, p4, p5, p6, p7, p8, p9, p10⟩, -⟩ := b0.eleven
  obtain ⟨⟨q0, q1, q2, q3, q4, q5, q6, q7, q8, q9, q10⟩, f0, f1, f2, f3, f4, f5, f6, f7, f8, f9, f10⟩ := b2.eleven
  have B0 := Lib.hid b0
  have B1 := Lib.hid b1
  have B2 := Lib.hid b2
  clear b0 b1 b2
  go_wp2_with fail
  obtain ⟨W2, hW2⟩ : ∃ W2, W2 = w1.setCell ⟨w.heap.size + 1 + 1, 5, none⟩ (.slice A1 hs.length c1) := ⟨_, rfl⟩
  have ht2 := (Turned.refl (w.heap.size + 1) (w.heap.size + 3) w1).set (b := w.heap.size + 1 + 1) 5 (.slice A1 hs.length c1) (by omega) (by omega)
  have b2 : bk (w1.setCell ⟨w.heap.size + 1 + 1, 5, none⟩ (.slice A1 hs.length c1)) (w.heap.size + 1 + 1) 29 [.string id, .int .i64 lim, .int .i64 pos, .int .i64 most, .int .i64 sum, .slice A1 hs.length c1, .int .i64 0, .int .i64 0, .slice none 0 0, .slice none 0 0, .slice none 0 0] := B2.out.set 5 (.slice A1 hs.length c1)
  have b0 := B0.out.under ht2 (.inl (by omega))
  have b1 := B1.out.far (p := ⟨w.heap.size + 1 + 1, 5, none⟩) (show w.heap.size + 1 ≠ w.heap.size + 1 + 1 by omega) (.slice A1 hs.length c1)
  rw [← hW2] at ht2 b0 b1 b2 ⊢
  clear hW2 B0 B1 B2 p0 p1 p2 p3 p4 p5 p6 p7 p8 p9 p10 q0 q1 q2 q3 q4 q5 q6 q7 q8 q9 q10 f0 f1 f2 f3 f4 f5 f6 f7 f8 f9 f10
  have y2 := ht2.size
  have HU2 := Lib.hid (HU1.out.turned ht2 (.inr (by omega)) (Nat.le_refl _))
  have HB2 := Lib.hid (HB1.out.trans (ht2.below (B := w.heap.size) (by omega) (by omega)))
  clear ht2 HU1 HB1
  refine (HT2.out W2 HB2.out).mono ?_
  rintro e w3 ⟨v3, v4, rfl, hu3, hb3⟩
  obtain ⟨A3, c3, rfl, -⟩ := (ring2 hu3.rd).1.form
  obtain ⟨A4, c4, rfl, -⟩ := (ring2 hu3.rd).2.form
  have y3 := hb3.size
  have HU3 := Lib.hid (HU2.out.below hb3 (by omega))
  have HV3 := Lib.hid hu3
  have HB3 : Hid (Below w.heap.size w w3) := Lib.hid (HB2.out.trans (hb3.mono (by omega)))
  replace b0 := b0.below hb3 (by omega)
  replace b1 := b1.below hb3 (by omega)
  replace b2 := b2.below hb3 (by omega)
  clear hu3 hb3 HU2 HB2 HT2
  obtain ⟨⟨p0, p1, p2, p3, p4, p5, p6, p7, p8, p9, p10⟩, -⟩ := b0.eleven
  obtain ⟨⟨q0, q1, q2, q3, q4, q5, q6, q7, q8, q9, q10⟩, f0, f1, f2, f3, f4, f5, f6, f7, f8, f9, f10⟩ := b2.eleven
  have B0 := Lib.hid b0
  have B1 := Lib.hid b1
  have B2 := Lib.hid b2
  clear b0 b1 b2
  go_wp2_with fail
  obtain ⟨W4, hW4⟩ : ∃ W4, W4 = (((w3.setCell ⟨w.heap.size + 1 + 1, 6, none⟩ (.int .i64 sp)).setCell ⟨w.heap.size + 1 + 1, 7, none⟩ (.int .i64 hd)).setCell ⟨w.heap.size + 1 + 1, 8, none⟩ (.slice A3 cs.length c3)).setCell ⟨w.heap.size + 1 + 1, 9, none⟩ (.slice A4 ss.length c4) := ⟨_, rfl⟩
  have ht4 := ((((Turned.refl (w.heap.size + 1 + 1) (w.heap.size + 3) w3).set (b := w.heap.size + 1 + 1) 6 (.int .i64 sp) (by omega) (by omega)).set (b := w.heap.size + 1 + 1) 7 (.int .i64 hd) (by omega) (by omega)).set (b := w.heap.size + 1 + 1) 8 (.slice A3 cs.length c3) (by omega) (by omega)).set (b := w.heap.size + 1 + 1) 9 (.slice A4 ss.length c4) (by omega) (by omega)
  have b2 : bk ((((w3.setCell ⟨w.heap.size + 1 + 1, 6, none⟩ (.int .i64 sp)).setCell ⟨w.heap.size + 1 + 1, 7, none⟩ (.int .i64 hd)).setCell ⟨w.heap.size + 1 + 1, 8, none⟩ (.slice A3 cs.length c3)).setCell ⟨w.heap.size + 1 + 1, 9, none⟩ (.slice A4 ss.length c4)) (w.heap.size + 1 + 1) 29 [.string id, .int .i64 lim, .int .i64 pos, .int .i64 most, .int .i64 sum, .slice A1 hs.length c1, .int .i64 sp, .int .i64 hd, .slice A3 cs.length c3, .slice A4 ss.length c4, .slice none 0 0] := (((B2.out.set 6 (.int .i64 sp)).set 7 (.int .i64 hd)).set 8 (.slice A3 cs.length c3)).set 9 (.slice A4 ss.length c4)
  have b0 := B0.out.under ht4 (.inl (by omega))
  have b1 := B1.out.under ht4 (.inl (by omega))
  rw [← hW4] at ht4 b0 b1 b2 ⊢
  clear hW4 B0 B1 B2 p0 p1 p2 p3 p4 p5 p6 p7 p8 p9 p10 q0 q1 q2 q3 q4 q5 q6 q7 q8 q9 q10 f0 f1 f2 f3 f4 f5 f6 f7 f8 f9 f10
  have y4 := ht4.size
  have HU4 := Lib.hid (HU3.out.turned ht4 (.inr (by omega)) (by omega))
  have HV4 := Lib.hid (HV3.out.turned ht4 (.inr (by omega)) (Nat.le_refl _))
  have HB4 := Lib.hid (HB3.out.trans (ht4.below (B := w.heap.size) (by omega) (by omega)))
  clear ht4 HU3 HV3 HB3
  refine (HT3.out W4 HB4.out).mono ?_
  rintro e w5 ⟨u6, rfl, hu5, hb5⟩
  obtain ⟨A6, c6, rfl, -⟩ := Rep.slice_form hu5.rd
  have y5 := hb5.size
  have HU5 := Lib.hid (HU4.out.below hb5 (by omega))
  have HV5 := Lib.hid (HV4.out.below hb5 (by omega))
  have HS5 := Lib.hid hu5
  have HB5 : Hid (Below w.heap.size w w5) := Lib.hid (HB4.out.trans (hb5.mono (by omega)))
  replace b1 := b1.below hb5 (by omega)
  replace b2 := b2.below hb5 (by omega)
  clear hu5 hb5 HU4 HV4 HB4 HT3 b0
  obtain ⟨⟨q0, q1, q2, q3, q4, q5, q6, q7, q8, q9, q10⟩, f0, f1, f2, f3, f4, f5, f6, f7, f8, f9, f10⟩ := b2.eleven
  obtain ⟨⟨r0, r1, r2, r3, r4, r5, r6, r7, r8, r9, r10⟩, g0, g1, g2, g3, g4, g5, g6, g7, g8, g9, g10⟩ := b1.eleven
  clear b1 b2
  go_wp2
  refine bodyPost_ret (v := .agg #[.string id, .int .i64 lim, .int .i64 pos, .int .i64 most, .int .i64 sum, .slice A1 hs.length c1, .int .i64 sp, .int .i64 hd, .slice A3 cs.length c3, .slice A4 ss.length c4, .slice A6 sl.length c6]) (by simp [results, Tryz.results38, go_sem, r0, r1, r2, r3, r4, r5, r6, r7, r8, r9, r10]) rfl ?_
  have ht := ((((((((((((Turned.refl (w.heap.size + 1) (w.heap.size + 3) w5).set (b := w.heap.size + 1 + 1) 10 (.slice A6 sl.length c6) (by omega) (by omega)).set (b := w.heap.size + 1) 0 (.string id) (by omega) (by omega)).set (b := w.heap.size + 1) 1 (.int .i64 lim) (by omega) (by omega)).set (b := w.heap.size + 1) 2 (.int .i64 pos) (by omega) (by omega)).set (b := w.heap.size + 1) 3 (.int .i64 most) (by omega) (by omega)).set (b := w.heap.size + 1) 4 (.int .i64 sum) (by omega) (by omega)).set (b := w.heap.size + 1) 5 (.slice A1 hs.length c1) (by omega) (by omega)).set (b := w.heap.size + 1) 6 (.int .i64 sp) (by omega) (by omega)).set (b := w.heap.size + 1) 7 (.int .i64 hd) (by omega) (by omega)).set (b := w.heap.size + 1) 8 (.slice A3 cs.length c3) (by omega) (by omega)).set (b := w.heap.size + 1) 9 (.slice A4 ss.length c4) (by omega) (by omega)).set (b := w.heap.size + 1) 10 (.slice A6 sl.length c6) (by omega) (by omega)
  have hsz := ht.size
  exact ⟨_, _, _, _, rfl, acctI_ivl (p1 := W2.heap.size) (p2 := W4.heap.size) ((HU5.out.turned ht (.inr (by omega)) (by omega)).mono (by omega) (by omega)) ((HV5.out.turned ht (.inr (by omega)) (by omega)).mono (by omega) (by omega)) ((HS5.out.turned ht (.inr (by omega)) (by omega)).mono (by omega) (by omega)) (by omega) (by omega) (by omega), HB5.out.trans (ht.below (by omega) (by omega))⟩
set_option maxRecDepth 100000 in
theorem toAcct_any (hi : Nat) (vh vc vs vl : Value) (a : AcctD) (w : World) (hz : acctSmall 1048576 a) (h : AcctR.rd hi w (aCells a vh vc vs vl) a) (hh : hi ≤ w.heap.size) :
    Calls Tryz.prog 38 #[.agg #[.string (aId a), .int .i64 (aLim a), .int .i64 (aPos a), .int .i64 (aMost a), .int .i64 (aSum a), vh, .int .i64 (aR a).1, .int .i64 (aR a).2.1, vc, vs, vl]] w (acctOne a w) :=
  (toAcctI_any hi vh vc vs vl a w hz h hh).mono fun _ _ h => h.one
end Go.Proofs.YtnmijppppcgobaaGreatDoor
set_option linter.unusedVariables false
namespace Go.Proofs.YtnmijppppcgobaaGreatDoor
open Go.ChangeShapes Go.WideShapes Go.ChangeAt Go.RowKit

set_option maxRecDepth 100000 in
set_option maxHeartbeats 4000000 in
theorem eqAcct_any (hi1 hi2 : Nat) (vh vc vs vl vh' vc' vs' vl' : Value) (a : AcctD) (w : World) (hz : acctSmall 1048576 a) (h1 : AcctR.rd hi1 w (aCells a vh vc vs vl) a) (h2 : AcctR.rd hi2 w (aCells a vh' vc' vs' vl') a) (hh1 : hi1 ≤ w.heap.size) (hh2 : hi2 ≤ w.heap.size) :
    Calls Tryz.prog 39 #[.agg #[.string (aId a), .int .i64 (aLim a), .int .i64 (aPos a), .int .i64 (aMost a), .int .i64 (aSum a), vh, .int .i64 (aR a).1, .int .i64 (aR a).2.1, vc, vs, vl], .agg #[.string (aId a), .int .i64 (aLim a), .int .i64 (aPos a), .int .i64 (aMost a), .int .i64 (aSum a), vh', .int .i64 (aR a).1, .int .i64 (aR a).2.1, vc', vs', vl']] w fun e w' => e = .returned (.bool true) ∧ Below w.heap.size w w' := by
  obtain ⟨vh0, vc0, vs0, vl0, hcs, r1, r2, r3, r4⟩ := acct_rd h1
  simp only [aCells, List.cons.injEq, and_true, true_and] at hcs
  obtain ⟨rfl, rfl, rfl, rfl⟩ := hcs
  clear h1
  obtain ⟨vh0, vc0, vs0, vl0, hcs, r1b, r2b, r3b, r4b⟩ := acct_rd h2
  simp only [aCells, List.cons.injEq, and_true, true_and] at hcs
  obtain ⟨rfl, rfl, rfl, rfl⟩ := hcs
  clear h2
  obtain ⟨z1, z2, z3, z4, z5⟩ := hz
  obtain ⟨id, lim, pos, most, sum, hs, ⟨sp, hd, cs, ss⟩, sl⟩ := a
  simp only [aId, aLim, aPos, aMost, aSum, aH, aS] at r1 r2 r3 r4 r1b r2b r3b r4b z1 z2 z3 z4 z5 ⊢
  obtain ⟨AH, cH, rfl, -⟩ := Rep.slice_form r1
  obtain ⟨AC, cC, rfl, -⟩ := r2.form
  obtain ⟨AS, cS, rfl, -⟩ := r3.form
  obtain ⟨AL, cL, rfl, -⟩ := Rep.slice_form r4
  obtain ⟨AH', cH', rfl, -⟩ := Rep.slice_form r1b
  obtain ⟨AC', cC', rfl, -⟩ := r2b.form
  obtain ⟨AS', cS', rfl, -⟩ := r3b.form
  obtain ⟨AL', cL', rfl, -⟩ := Rep.slice_form r4b
  have HQ1 := Lib.hid (fun W (hW : Below w.heap.size w W) => eqHolds_any hi1 hi2 _ _ hs W (by omega) (Rep.below (R := HoldsR) r1 hW hh1) (Rep.below (R := HoldsR) r1b hW hh2) (Nat.le_trans hh1 hW.size) (Nat.le_trans hh2 hW.size))
  have HQ2 := Lib.hid (fun W (hW : Below w.heap.size w W) => eqRing_any hi1 hi2 _ _ _ _ (sp, hd, cs, ss) W (r2.below hW hh1) (r3.below hW hh1) (r2b.below hW hh2) (r3b.below hW hh2) (Nat.le_trans hh1 hW.size) (Nat.le_trans hh2 hW.size) z2 z3)
  have HQ3 := Lib.hid (fun W (hW : Below w.heap.size w W) => eqSlots_any hi1 hi2 _ _ sl W (by omega) (fun x hx => Nat.le_trans (z5 x hx) (by omega)) (Rep.below (R := SlotsR) r4 hW hh1) (Rep.below (R := SlotsR) r4b hW hh2) (Nat.le_trans hh1 hW.size) (Nat.le_trans hh2 hW.size))
  clear r1 r2 r3 r4 r1b r2b r3b r4b z5
  have HB0 : Hid (∀ o1 o2, Below w.heap.size w ((w.alloc o1).alloc o2)) := Lib.hid fun o1 o2 => ((Below.refl _ _).alloc (Nat.le_refl _) _).alloc (by simp) _
  go_enter Tryz.func39, Tryz.ntmps39
  go_upto_region 1 with fail
  obtain ⟨W, hW⟩ : ∃ W, W = (w.alloc (.cells #[.string id, .int .i64 lim, .int .i64 pos, .int .i64 most, .int .i64 sum, .slice AH hs.length cH, .int .i64 sp, .int .i64 hd, .slice AC cs.length cC, .slice AS ss.length cS, .slice AL sl.length cL] 29)).alloc (.cells #[.string id, .int .i64 lim, .int .i64 pos, .int .i64 most, .int .i64 sum, .slice AH' hs.length cH', .int .i64 sp, .int .i64 hd, .slice AC' cs.length cC', .slice AS' ss.length cS', .slice AL' sl.length cL'] 29) := ⟨_, rfl⟩
  have b0 : bk W w.heap.size 29 [.string id, .int .i64 lim, .int .i64 pos, .int .i64 most, .int .i64 sum, .slice AH hs.length cH, .int .i64 sp, .int .i64 hd, .slice AC cs.length cC, .slice AS ss.length cS, .slice AL sl.length cL] := by rw [hW]; exact (bk.new w _ _).alloc _
  have b1 : bk W (w.heap.size + 1) 29 [.string id, .int .i64 lim, .int .i64 pos, .int .i64 most, .int .i64 sum, .slice AH' hs.length cH', .int .i64 sp, .int .i64 hd, .slice AC' cs.length cC', .slice AS' ss.length cS', .slice AL' sl.length cL'] := by rw [hW]; simpa using bk.new (w.alloc _) 29 [.string id, .int .i64 lim, .int .i64 pos, .int .i64 most, .int .i64 sum, .slice AH' hs.length cH', .int .i64 sp, .int .i64 hd, .slice AC' cs.length cC', .slice AS' ss.length cS', .slice AL' sl.length cL']
  have HBW : Hid (Below w.heap.size w W) := Lib.hid (by rw [hW]; exact HB0.out _ _)
  have y0 : w.heap.size + 2 ≤ W.heap.size := by rw [hW]; simp
  rw [← hW]
  clear hW HB0
  obtain ⟨⟨p0, p1, p2, p3, p4, p5, p6, p7, p8, p9, p10⟩, -⟩ := b0.eleven
  obtain ⟨⟨q0, q1, q2, q3, q4, q5, q6, q7, q8, q9, q10⟩, -⟩ := b1.eleven
  have B0 := Lib.hid b0
  have B1 := Lib.hid b1
  clear b0 b1
  go_wp2_with fail
  refine (HQ1.out W HBW.out).mono ?_
  rintro e w1 ⟨rfl, hb1⟩
  have y1 := hb1.size
  have HB1 : Hid (Below w.heap.size w w1) := Lib.hid (HBW.out.trans (hb1.mono (by omega)))
  have C0 := Lib.hid (B0.out.below hb1 (by omega))
  have C1 := Lib.hid (B1.out.below hb1 (by omega))
  clear hb1 HQ1 HBW B0 B1 p0 p1 p2 p3 p4 p5 p6 p7 p8 p9 p10 q0 q1 q2 q3 q4 q5 q6 q7 q8 q9 q10
  obtain ⟨⟨p0, p1, p2, p3, p4, p5, p6, p7, p8, p9, p10⟩, -⟩ := C0.out.eleven
  obtain ⟨⟨q0, q1, q2, q3, q4, q5, q6, q7, q8, q9, q10⟩, -⟩ := C1.out.eleven
  go_wp2_with fail
  refine (HQ2.out w1 HB1.out).mono ?_
  rintro e w2 ⟨rfl, hb2⟩
  have y2 := hb2.size
  have HB2 : Hid (Below w.heap.size w w2) := Lib.hid (HB1.out.trans (hb2.mono (by omega)))
  have D0 := Lib.hid (C0.out.below hb2 (by omega))
  have D1 := Lib.hid (C1.out.below hb2 (by omega))
  clear hb2 HQ2 HB1 C0 C1 p0 p1 p2 p3 p4 p5 p6 p7 p8 p9 p10 q0 q1 q2 q3 q4 q5 q6 q7 q8 q9 q10
  obtain ⟨⟨p0, p1, p2, p3, p4, p5, p6, p7, p8, p9, p10⟩, -⟩ := D0.out.eleven
  obtain ⟨⟨q0, q1, q2, q3, q4, q5, q6, q7, q8, q9, q10⟩, -⟩ := D1.out.eleven
  go_wp2_with fail
  refine (HQ3.out w2 HB2.out).mono ?_
  rintro e w3 ⟨rfl, hb3⟩
  have HB3 : Hid (Below w.heap.size w w3) := Lib.hid (HB2.out.trans (hb3.mono (by omega)))
  clear hb3
  go_wp2
  go_ret
  exact ⟨rfl, HB3.out⟩
def acctSz (a : AcctD) : Nat := (aId a).size + holdsSz (aH a) + ((aR a).2.2.1.length + (aR a).2.2.2.length) + slotsSz (aS a)
/-- what an account that is given may be -/
structure acctBig (a : AcctD) : Prop where
  i : (aId a).size ≤ maxLen
  h : (aH a).length ≤ maxLen
  hi : ∀ x ∈ aH a, x.1.size ≤ maxLen
  c : (aR a).2.2.1.length ≤ maxLen
  s : (aR a).2.2.2.length ≤ maxLen
  l : (aS a).length ≤ maxLen
  li : ∀ x ∈ aS a, x.1.size ≤ maxLen ∧ x.2.1.size ≤ maxLen ∧ x.2.2.length ≤ maxLen
set_option maxRecDepth 100000 in
set_option maxHeartbeats 4000000 in
theorem szAcct_any (hi : Nat) (vh vc vs vl : Value) (a : AcctD) (left : Int) (w : World) (hz : acctBig a) (h : AcctR.rd hi w (aCells a vh vc vs vl) a) (hh : hi ≤ w.heap.size) (l0 : 0 ≤ left) (l1 : left ≤ 1048576) :
    Calls Tryz.prog 36 #[.agg #[.string (aId a), .int .i64 (aLim a), .int .i64 (aPos a), .int .i64 (aMost a), .int .i64 (aSum a), vh, .int .i64 (aR a).1, .int .i64 (aR a).2.1, vc, vs, vl], .int .i64 left] w (szRes left (acctSz a) w) := by
  obtain ⟨vh0, vc0, vs0, vl0, hcs, r1, r2, r3, r4⟩ := acct_rd h
  simp only [aCells, List.cons.injEq, and_true, true_and] at hcs
  obtain ⟨rfl, rfl, rfl, rfl⟩ := hcs
  clear h
  obtain ⟨z0, z1, z1', z2, z3, z4, z5⟩ := hz
  obtain ⟨id, lim, pos, most, sum, hs, ⟨sp, hd, cs, ss⟩, sl⟩ := a
  simp only [aId, aLim, aPos, aMost, aSum, aH, aS] at r1 r2 r3 r4 z0 z1 z1' z2 z3 z4 z5 ⊢
  obtain ⟨AH, cH, rfl, -⟩ := Rep.slice_form r1
  obtain ⟨AC, cC, rfl, -⟩ := r2.form
  obtain ⟨AS, cS, rfl, -⟩ := r3.form
  obtain ⟨AL, cL, rfl, -⟩ := Rep.slice_form r4
  have HZ : Hid (((acctSz (id, lim, pos, most, sum, hs, (sp, hd, cs, ss), sl) : Nat) : Int) = (id.size : Int) + (holdsSz hs : Int) + ringSz (sp, hd, cs, ss) + (slotsSz sl : Int)) := Lib.hid (by unfold acctSz ringSz; simp only [aId, aH, aS]; omega)
  have hrs : 0 ≤ ringSz (sp, hd, cs, ss) := by unfold ringSz; omega
  have HQ1 := Lib.hid (fun L W (hW : Below w.heap.size w W) (a0 : 0 ≤ L) (a1 : L ≤ 1048576) => szHolds_any hi _ hs L W z1 z1' (Rep.below (R := HoldsR) r1 hW hh) (Nat.le_trans hh hW.size) a0 a1)
  have HQ2 := Lib.hid (fun L W (hW : Below w.heap.size w W) (a0 : 0 ≤ L) (a1 : L ≤ 1048576) => szRing_any _ _ (sp, hd, cs, ss) L W (r2.below hW hh) (r3.below hW hh) z2 z3 a0 a1)
  have HQ3 := Lib.hid (fun L W (hW : Below w.heap.size w W) (a0 : 0 ≤ L) (a1 : L ≤ 1048576) => szSlots_any hi _ sl L W z4 z5 (Rep.below (R := SlotsR) r4 hW hh) (Nat.le_trans hh hW.size) a0 a1)
  clear r1 r2 r3 r4 z1 z1' z2 z3 z4 z5
  unfold maxLen at z0
  go_enter Tryz.func36, Tryz.ntmps36
  go_upto_region 1 with fail
  obtain ⟨W, hW⟩ : ∃ W, W = w.alloc (.cells #[.string id, .int .i64 lim, .int .i64 pos, .int .i64 most, .int .i64 sum, .slice AH hs.length cH, .int .i64 sp, .int .i64 hd, .slice AC cs.length cC, .slice AS ss.length cS, .slice AL sl.length cL] 59) := ⟨_, rfl⟩
  have b0 : bk W w.heap.size 59 [.string id, .int .i64 lim, .int .i64 pos, .int .i64 most, .int .i64 sum, .slice AH hs.length cH, .int .i64 sp, .int .i64 hd, .slice AC cs.length cC, .slice AS ss.length cS, .slice AL sl.length cL] := by rw [hW]; exact bk.new w _ _
  have HBW : Hid (Below w.heap.size w W) := Lib.hid (by rw [hW]; exact (Below.refl _ _).alloc (Nat.le_refl _) _)
  have y0 : w.heap.size + 1 ≤ W.heap.size := by rw [hW]; simp
  rw [← hW]
  clear hW
  obtain ⟨⟨p0, p1, p2, p3, p4, p5, p6, p7, p8, p9, p10⟩, -⟩ := b0.eleven
  have B0 := Lib.hid b0
  clear b0
  by_cases n0 : left - (id.size : Int) < 0
  · go_wp2
    go_ret
    exact ⟨_, rfl, .inl rfl, HBW.out⟩
  go_wp2_with fail
  refine (HQ1.out _ W HBW.out (by omega) (by omega)).mono ?_
  rintro e w1 ⟨q1, rfl, hq1, hb1⟩
  have y1 := hb1.size
  have HB1 : Hid (Below w.heap.size w w1) := Lib.hid (HBW.out.trans (hb1.mono (by omega)))
  have C0 := Lib.hid (B0.out.below hb1 (by omega))
  clear hb1 HQ1 HBW B0 p0 p1 p2 p3 p4 p5 p6 p7 p8 p9 p10
  rcases hq1 with rfl | ⟨hq1, hp1⟩
  · go_wp2
    go_ret
    exact ⟨_, rfl, .inl rfl, HB1.out⟩
  have hr1 : q1 ≤ 1048576 := by omega
  have HE1 := Lib.hid hq1
  clear hq1
  obtain ⟨⟨p0, p1, p2, p3, p4, p5, p6, p7, p8, p9, p10⟩, -⟩ := C0.out.eleven
  go_wp2_with fail
  refine (HQ2.out _ w1 HB1.out (by omega) (by omega)).mono ?_
  rintro e w2 ⟨q2, rfl, hq2, hb2⟩
  have y2 := hb2.size
  have HB2 : Hid (Below w.heap.size w w2) := Lib.hid (HB1.out.trans (hb2.mono (by omega)))
  have D0 := Lib.hid (C0.out.below hb2 (by omega))
  clear hb2 HQ2 HB1 C0 p0 p1 p2 p3 p4 p5 p6 p7 p8 p9 p10
  rcases hq2 with rfl | ⟨hq2, hp2⟩
  · go_wp2
    go_ret
    exact ⟨_, rfl, .inl rfl, HB2.out⟩
  have hr2 : q2 ≤ 1048576 := by omega
  have HE2 := Lib.hid hq2
  clear hq2
  obtain ⟨⟨p0, p1, p2, p3, p4, p5, p6, p7, p8, p9, p10⟩, -⟩ := D0.out.eleven
  go_wp2_with fail
  refine (HQ3.out _ w2 HB2.out (by omega) (by omega)).mono ?_
  rintro e w3 ⟨q3, rfl, hq3, hb3⟩
  have HB3 : Hid (Below w.heap.size w w3) := Lib.hid (HB2.out.trans (hb3.mono (by omega)))
  clear hb3
  rcases hq3 with rfl | ⟨hq3, hp3⟩
  · go_wp2
    go_ret
    exact ⟨_, rfl, .inl rfl, HB3.out⟩
  have HE3 := Lib.hid hq3
  clear hq3
  go_wp2
  go_ret
  exact ⟨_, rfl, .inr ⟨by rw [HE3.out, HE2.out, HE1.out, HZ.out]; omega, hp3⟩, HB3.out⟩
end Go.Proofs.YtnmijppppcgobaaGreatDoor
set_option linter.unusedVariables false
namespace Go.Proofs.YtnmijppppcgobaaGreatDoor
open Go.ChangeShapes Go.WideShapes Go.ChangeAt Go.RowKit

set_option maxRecDepth 100000 in
theorem specDigits_any (s : ByteArray) (w : World) (hs : s.size ≤ maxLen) :
    Calls Tryz.prog 246 #[.string s] w fun e w' => e = .returned (.bool (digs s)) ∧ w = w' := by
  unfold maxLen at hs
  go_enter Tryz.func246, Tryz.ntmps246
  go_wp2
  go_loop [3] (fun i => ∃ k : Nat, k ≤ s.size ∧ i = .int .i64 k ∧ (s.data.toList.take k).all isDig = true) (fun i => s.size - (intOf i).toNat)
  case atStart => exact ⟨0, Nat.zero_le _, rfl, rfl⟩
  case round =>
    obtain ⟨k, hk, rfl, ha0⟩ := hrel
    have ha := Lib.hid ha0
    clear ha0
    by_cases hlt : k < s.size
    · go_wp2
      · go_ret
        exact ⟨ret_bool (digs_no s k hlt ((isDig_no _).2 (by omega))).symm, rfl⟩
      · go_round
        case rel => exact ⟨k + 1, by omega, by go_num, all_one s k hlt ha.out ((isDig_iff _).2 (by omega))⟩
        case measure => simp [intOf] <;> omega
      · go_ret
        exact ⟨ret_bool (digs_no s k hlt ((isDig_no _).2 (by omega))).symm, rfl⟩
    · go_wp2
      go_ret
      exact ⟨ret_bool (digs_end s k hlt ha.out), rfl⟩

end Go.Proofs.YtnmijppppcgobaaGreatDoor
set_option linter.unusedVariables false
namespace Go.Proofs.YtnmijppppcgobaaGreatDoor
open Go.ChangeShapes Go.WideShapes Go.ChangeAt Go.RowKit

/-- is the number of a character a digit's? -/
def runeDig (r : Int) : Bool := decide (48 ≤ r) && decide (r ≤ 57)
set_option maxRecDepth 100000 in
theorem isDigit_any (r : Int) (w : World) : Calls Tryz.prog 196 #[.int .i32 r] w fun e w' => e = .returned (.bool (runeDig r)) ∧ w = w' := by
  by_cases h0 : 48 ≤ r
  all_goals
    go_enter Tryz.func196, Tryz.ntmps196
    go_wp2
    go_ret
    exact ⟨by simp [runeDig]; omega, rfl⟩

set_option maxRecDepth 100000 in
/-- The character at a place: a digit there, or none. -/
theorem rune_dig (s : ByteArray) (pos : Nat) (h : pos < s.size) (hd : isDig s[pos] = true) : Utf8.decode s pos = (s[pos].toNat, 1) ∧ runeDig (s[pos].toNat : Int) = true := by
  have h1 := (isDig_iff _).1 hd
  exact ⟨decode_ascii s pos h (by omega), by simp [runeDig]; omega⟩
set_option maxRecDepth 100000 in
theorem rune_not (s : ByteArray) (pos : Nat) (h : pos < s.size) (hd : isDig s[pos] = false) : runeDig ((Utf8.decode s pos).1 : Int) = false := by
  have h1 := (isDig_no _).1 hd
  rcases Nat.lt_or_ge s[pos].toNat 128 with h2 | h2
  · rw [decode_ascii s pos h h2]; simp [runeDig]; omega
  · have := (decode_high s pos h h2).1; simp [runeDig]; omega

end Go.Proofs.YtnmijppppcgobaaGreatDoor
set_option linter.unusedVariables false
namespace Go.Proofs.YtnmijppppcgobaaGreatDoor
open Go.ChangeShapes Go.WideShapes Go.ChangeAt Go.RowKit

set_option maxRecDepth 100000 in
theorem implDigits_any (s : ByteArray) (w : World) (hs : s.size ≤ maxLen) :
    Calls Tryz.prog 242 #[.string s] w fun e w' => e = .returned (.bool (digs s)) ∧ Below w.heap.size w w' := by
  unfold maxLen at hs
  go_enter Tryz.func242, Tryz.ntmps242
  go_wp2
  go_loopw [2] (fun _ wr => ∃ k : Nat, k ≤ s.size ∧ wr = w.iter s k ∧ (s.data.toList.take k).all isDig = true) (fun _ wr => s.size - wr.iterPos w.heap.size)
  case atStart => exact ⟨0, Nat.zero_le _, rfl, rfl⟩
  case round =>
    obtain ⟨k, hk, rfl, ha0⟩ := hrel
    have ha := Lib.hid ha0
    clear ha0
    by_cases hlt : k < s.size
    · cases hd : isDig s[k]
      · have hr := rune_not s k hlt hd
        have hnx : ∀ ty, (Instr.next (.pointer (some ⟨w.heap.size, 0, none⟩)) true ty).run Tryz.prog (w.iter s k) = _ := fun ty => run_next_any w s k ty hlt
        generalize hq : Utf8.decode s k = q at hnx hr
        obtain ⟨r, wd⟩ := q
        clear hq
        go_wp2_with (go_at_call 196; refine (isDigit_any _ _).mono ?_; rintro e w' ⟨rfl, rfl⟩)
        go_ret
        exact ⟨ret_bool (digs_no s k hlt hd).symm, below_iter _ _ _⟩
      · obtain ⟨hdec, hr⟩ := rune_dig s k hlt hd
        have hnx : ∀ ty, (Instr.next (.pointer (some ⟨w.heap.size, 0, none⟩)) true ty).run Tryz.prog (w.iter s k) = _ := fun ty => run_next_any w s k ty hlt
        rw [hdec] at hnx
        have hb := Lib.hid (all_one s k hlt ha.out hd)
        clear hdec hd
        go_wp2_with (go_at_call 196; refine (isDigit_any _ _).mono ?_; rintro e w' ⟨rfl, rfl⟩)
        go_roundw
        case rel => exact ⟨k + 1, by omega, rfl, hb.out⟩
        case measure => simp <;> omega
    · have hnx : ∀ ty, (Instr.next (.pointer (some ⟨w.heap.size, 0, none⟩)) true ty).run Tryz.prog (w.iter s k) = _ := fun ty => run_next_end w s k ty hlt
      go_wp2
      go_ret
      exact ⟨ret_bool ((not_empty s).trans (digs_end s k hlt ha.out)), below_iter _ _ _⟩
end Go.Proofs.YtnmijppppcgobaaGreatDoor
set_option linter.unusedVariables false
namespace Go.Proofs.YtnmijppppcgobaaGreatDoor
open Go.ChangeShapes Go.WideShapes Go.ChangeAt Go.RowKit

/-- the digit of a byte -/
def dOf (c : UInt8) : Int := (c.toNat : Int) - 48
/-- a digit doubled, 9 taken off where it is greater than 9 -/
def twiceOf (d : Int) : Int := if 4 < d then 2 * d - 9 else 2 * d
/-- the Luhn sum: the last digit is doubled, and every second one before it -/
def luSum : List UInt8 → Int
  | [] => 0
  | c :: l => (if l.length % 2 = 0 then twiceOf (dOf c) else dOf c) + luSum l
def luVal (s : ByteArray) : Int := if digs s = true then (10 - luSum s.data.toList % 10) % 10 else -1

set_option maxRecDepth 100000 in
theorem twice_bd {d : Int} (h0 : 0 ≤ d) (h1 : d ≤ 9) : 0 ≤ twiceOf d ∧ twiceOf d ≤ 9 := by unfold twiceOf; split <;> omega
set_option maxRecDepth 100000 in
theorem drop_one (s : ByteArray) (k : Nat) (h : k < s.size) : s.data.toList.drop k = s[k] :: s.data.toList.drop (k + 1) :=
  List.drop_eq_getElem_cons (by simpa using h)
set_option maxRecDepth 100000 in
theorem drop_len (s : ByteArray) (k : Nat) : (s.data.toList.drop k).length = s.size - k := by simp
set_option maxRecDepth 100000 in
theorem luSum_bd {s : ByteArray} (hd : digs s = true) (k : Nat) : 0 ≤ luSum (s.data.toList.drop k) ∧ luSum (s.data.toList.drop k) ≤ 9 * ((s.size - k : Nat) : Int) := by
  generalize hn : s.size - k = n
  induction n generalizing k with
  | zero =>
    have : s.data.toList.drop k = [] := List.drop_eq_nil_of_le (by simp; omega)
    rw [this]; exact ⟨Int.le_refl _, Int.le_refl _⟩
  | succ n ih =>
    have hk : k < s.size := by omega
    have h1 := ih (k + 1) (by omega)
    have hg := digs_get hd k hk
    rw [drop_one s k hk]
    simp only [luSum]
    have ht := twice_bd (d := dOf s[k]) (by unfold dOf; omega) (by unfold dOf; omega)
    have hd0 : 0 ≤ dOf s[k] ∧ dOf s[k] ≤ 9 := by unfold dOf; omega
    split <;> omega
set_option maxRecDepth 100000 in
/-- one digit further -/
theorem luSum_even {s : ByteArray} (k : Nat) (hk : k < s.size) (he : (s.size - k) % 2 = 1) : luSum (s.data.toList.drop k) = twiceOf (dOf s[k]) + luSum (s.data.toList.drop (k + 1)) := by
  rw [drop_one s k hk]; simp only [luSum]; rw [if_pos (by rw [drop_len]; omega)]
set_option maxRecDepth 100000 in
theorem luSum_odd {s : ByteArray} (k : Nat) (hk : k < s.size) (he : (s.size - k) % 2 = 0) : luSum (s.data.toList.drop k) = dOf s[k] + luSum (s.data.toList.drop (k + 1)) := by
  rw [drop_one s k hk]; simp only [luSum]; rw [if_neg (by rw [drop_len]; omega)]

set_option maxRecDepth 100000 in
theorem luhnDouble_any (d : Int) (w : World) (h0 : 0 ≤ d) (h1 : d ≤ 9) : Calls Tryz.prog 254 #[.int .i64 d] w fun e w' => e = .returned (.int .i64 (twiceOf d)) ∧ w = w' := by
  by_cases h4 : 4 < d
  all_goals
    go_enter Tryz.func254, Tryz.ntmps254
    go_wp2
    go_ret
    exact ⟨ret_int (by unfold twiceOf; split <;> omega), rfl⟩

def parOf (s : ByteArray) (k : Nat) : Bool := decide ((s.size - k) % 2 = 1)
set_option maxRecDepth 100000 in
theorem par_next (s : ByteArray) (k : Nat) (h : k < s.size) : (!parOf s k) = parOf s (k + 1) := by
  unfold parOf
  rcases Nat.mod_two_eq_zero_or_one (s.size - k) with h1 | h1
  · rw [h1, show (s.size - (k + 1)) % 2 = 1 by omega]; rfl
  · rw [h1, show (s.size - (k + 1)) % 2 = 0 by omega]; rfl
set_option maxRecDepth 100000 in
theorem val_bool {a b : Bool} (h : a = b) : Value.bool a = Value.bool b := by rw [h]

set_option maxRecDepth 100000 in
set_option maxHeartbeats 800000 in
theorem implLuhn_any (s : ByteArray) (w : World) (hs : s.size ≤ 1048576) :
    Calls Tryz.prog 243 #[.string s] w fun e w' => e = .returned (.int .i64 (luVal s)) ∧ Below w.heap.size w w' := by
  cases hd : digs s
  · have hv : luVal s = -1 := by simp [luVal, hd]
    rw [hv]
    go_enter Tryz.func243, Tryz.ntmps243
    go_wp2_with (go_at_call 242; refine (implDigits_any _ _ (by unfold maxLen; omega)).mono ?_; rintro e w1 ⟨rfl, hb⟩)
    go_ret
    exact ⟨rfl, hb⟩
  · have hv : luVal s = (10 - luSum s.data.toList % 10) % 10 := by simp [luVal, hd]
    rw [hv]
    have hD := Lib.hid hd
    have hall := luSum_bd hd 0
    simp only [List.drop_zero, Nat.sub_zero] at hall
    have hall0 := hall.1
    have hall1 : luSum s.data.toList ≤ 9437184 := by omega
    clear hall hv
    go_enter Tryz.func243, Tryz.ntmps243
    go_wp2_with (go_at_call 242; refine (implDigits_any _ _ (by unfold maxLen; omega)).mono ?_; rintro e w1 ⟨rfl, hb⟩)
    clear hd
    go_loopw [3, 4] (fun dv sv wr => ∃ k : Nat, k ≤ s.size ∧ wr = w1.iter s k ∧ dv = .bool (parOf s k) ∧ sv = .int .i64 (luSum s.data.toList - luSum (s.data.toList.drop k))) (fun _ _ wr => s.size - wr.iterPos w1.heap.size)
    case atStart => exact ⟨0, Nat.zero_le _, rfl, val_bool (by unfold parOf; rw [Bool.eq_iff_iff]; simp; omega), val_int (by simp)⟩
    case round =>
      obtain ⟨k, hk, rfl, rfl, rfl⟩ := hrel
      by_cases hlt : k < s.size
      · have hg := digs_get hD.out k hlt
        have hg1 : (48 : Int) ≤ (s[k].toNat : Int) := by omega
        have hg2 : (s[k].toNat : Int) ≤ 57 := by omega
        have hnx : ∀ ty, (Instr.next (.pointer (some ⟨w1.heap.size, 0, none⟩)) true ty).run Tryz.prog (w1.iter s k) = _ := fun ty => run_next_any w1 s k ty hlt
        rw [decode_ascii s k hlt (by omega)] at hnx
        have hbk := luSum_bd hD.out k
        have hbk0 := hbk.1
        have hbk1 : luSum (s.data.toList.drop k) ≤ 9437184 := by omega
        clear hbk
        have hpn := Lib.hid (par_next s k hlt)
        have hpk := Lib.hid (show parOf s k = decide ((s.size - k) % 2 = 1) from rfl)
        cases hp : parOf s k
        · have hstep := Lib.hid (luSum_odd k hlt (by have := of_decide_eq_false (hpk.out.symm.trans hp); omega))
          rw [hp] at hpn
          go_wp2
          go_roundw
          case rel => exact ⟨k + 1, by omega, rfl, val_bool hpn.out, val_int (by have := hstep.out; unfold dOf at this; omega)⟩
          case measure => simp <;> omega
        · have hstep := Lib.hid (luSum_even k hlt (of_decide_eq_true (hpk.out.symm.trans hp)))
          have htw := twice_bd (d := (s[k].toNat : Int) - 48) (by omega) (by omega)
          rw [hp] at hpn
          go_wp2_with (go_at_call 254; refine (luhnDouble_any _ _ (by omega) (by omega)).mono ?_; rintro e w' ⟨rfl, rfl⟩)
          go_roundw
          case rel => exact ⟨k + 1, by omega, rfl, val_bool hpn.out, val_int (by have := hstep.out; unfold dOf at this; omega)⟩
          case measure => simp <;> omega
      · have hnx : ∀ ty, (Instr.next (.pointer (some ⟨w1.heap.size, 0, none⟩)) true ty).run Tryz.prog (w1.iter s k) = _ := fun ty => run_next_end w1 s k ty hlt
        have he : luSum (s.data.toList.drop k) = 0 := by rw [List.drop_eq_nil_of_le (by simp; omega)]; rfl
        have he0 : 0 ≤ luSum (s.data.toList.drop k) := by omega
        have he1 : luSum (s.data.toList.drop k) ≤ 0 := by omega
        clear he
        go_wp2
        go_ret
        exact ⟨ret_int (by omega), hb.trans ((below_iter _ _ _).mono hb.size)⟩

set_option maxRecDepth 100000 in
set_option maxHeartbeats 800000 in
theorem specLuhn_any (s : ByteArray) (w : World) (hs : s.size ≤ 1048576) :
    Calls Tryz.prog 247 #[.string s] w fun e w' => e = .returned (.int .i64 (luVal s)) ∧ w = w' := by
  cases hd : digs s
  · have hv : luVal s = -1 := by simp [luVal, hd]
    rw [hv]
    go_enter Tryz.func247, Tryz.ntmps247
    go_wp2_with (go_at_call 246; refine (specDigits_any _ _ (by unfold maxLen; omega)).mono ?_; rintro e w1 ⟨rfl, rfl⟩)
    go_ret
    exact ⟨rfl, rfl⟩
  · have hv : luVal s = (10 - luSum s.data.toList % 10) % 10 := by simp [luVal, hd]
    rw [hv]
    have hD := Lib.hid hd
    clear hv
    have hpos := digs_pos hd
    go_enter Tryz.func247, Tryz.ntmps247
    go_wp2_with (go_at_call 246; refine (specDigits_any _ _ (by unfold maxLen; omega)).mono ?_; rintro e w1 ⟨rfl, rfl⟩)
    clear hd
    go_loop [3, 4, 5] (fun nv tv iv => ∃ k : Nat, k ≤ s.size ∧ iv = .int .i64 ((k : Int) - 1) ∧ tv = .bool (!parOf s k) ∧ nv = .int .i64 (luSum (s.data.toList.drop k) % 10)) (fun _ _ iv => (intOf iv + 1).toNat)
    case atStart => exact ⟨s.size, Nat.le_refl _, rfl, val_bool (by unfold parOf; simp), val_int (by rw [List.drop_eq_nil_of_le (by simp)]; rfl)⟩
    case round =>
      obtain ⟨j, hk, rfl, rfl, rfl⟩ := hrel
      cases j with
      | zero =>
        go_wp2
        go_ret
        exact ⟨ret_int (by omega), rfl⟩
      | succ k =>
        have hlt : k < s.size := by omega
        have hg := digs_get hD.out k hlt
        have hg1 : (48 : Int) ≤ (s[k].toNat : Int) := by omega
        have hg2 : (s[k].toNat : Int) ≤ 57 := by omega
        have hpn := Lib.hid (par_next s k hlt)
        have hpk := Lib.hid (show parOf s k = decide ((s.size - k) % 2 = 1) from rfl)
        rw [← par_next s k hlt]
        cases hp : parOf s k
        · have hstep := Lib.hid (luSum_odd k hlt (by have := of_decide_eq_false (hpk.out.symm.trans hp); omega))
          go_wp2
          go_round
          case rel => exact ⟨k, by omega, rfl, val_bool (by rw [hp]; rfl), val_int (by have := hstep.out; unfold dOf at this; omega)⟩
          case measure => simp [intOf] <;> omega
        · have hstep := Lib.hid (luSum_even k hlt (of_decide_eq_true (hpk.out.symm.trans hp)))
          by_cases h4 : (s[k].toNat : Int) ≤ 52
          · go_wp2
            go_round
            case rel => exact ⟨k, by omega, rfl, val_bool (by rw [hp]; rfl), val_int (by have := hstep.out; unfold dOf twiceOf at this; split at this <;> omega)⟩
            case measure => simp [intOf] <;> omega
          · go_wp2
            go_round
            case rel => exact ⟨k, by omega, rfl, val_bool (by rw [hp]; rfl), val_int (by have := hstep.out; unfold dOf twiceOf at this; split at this <;> omega)⟩
            case measure => simp [intOf] <;> omega
end Go.Proofs.YtnmijppppcgobaaGreatDoor
set_option linter.unusedVariables false
namespace Go.Proofs.YtnmijppppcgobaaGreatDoor
open Go.ChangeShapes Go.WideShapes Go.ChangeAt Go.RowKit

def initOf (s : ByteArray) : ByteArray := s.extract 0 (s.size - 1)
def luOk (s : ByteArray) : Bool := decide (2 ≤ s.size) && digs s && (luVal (initOf s) == dOf (s.data.toList.getLastD 0))

set_option maxRecDepth 100000 in
theorem luOk_eq (s : ByteArray) (hd : digs s = true) (h2 : ¬ s.size < 2) : luOk s = (luVal (s.extract 0 (s.size - 1)) == ((s[s.size - 1].toNat : Int) - 48)) := by
  have hl : s.data.toList.getLastD 0 = s[s.size - 1] := by
    have hne : s.data.toList ≠ [] := by
      intro h
      have h4 : s.data.toList.length = s.size := by simp
      rw [h] at h4
      simp only [List.length_nil] at h4
      omega
    rw [List.getLastD_eq_getLast?, List.getLast?_eq_some_getLast hne, Option.getD_some, List.getLast_eq_getElem]
    rfl
  have h3 : decide (2 ≤ s.size) = true := decide_eq_true (by omega)
  unfold luOk dOf initOf
  rw [hd, h3, hl]
  rfl
set_option maxRecDepth 100000 in
theorem bool_beq_comm (a b : Int) : (a == b) = (b == a) := by rw [Bool.eq_iff_iff]; simp only [beq_iff_eq]; exact eq_comm
set_option maxRecDepth 100000 in
set_option maxHeartbeats 800000 in
theorem specLuhnOk_any (s : ByteArray) (w : World) (hs : s.size ≤ 1048576) :
    Calls Tryz.prog 222 #[.string s] w fun e w' => e = .returned (.bool (luOk s)) ∧ Below w.heap.size w w' := by
  cases hd : digs s
  · go_enter Tryz.func222, Tryz.ntmps222
    go_wp2_with (go_at_call 246; refine (specDigits_any _ _ (by unfold maxLen; omega)).mono ?_; rintro e w1 ⟨rfl, rfl⟩)
    go_ret
    exact ⟨ret_bool (by simp [luOk, hd]), Below.refl _ _⟩
  · by_cases h2 : s.size < 2
    · go_enter Tryz.func222, Tryz.ntmps222
      go_wp2_with (go_at_call 246; refine (specDigits_any _ _ (by unfold maxLen; omega)).mono ?_; rintro e w1 ⟨rfl, rfl⟩)
      go_ret
      exact ⟨ret_bool (by simp [luOk]; omega), Below.refl _ _⟩
    · have hg := digs_get hd (s.size - 1) (by omega)
      go_enter Tryz.func222, Tryz.ntmps222
      go_wp2_with (go_at_call 246; refine (specDigits_any _ _ (by unfold maxLen; omega)).mono ?_; rintro e w1 ⟨rfl, rfl⟩)
      have e1 : IntKind.i64.wrap ((s.size : Int) - 1) = (s.size : Int) - 1 := IntWalk.i64_in _ (by omega)
      have e2 : ((s.size : Int) - 1).toNat = s.size - 1 := by omega
      have e3 : 0 ≤ (s.size : Int) - 1 := by omega
      have e4 : 1 ≤ (s.size : Int) := by omega
      have e5 : IntKind.i64.wrap (s[s.size - 1].toNat : Int) = (s[s.size - 1].toNat : Int) := IntWalk.i64_in _ (by omega)
      have e6 : IntKind.i64.wrap ((s[s.size - 1].toNat : Int) - 48) = (s[s.size - 1].toNat : Int) - 48 := IntWalk.i64_in _ (by omega)
      have e7 : IntKind.u8.wrap ((s[s.size - 1].toNat : Int) - 48) = (s[s.size - 1].toNat : Int) - 48 := IntWalk.u8_in _ (by omega)
      go_region_with ((go_at_call 247; refine (specLuhn_any _ _ (by simp <;> omega)).mono ?_; rintro e w' ⟨rfl, rfl⟩))
      all_goals
        go_wp2
        go_ret
        exact ⟨ret_bool (luOk_eq s hd h2).symm, (Below.refl _ _).drew⟩

set_option maxRecDepth 100000 in
set_option maxHeartbeats 800000 in
theorem implLuhnOk_any (s : ByteArray) (w : World) (hs : s.size ≤ 1048576) :
    Calls Tryz.prog 214 #[.string s] w fun e w' => e = .returned (.bool (luOk s)) ∧ Below w.heap.size w w' := by
  by_cases h2 : s.size < 2
  · go_enter Tryz.func214, Tryz.ntmps214
    go_wp2_with (go_at_call 242; refine (implDigits_any _ _ (by unfold maxLen; omega)).mono ?_; rintro e w1 ⟨rfl, hb⟩)
    go_ret
    exact ⟨ret_bool (by simp [luOk]; omega), Below.refl _ _⟩
  · cases hd : digs s
    · go_enter Tryz.func214, Tryz.ntmps214
      go_wp2_with (go_at_call 242; refine (implDigits_any _ _ (by unfold maxLen; omega)).mono ?_; rintro e w1 ⟨rfl, hb⟩)
      go_ret
      exact ⟨ret_bool (by simp [luOk, hd]), hb⟩
    · have hg := digs_get hd (s.size - 1) (by omega)
      go_enter Tryz.func214, Tryz.ntmps214
      go_wp2_with (go_at_call 242; refine (implDigits_any _ _ (by unfold maxLen; omega)).mono ?_; rintro e w1 ⟨rfl, hb⟩)
      have e1 : IntKind.i64.wrap ((s.size : Int) - 1) = (s.size : Int) - 1 := IntWalk.i64_in _ (by omega)
      have e2 : ((s.size : Int) - 1).toNat = s.size - 1 := by omega
      have e3 : 0 ≤ (s.size : Int) - 1 := by omega
      have e4 : 1 ≤ (s.size : Int) := by omega
      have e5 : IntKind.i64.wrap (s[s.size - 1].toNat : Int) = (s[s.size - 1].toNat : Int) := IntWalk.i64_in _ (by omega)
      have e6 : IntKind.i64.wrap ((s[s.size - 1].toNat : Int) - 48) = (s[s.size - 1].toNat : Int) - 48 := IntWalk.i64_in _ (by omega)
      have e7 : IntKind.u8.wrap ((s[s.size - 1].toNat : Int) - 48) = (s[s.size - 1].toNat : Int) - 48 := IntWalk.u8_in _ (by omega)
      go_region_with ((go_at_call 243; refine (implLuhn_any _ _ (by simp <;> omega)).mono ?_; rintro e w' ⟨rfl, hb2⟩))
      all_goals
        go_wp2
        go_ret
        exact ⟨ret_bool (((luOk_eq s hd h2).trans (bool_beq_comm _ _)).symm), hb.drew.trans (hb2.mono (by simp; exact hb.size))⟩
end Go.Proofs.YtnmijppppcgobaaGreatDoor
set_option linter.unusedVariables false
namespace Go.Proofs.YtnmijppppcgobaaGreatDoor
open Go.ChangeShapes Go.WideShapes Go.ChangeAt Go.RowKit

def acctIdB (s : ByteArray) : Bool := decide (s.size ≤ 19) && luOk s
set_option maxRecDepth 100000 in
theorem specAcctIdOk_any (s : ByteArray) (w : World) (hs : s.size ≤ maxLen) :
    Calls Tryz.prog 161 #[.string s] w fun e w' => e = .returned (.bool (acctIdB s)) ∧ Below w.heap.size w w' := by
  by_cases h : s.size ≤ 19
  · have HI : Hid (acctIdB s = luOk s) := Lib.hid (by unfold acctIdB; rw [decide_eq_true h]; rfl)
    have HL := Lib.hid (fun w => specLuhnOk_any s w (by omega))
    have h' : (s.size : Int) ≤ 19 := by omega
    rw [HI.out]
    generalize luOk s = b at HL
    go_enter Tryz.func161, Tryz.ntmps161
    go_wp2_with fail
    refine (HL.out _).mono ?_
    rintro e w1 ⟨rfl, hb⟩
    go_wp2
    go_ret
    exact ⟨rfl, hb⟩
  · have HI : Hid (acctIdB s = false) := Lib.hid (by unfold acctIdB; rw [decide_eq_false h]; rfl)
    have h' : ¬ (s.size : Int) ≤ 19 := by omega
    rw [HI.out]
    go_enter Tryz.func161, Tryz.ntmps161
    go_wp2
    go_ret
    exact ⟨rfl, Below.refl _ _⟩
end Go.Proofs.YtnmijppppcgobaaGreatDoor
set_option linter.unusedVariables false
namespace Go.Proofs.YtnmijppppcgobaaGreatDoor
open Go.ChangeShapes Go.WideShapes Go.ChangeAt Go.RowKit

/-- a digit or a small letter -/
def idCh (c : UInt8) : Bool := decide (48 ≤ c.toNat ∧ c.toNat ≤ 57 ∨ 97 ≤ c.toNat ∧ c.toNat ≤ 122)
def idOk (s : ByteArray) : Bool := s.data.toList.all idCh && inB (s.size : Int) 1 6
def holdOk (x : HoldD) : Bool := idOk x.1 && (inB x.2.1 1 9007199254740992 && timeB x.2.2)
/-- the string a comes before b -/
def strLt (a b : ByteArray) : Bool := Op.bytesLess a.toList b.toList
/-- element i is right, and after the one before it -/
def holdAtOk (l : List HoldD) (i : Nat) : Bool := holdOk (l.getD i noH) && (decide (i = 0) || strLt (l.getD (i - 1) noH).1 (l.getD i noH).1)
def holdsOk (l : List HoldD) : Bool := (List.range l.length).all (holdAtOk l) && decide (l.length ≤ 4)
def live (now : Int) (x : HoldD) : Bool := decide (now < x.2.2)
def liveL (l : List HoldD) (now : Int) : List HoldD := l.filter (live now)
def storedL (l : List HoldD) : Int := l.foldl (fun n x => satVal n x.2.1) 0
def dropL (l : List HoldD) (id : ByteArray) : List HoldD := l.filter fun x => decide (x.1 ≠ id)
/-- the first with this id -/
def findH (l : List HoldD) (id : ByteArray) : Int := match l.findIdx? (fun x => decide (x.1 = id)) with | some i => (i : Int) | none => -1
/-- in order, in the place of the one with its id -/
def insOne (h : HoldD) (s : List HoldD × Bool) (x : HoldD) : List HoldD × Bool :=
  ((if (!s.2 && !strLt x.1 h.1) = true then s.1 ++ [h] else s.1) ++ (if x.1 = h.1 then [] else [x]), s.2 || !strLt x.1 h.1)
def insL (l : List HoldD) (h : HoldD) : List HoldD := let s := l.foldl (insOne h) ([], false); if s.2 = true then s.1 else s.1 ++ [h]
def putH (l : List HoldD) (h : HoldD) : List HoldD × Bool := if (holdsOk l && holdsOk (insL l h)) = true then (insL l h, true) else ([], false)

set_option maxRecDepth 100000 in
theorem all_step {s : ByteArray} {k : Nat} {p : UInt8 → Bool} (hlt : k < s.size) (h : (s.data.toList.take k).all p = true) (hp : p s[k] = true) : (s.data.toList.take (k + 1)).all p = true := by
  have hl : k < s.data.toList.length := by simpa using hlt
  have hp' : p s.data.toList[k] = true := hp
  rw [List.take_succ_eq_append_getElem hl, List.all_append, h]
  simpa using hp'
set_option maxRecDepth 100000 in
theorem all_not {s : ByteArray} {k : Nat} {p : UInt8 → Bool} (hlt : k < s.size) (hp : p s[k] = false) : s.data.toList.all p = false := by
  rw [List.all_eq_false]
  have hl : k < s.data.toList.length := by simpa using hlt
  exact ⟨s.data.toList[k], List.getElem_mem hl, by rw [Bool.not_eq_true]; exact hp⟩
set_option maxRecDepth 100000 in
theorem all_whole {s : ByteArray} {p : UInt8 → Bool} (h : (s.data.toList.take s.size).all p = true) : s.data.toList.all p = true := by
  have e : s.size = s.data.toList.length := by simp
  rw [e, List.take_length] at h
  exact h
set_option maxRecDepth 100000 in
theorem idOk_not {s : ByteArray} (h : s.data.toList.all idCh = false) : idOk s = false := by unfold idOk; rw [h]; rfl
set_option maxRecDepth 100000 in
theorem idOk_yes {s : ByteArray} (h : s.data.toList.all idCh = true) : idOk s = inB (s.size : Int) 1 6 := by unfold idOk; rw [h]; rfl
end Go.Proofs.YtnmijppppcgobaaGreatDoor
set_option linter.unusedVariables false
namespace Go.Proofs.YtnmijppppcgobaaGreatDoor
open Go.ChangeShapes Go.WideShapes Go.ChangeAt Go.RowKit

/-- a row of structs of the call's own, from block B on; it may be appended to -/
def owE {α : Type} (T : TypeId) (k : Nat) (enc : α → List Value) (B : Nat) (w : World) (v : Value) (l : List α) : Prop := w.ownsRow B T k v l.length (l.flatMap enc)
section
variable {α : Type} {T : TypeId} {k B B' : Nat} {enc : α → List Value} {w w' : World} {v : Value} {l : List α}
set_option maxRecDepth 100000 in
theorem owE_none (T : TypeId) (k B : Nat) (enc : α → List Value) (w : World) : owE T k enc B w (.slice none 0 0) [] := ⟨by simp, Or.inl ⟨rfl, rfl⟩⟩
set_option maxRecDepth 100000 in
theorem owE.form (h : owE T k enc B w v l) : ∃ A c, v = .slice A l.length c ∧ l.length ≤ c := by
  rcases h.2 with ⟨rfl, h0⟩ | ⟨g, cap, cur, rfl, hB, hg, h1, _⟩
  · exact ⟨none, 0, by rw [h0], by omega⟩
  · exact ⟨_, cap, rfl, h1⟩
set_option maxRecDepth 100000 in
theorem owE.lt (h : owE T k enc B w v l) : ∀ g, v.ownBlock = some g → B ≤ g ∧ g < w.heap.size := World.ownsRow.lt h
set_option maxRecDepth 100000 in
theorem owE.keep (h : owE T k enc B w v l) (hk : ∀ g, v.ownBlock = some g → w'.heap[g]? = w.heap[g]?) : owE T k enc B w' v l := by
  refine ⟨h.1, ?_⟩
  rcases h.2 with hn | ⟨g, cap, cur, rfl, hB, hg, rest⟩
  · exact .inl hn
  · exact .inr ⟨g, cap, cur, rfl, hB, (hk g rfl).trans hg, rest⟩
set_option maxRecDepth 100000 in
theorem owE.below {C : Nat} (h : owE T k enc B w v l) (hb : Below C w w') (hC : w.heap.size ≤ C) : owE T k enc B w' v l := h.keep fun g hg => hb.block g (by have := (h.lt g hg).2; omega)
set_option maxRecDepth 100000 in
theorem owE.alloc (h : owE T k enc B w v l) (o : Obj) : owE T k enc B (w.alloc o) v l := World.ownsRow.alloc h o
set_option maxRecDepth 100000 in
theorem owE.set (h : owE T k enc B w v l) {b : Nat} (hb : v.ownBlock ≠ some b) (o : Nat) (x : Value) : owE T k enc B (w.setCell ⟨b, o, none⟩ x) v l := h.keep fun g hg => Below.heap_setCell _ _ _ _ (show g ≠ b from fun e => hb (by rw [hg, e]))
set_option maxRecDepth 100000 in
theorem owE.mono (h : owE T k enc B w v l) (hB : B' ≤ B) : owE T k enc B' w v l := World.ownsRow.mono h hB
set_option maxRecDepth 100000 in
theorem flat_at (hk : ∀ x, (enc x).length = k) : ∀ (l : List α) (j : Nat) (x : α), l[j]? = some x → ∀ t u, (enc x)[t]? = some u → (l.flatMap enc)[j * k + t]? = some u := by
  intro l
  induction l with
  | nil => intro j x h; simp at h
  | cons y l ih =>
    intro j x h t u hu
    rw [List.flatMap_cons]
    cases j with
    | zero =>
      simp only [List.getElem?_cons_zero, Option.some.injEq] at h
      subst h
      rw [Nat.zero_mul, Nat.zero_add, List.getElem?_append_left (List.getElem?_eq_some_iff.1 hu).1]
      exact hu
    | succ j =>
      have := ih j x (by simpa using h) t u hu
      rw [List.getElem?_append_right (by rw [hk, Nat.add_mul]; omega), hk, Nat.add_mul]
      rwa [show j * k + 1 * k + t - k = j * k + t by omega]
set_option maxRecDepth 100000 in
/-- the row's elements lie in one block that may be written -/
theorem owE.filled (h : owE T k enc B w v l) (hk : ∀ x, (enc x).length = k) (d : α) : (l = [] ∧ ∃ A c, v = .slice A 0 c) ∨ ∃ b c, v = .slice (some ⟨b, 0, none⟩) l.length c ∧ l.length ≤ c ∧ B ≤ b ∧ b < w.heap.size ∧ Proofs.YtnmijppppcgobaaGreatDoor.filled w b 0 k l.length l.length fun j => enc (l.getD j d) := by
  have hlen := h.1
  rcases h.2 with ⟨rfl, h0⟩ | ⟨g, cap, cur, rfl, hB, hg, h1, h2, h3, h4⟩
  · exact .inl ⟨List.eq_nil_of_length_eq_zero h0, none, 0, rfl⟩
  · refine .inr ⟨g, cap, rfl, h1, hB, (Array.getElem?_eq_some_iff.1 hg).1, ?_⟩
    have hh : w.ownsRow B T k (.slice (some ⟨g, 0, none⟩) l.length cap) l.length (l.flatMap enc) := h
    refine ⟨fun t ht => ?_, fun j hj t u hu => ?_⟩
    · rw [Nat.zero_add]
      refine ⟨?_, hh.frozenAt t⟩
      rw [hh.cellAt t ht]
      exact ⟨_, List.getElem?_eq_getElem (by rw [hlen]; exact ht)⟩
    · have hx : l[j]? = some l[j] := List.getElem?_eq_getElem hj
      have hd : l.getD j d = l[j] := by rw [List.getD_eq_getElem?_getD, hx]; rfl
      simp only [hd] at hu
      have htk : t < k := by rw [← hk l[j]]; exact (List.getElem?_eq_some_iff.1 hu).1
      have hjk := mul_step (k := k) hj
      rw [Nat.zero_add, hh.cellAt (j * k + t) (by omega)]
      exact flat_at hk l j _ hx t u hu
end
set_option maxRecDepth 100000 in
/-- append(s, T{..}) onto a row of the call's own -/
theorem app_elem {P : Program} {ops : Array Oper} {rest : List Oper} {o : Oper} {a : Act} {Q : Exit → Act → World → Prop} {α : Type} (enc : α → List Value) (k : Nat) (hk : ∀ x, (enc x).length = k) (hk0 : 0 < k) (hone : ∀ x, ∀ u ∈ enc x, u.oneCell' = true)
    (t e : TypeId) (zs : Array Value) (bytes : Nat) (ht : P.underlying t = some (.slice e)) (hinfo : (P.info? e).map (fun i => (i.zero.map (·.cells), i.size, i.bytes)) = some (some zs, k, bytes)) (hzs : zs.size = k)
    (s x : Operand) (hgd : o.guard = none) (ho : o.op = .call { callee := .builtin .append, args := #[s, x], argTypes := #[t, t] })
    (base : Nat) (W : World) (v : Value) (l : List α) (y : α) (n : Nat) (us : Array Value) (hus : us.toList = enc y) (hs : a.eval s = v) (hx : a.eval x = .slice (some ⟨n, 0, none⟩) 1 1) (hn : n = W.heap.size)
    (hown : owE e k enc base W v l) (h63 : l.length + 1 ≤ maxLen) (hbytes : (l.length + 1) * bytes ≤ 140737488355328) (hbase : base ≤ W.heap.size)
    (h : ∀ A c w', owE e k enc base w' (.slice A (l.length + 1) c) (l ++ [y]) → l.length + 1 ≤ c → (W.alloc (.cells us e)).grownBy w' v.ownBlock → ((Value.slice A (l.length + 1) c).ownBlock = v.ownBlock ∨ (Value.slice A (l.length + 1) c).ownBlock = some (W.heap.size + 1)) → wpList P ops Q rest (a.put o.dst (.slice A (l.length + 1) c)) w') : wpList P ops Q (o :: rest) a (W.alloc (.cells us e)) := by
  subst hn
  obtain ⟨i, hi, hxx⟩ := Option.map_eq_some_iff.1 hinfo
  simp only [Prod.mk.injEq] at hxx
  obtain ⟨hz, hsize, hby⟩ := hxx
  obtain ⟨z, hzz, hzc⟩ := Option.map_eq_some_iff.1 hz
  refine wpList_append_own_at _ hgd s x t ho base e i z k bytes ht hi hzz hsize hby (by rw [hzc, hzs]) hk0 v l.length (l.flatMap enc) hs (World.ownsRow.alloc hown _) ⟨W.heap.size, 0, none⟩ 1 1 (enc y) hx (by rw [hk]; omega) ?_ (hone y) h63 hbytes (by simp; omega) ?_
  · intro j u hu
    have e1 : (⟨W.heap.size, 0, none⟩ : Addr).add j = ⟨W.heap.size, j, none⟩ := by
      unfold Addr.add
      split
      · next h0 => rw [h0]
      · simp
    rw [e1, cell_of_row _ _ j us e (0, 0) (heap_alloc_new _ _), ← Array.getElem?_toList, hus]
    exact hu
  · intro v' w1 hown' hgrow _ hlies
    have ho' : owE e k enc base w1 v' (l ++ [y]) := by
      unfold owE
      rw [List.length_append, List.flatMap_append]
      simpa using hown'
    obtain ⟨A, c, rfl, hc⟩ := ho'.form
    rw [List.length_append] at ho' hc hlies ⊢
    exact h A c w1 ho' hc hgrow (by simpa using hlies)
set_option maxRecDepth 100000 in
/-- .. as a step of a region that draws its order (for go_region_law) -/
theorem app_elem_step {P : Program} {ops : Array Oper} {o : Oper} {a : Act} {Kn : Act → World → Prop} {Q : Exit → Act → World → Prop} {E : Prop} {α : Type} (enc : α → List Value) (k : Nat) (hk : ∀ x, (enc x).length = k) (hk0 : 0 < k) (hone : ∀ x, ∀ u ∈ enc x, u.oneCell' = true)
    (t e : TypeId) (zs : Array Value) (bytes : Nat) (ht : P.underlying t = some (.slice e)) (hinfo : (P.info? e).map (fun i => (i.zero.map (·.cells), i.size, i.bytes)) = some (some zs, k, bytes)) (hzs : zs.size = k)
    (s x : Operand) (hgd : o.guard = none) (ho : o.op = .call { callee := .builtin .append, args := #[s, x], argTypes := #[t, t] })
    (base : Nat) (W : World) (v : Value) (l : List α) (y : α) (n : Nat) (us : Array Value) (hus : us.toList = enc y) (hs : a.eval s = v) (hx : a.eval x = .slice (some ⟨n, 0, none⟩) 1 1) (hn : n = W.heap.size)
    (hown : owE e k enc base W v l) (h63 : l.length + 1 ≤ maxLen) (hbytes : (l.length + 1) * bytes ≤ 140737488355328) (hbase : base ≤ W.heap.size)
    (h : ∀ A c w', owE e k enc base w' (.slice A (l.length + 1) c) (l ++ [y]) → l.length + 1 ≤ c → (W.alloc (.cells us e)).grownBy w' v.ownBlock → ((Value.slice A (l.length + 1) c).ownBlock = v.ownBlock ∨ (Value.slice A (l.length + 1) c).ownBlock = some (W.heap.size + 1)) → Kn (a.put o.dst (.slice A (l.length + 1) c)) w') : if Region.wanted o (yielded ops a.tmps) = true then o.wp P a (W.alloc (.cells us e)) Kn Q else E := by
  rw [if_pos (by simp [Region.wanted, hgd])]
  subst hn
  obtain ⟨i, hi, hxx⟩ := Option.map_eq_some_iff.1 hinfo
  simp only [Prod.mk.injEq] at hxx
  obtain ⟨hz, hsize, hby⟩ := hxx
  obtain ⟨z, hzz, hzc⟩ := Option.map_eq_some_iff.1 hz
  have hcells : ∀ j u, (enc y)[j]? = some u → (W.alloc (.cells us e)).cell? ((⟨W.heap.size, 0, none⟩ : Addr).add j) = some u := by
    intro j u hu
    have e1 : (⟨W.heap.size, 0, none⟩ : Addr).add j = ⟨W.heap.size, j, none⟩ := by
      unfold Addr.add
      split
      · next h0 => rw [h0]
      · simp
    rw [e1, cell_of_row _ _ j us e (0, 0) (heap_alloc_new _ _), ← Array.getElem?_toList, hus]
    exact hu
  obtain ⟨v', w1, hr, hown', hgrow, _, hlies⟩ := run_append_own_at (P := P) (W.alloc (.cells us e)) base t o.type e i z k bytes ht hi hzz hsize hby (by rw [hzc, hzs]) hk0 v l.length (l.flatMap enc) (World.ownsRow.alloc hown _) ⟨W.heap.size, 0, none⟩ 1 1 (enc y) (by rw [hk]; omega) hcells (hone y) h63 hbytes (by simp; omega)
  have ho' : owE e k enc base w1 v' (l ++ [y]) := by
    unfold owE
    rw [List.length_append, List.flatMap_append]
    simpa using hown'
  obtain ⟨A, c, rfl, hc⟩ := ho'.form
  rw [List.length_append] at ho' hc hlies hr
  unfold Oper.wp execOp
  simp only [ho, resolve, invoke, builtin, Sem.run_bind, Sem.run_pure, Result.andThen_ok, List.map_toArray, List.map_cons, List.map_nil, hs, hx, hr]
  exact h A c w1 ho' hc hgrow (by simpa using hlies)
set_option maxRecDepth 100000 in
theorem ow.from {T : TypeId} {K : IntKind} {B : Nat} {w : World} {v : Value} {L : List Int} (h : ow T K B w v L) : ∀ g, v.ownBlock = some g → B ≤ g := fun g hg => (World.ownsRow.lt h g hg).1
set_option maxRecDepth 100000 in
theorem ow.grownRow {T : TypeId} {K : IntKind} {B : Nat} {w w' : World} {v : Value} {L : List Int} {row : Option Nat} (h : ow T K B w v L) (hg : w.grownBy w' row) (hr : ∀ g, v.ownBlock = some g → row = some g → False) : ow T K B w' v L := by
  refine ⟨h.1, ?_⟩
  rcases h.2 with hn | ⟨g, cap, cur, rfl, hB, hgg, rest⟩
  · exact .inl hn
  · exact .inr ⟨g, cap, cur, rfl, hB, (hg.block g (Array.getElem?_eq_some_iff.1 hgg).1 (fun e => hr g rfl e.symm)).trans hgg, rest⟩
set_option maxRecDepth 100000 in
theorem rd.at {K : IntKind} {hi : Nat} {w : World} {A : Option Addr} {n c : Nat} {l : List Int} (h : rd K hi w (.slice A n c) l) {j : Nat} {x : Int} (hx : l[j]? = some x) : ∃ b off : Nat, A = some ⟨b, off, none⟩ ∧ b < hi ∧ w.cell? ⟨b, off + j, none⟩ = some (.int K x) := by
  obtain ⟨A', c', hv, hc, hj⟩ := h
  obtain ⟨b, off, e, hb, hcell⟩ := hj j (List.getElem?_eq_some_iff.1 hx).1
  simp only [Value.slice.injEq] at hv
  rw [List.getD_eq_getElem?_getD, hx] at hcell
  exact ⟨b, off, by rw [hv.1]; exact e, hb, hcell⟩
/-- numbers as such rows -/
def iCells (z : Int) : List Value := [.int .i64 z]
set_option maxRecDepth 100000 in
theorem iCells_one (x : Int) : ∀ u ∈ iCells x, u.oneCell' = true := by
  intro u hu
  simp only [iCells, List.mem_cons, List.not_mem_nil, or_false] at hu
  subst hu; rfl
set_option maxRecDepth 100000 in
theorem flat_map {α β : Type} (f : α → β) (l : List α) : (l.flatMap fun x => [f x]) = l.map f := by
  induction l with
  | nil => rfl
  | cons x l ih => rw [List.flatMap_cons, ih]; rfl
set_option maxRecDepth 100000 in
theorem owE.ints {T : TypeId} {B : Nat} {w : World} {v : Value} {l : List Int} (h : owE T 1 iCells B w v l) : ow T .i64 B w v l := by
  unfold owE at h
  rw [show l.flatMap iCells = l.map (Value.int .i64) from flat_map _ _] at h
  exact h
set_option maxRecDepth 100000 in
theorem owE_empty {α : Type} (T : TypeId) (k B : Nat) (enc : α → List Value) (w : World) (hB : B ≤ w.heap.size) : owE T k enc B (w.alloc (.cells #[] T)) (.slice (some ⟨w.heap.size, 0, none⟩) 0 0) [] :=
  ⟨by simp, Or.inr ⟨w.heap.size, 0, #[], rfl, hB, heap_alloc_new _ _, Nat.le_refl _, Nat.zero_le _, by simp, by simp⟩⟩
set_option maxRecDepth 100000 in
theorem owE.grown {α : Type} {T : TypeId} {k B : Nat} {enc : α → List Value} {w w' : World} {v : Value} {l : List α} {row : Option Nat} (h : owE T k enc B w v l) (hg : w.grownBy w' row) (hr : ∀ g, v.ownBlock = some g → row ≠ some g) : owE T k enc B w' v l :=
  h.keep fun g hg' => hg.block g (h.lt g hg').2 (fun e => hr g hg' e.symm)
end Go.Proofs.YtnmijppppcgobaaGreatDoor
set_option linter.unusedVariables false
namespace Go.Proofs.YtnmijppppcgobaaGreatDoor
open Go.ChangeShapes Go.WideShapes Go.ChangeAt Go.RowKit

set_option maxRecDepth 100000 in
theorem hCells_one (x : HoldD) : ∀ u ∈ hCells x, u.oneCell' = true := by
  intro u hu
  simp only [hCells, List.mem_cons, List.not_mem_nil, or_false] at hu
  rcases hu with rfl | rfl | rfl <;> rfl
set_option maxRecDepth 100000 in
/-- a row that was appended to, as holds of one's own -/
theorem owE_holds {B : Nat} {w : World} {T : TypeId} {v : Value} {l : List HoldD} (h : owE T 3 hCells B w v l) : HoldsR.mine B w.heap.size w [v] l := by
  rcases h.filled (fun _ => rfl) noH with ⟨rfl, A, c, rfl⟩ | ⟨b, c, rfl, hc, h1, h2, hf⟩
  · exact ⟨[], ⟨A, c, rfl, Nat.zero_le _, .inl ⟨rfl, rfl⟩⟩, List.nodup_nil, by simp⟩
  · exact holds_mine rfl hc h1 h2 hf
set_option maxRecDepth 100000 in
theorem bk.cells3 {w : World} {g : Nat} {t : TypeId} {a b c : Value} (h : bk w g t [a, b, c]) : w.cell? ⟨g, 0, none⟩ = some a ∧ w.cell? ⟨g, 1, none⟩ = some b ∧ w.cell? ⟨g, 2, none⟩ = some c := ⟨h.cell 0, h.cell 1, h.cell 2⟩
set_option maxRecDepth 100000 in
theorem holds_none (lo hi : Nat) (w : World) : HoldsR.mine lo hi w [.slice none 0 0] [] := ⟨[], ⟨none, 0, rfl, Nat.le_refl _, .inl ⟨rfl, rfl⟩⟩, List.nodup_nil, by simp⟩
set_option maxRecDepth 100000 in
theorem str_eq_list {a b : ByteArray} : a.toList = b.toList ↔ a = b := by
  constructor
  · intro h
    apply ByteArray.ext
    apply Array.toList_inj.1
    rwa [ByteArray.toList_eq, ByteArray.toList_eq] at h
  · rintro rfl; rfl
/-- holds as they are given back -/
def holdsOne (l : List HoldD) (w : World) (e : Ending) (w' : World) : Prop := ∃ u, e = .returned u ∧ HoldsR.mine w.heap.size w'.heap.size w' [u] l ∧ Below w.heap.size w w'
end Go.Proofs.YtnmijppppcgobaaGreatDoor
set_option linter.unusedVariables false
namespace Go.Proofs.YtnmijppppcgobaaGreatDoor
open Go.ChangeShapes Go.WideShapes Go.ChangeAt Go.RowKit

set_option maxRecDepth 100000 in
set_option maxHeartbeats 1600000 in
theorem specHoldIdOk_any (s : ByteArray) (w : World) (hs : s.size ≤ maxLen) :
    Calls Tryz.prog 171 #[.string s] w fun e w' => e = .returned (.bool (idOk s)) ∧ w = w' := by
  unfold maxLen at hs
  have HI := Lib.hid (fun w => inB_any (s.size : Int) 1 6 w)
  go_enter Tryz.func171, Tryz.ntmps171
  go_wp2
  go_loop [3] (fun i => ∃ k : Nat, k ≤ s.size ∧ i = .int .i64 k ∧ (s.data.toList.take k).all idCh = true) (fun i => s.size - (intOf i).toNat)
  case atStart => exact ⟨0, Nat.zero_le _, rfl, rfl⟩
  case round =>
    obtain ⟨k, hk, rfl, ha0⟩ := hrel
    have ha := Lib.hid ha0
    clear ha0
    by_cases hlt : k < s.size
    · go_wp2
      · go_ret
        exact ⟨ret_bool (idOk_not (all_not (p := idCh) hlt (decide_eq_false (by omega)))).symm, rfl⟩
      · go_round
        case rel => exact ⟨k + 1, by omega, by go_num, all_step hlt ha.out (decide_eq_true (by omega))⟩
        case measure => simp [intOf] <;> omega
      · go_ret
        exact ⟨ret_bool (idOk_not (all_not (p := idCh) hlt (decide_eq_false (by omega)))).symm, rfl⟩
      · go_round
        case rel => exact ⟨k + 1, by omega, by go_num, all_step hlt ha.out (decide_eq_true (by omega))⟩
        case measure => simp [intOf] <;> omega
      · go_ret
        exact ⟨ret_bool (idOk_not (all_not (p := idCh) hlt (decide_eq_false (by omega)))).symm, rfl⟩
    · obtain rfl : k = s.size := by omega
      have HV := Lib.hid (idOk_yes (all_whole ha.out))
      go_wp2_with fail
      refine (HI.out _).mono ?_
      rintro e w1 ⟨rfl, rfl⟩
      go_wp2
      go_ret
      exact ⟨ret_bool HV.out.symm, rfl⟩
set_option maxRecDepth 100000 in
set_option maxHeartbeats 1600000 in
theorem specHoldOk_any (x : HoldD) (w : World) (hs : x.1.size ≤ maxLen) :
    Calls Tryz.prog 223 #[.agg #[.string x.1, .int .i64 x.2.1, .int .i64 x.2.2]] w fun e w' => e = .returned (.bool (holdOk x)) ∧ Below w.heap.size w w' := by
  have HI1 := Lib.hid (fun w => specHoldIdOk_any x.1 w hs)
  have HI2 := Lib.hid (fun w => inB_any x.2.1 1 9007199254740992 w)
  have HT := Lib.hid (fun w => specTime_any x.2.2 w)
  have HD : Hid (holdOk x = (idOk x.1 && (inB x.2.1 1 9007199254740992 && timeB x.2.2))) := Lib.hid rfl
  generalize idOk x.1 = b1 at HI1 HD
  generalize inB x.2.1 1 9007199254740992 = b2 at HI2 HD
  generalize timeB x.2.2 = b3 at HT HD
  have HB0 : Hid (Below w.heap.size w (w.alloc (.cells #[.string x.1, .int .i64 x.2.1, .int .i64 x.2.2] 33))) := Lib.hid ((Below.refl _ _).alloc (Nat.le_refl _) _)
  rw [HD.out]
  cases b1
  · go_enter Tryz.func223, Tryz.ntmps223
    go_wp2_with fail
    refine (HI1.out _).mono ?_
    rintro e w1 ⟨rfl, rfl⟩
    go_wp2
    go_ret
    exact ⟨rfl, HB0.out⟩
  cases b2
  · go_enter Tryz.func223, Tryz.ntmps223
    go_wp2_with fail
    refine (HI1.out _).mono ?_
    rintro e w1 ⟨rfl, rfl⟩
    go_wp2_with fail
    refine (HI2.out _).mono ?_
    rintro e w1 ⟨rfl, rfl⟩
    go_wp2
    go_ret
    exact ⟨rfl, HB0.out⟩
  go_enter Tryz.func223, Tryz.ntmps223
  go_wp2_with fail
  refine (HI1.out _).mono ?_
  rintro e w1 ⟨rfl, rfl⟩
  go_wp2_with fail
  refine (HI2.out _).mono ?_
  rintro e w1 ⟨rfl, rfl⟩
  go_wp2_with fail
  refine (HT.out _).mono ?_
  rintro e w1 ⟨rfl, rfl⟩
  go_wp2
  go_ret
  exact ⟨rfl, HB0.out⟩
set_option maxRecDepth 100000 in
theorem find_none {l : List HoldD} {id : ByteArray} (h : ∀ x ∈ l, x.1 ≠ id) : findH l id = -1 := by
  have h1 : l.findIdx? (fun x => decide (x.1 = id)) = none := List.findIdx?_eq_none_iff.2 fun x hx => decide_eq_false (h x hx)
  unfold findH
  rw [h1]
set_option maxRecDepth 100000 in
theorem find_some {l : List HoldD} {id : ByteArray} {i : Nat} {x : HoldD} (hx : l[i]? = some x) (he : x.1 = id) (h : ∀ y ∈ l.take i, y.1 ≠ id) : findH l id = (i : Int) := by
  obtain ⟨hi, rfl⟩ := List.getElem?_eq_some_iff.1 hx
  have h1 : l.findIdx? (fun x => decide (x.1 = id)) = some i := by
    rw [List.findIdx?_eq_some_iff_getElem]
    refine ⟨hi, decide_eq_true he, fun j hj => ?_⟩
    have hm : l[j] ∈ l.take i := by rw [List.mem_take_iff_getElem]; exact ⟨j, by omega, rfl⟩
    simpa using h _ hm
  unfold findH
  rw [h1]
set_option maxRecDepth 100000 in
set_option maxHeartbeats 1600000 in
theorem specHoldAt_any (hi : Nat) (v : Value) (l : List HoldD) (id : ByteArray) (w : World) (hn : l.length ≤ 1048576) (h : HoldsR.rd hi w [v] l) (hh : hi ≤ w.heap.size) :
    Calls Tryz.prog 31 #[v, .string id] w fun e w' => e = .returned (.int .i64 (findH l id)) ∧ Below w.heap.size w w' := by
  obtain ⟨A, c, rfl, hc, h⟩ := holds_rd h
  have HR := Lib.hid h
  clear h
  go_enter Tryz.func31, Tryz.ntmps31
  go_wp2
  go_loopw [9] (fun iv wr => ∃ i : Nat, i ≤ l.length ∧ iv = .int .i64 i ∧ Hid (∀ y ∈ l.take i, y.1 ≠ id) ∧ Hid (Below w.heap.size w wr) ∧ w.heap.size ≤ wr.heap.size) (fun iv _ => l.length - (intOf iv).toNat)
  case atStart => exact ⟨0, Nat.zero_le _, rfl, Lib.hid (by simp), Lib.hid (Below.refl _ _), Nat.le_refl _⟩
  case round =>
    obtain ⟨i, hi', rfl, HN, HB, hz⟩ := hrel
    by_cases hin : i < l.length
    · obtain ⟨x, hx⟩ : ∃ x, l[i]? = some x := ⟨_, List.getElem?_eq_getElem hin⟩
      obtain ⟨b, off, rfl, hbl, c0, c1, c2⟩ := HR.out i x hx
      have c0 := (HB.out.cell (p := ⟨b, off + i * 3, none⟩) (show b < w.heap.size by omega)).trans c0
      have c1 := (HB.out.cell (p := ⟨b, off + i * 3 + 1, none⟩) (show b < w.heap.size by omega)).trans c1
      have c2 := (HB.out.cell (p := ⟨b, off + i * 3 + 2, none⟩) (show b < w.heap.size by omega)).trans c2
      have g1 : (i : Int) < (l.length : Int) := by omega
      have g2 : 0 ≤ (i : Int) := by omega
      have HX := Lib.hid hx
      clear hx
      have HB2 : Hid (Below w.heap.size w (wr.alloc (.cells #[.string x.1, .int .i64 x.2.1, .int .i64 x.2.2] 33))) := Lib.hid (HB.out.alloc hz _)
      by_cases he : x.1 = id
      · have hel : (x.1.toList == id.toList) = true := by rw [he]; simp
        have HV := Lib.hid (find_some HX.out he HN.out)
        clear he
        go_wp2
        go_ret
        exact ⟨ret_int HV.out.symm, HB2.out⟩
      · have hel : (x.1.toList == id.toList) = false := by simpa using fun e => he (str_eq_list.1 e)
        have hel2 : ¬ x.1.toList = id.toList := fun e => he (str_eq_list.1 e)
        have HN2 : Hid (∀ y ∈ l.take (i + 1), y.1 ≠ id) := Lib.hid (by
          obtain ⟨h1, h2⟩ := List.getElem?_eq_some_iff.1 HX.out
          rw [List.take_succ_eq_append_getElem h1, h2]
          intro y hy
          rcases List.mem_append.1 hy with hy | hy
          · exact HN.out y hy
          · rw [List.mem_singleton.1 hy]; exact he)
        go_wp2
        go_roundw
        case rel => exact ⟨i + 1, by omega, by go_num, HN2, HB2, by simp; omega⟩
        case measure => simp [intOf] <;> omega
    · obtain rfl : i = l.length := by omega
      have HV : Hid (findH l id = -1) := Lib.hid (find_none (by have := HN.out; rwa [List.take_length] at this))
      go_wp2
      go_ret
      exact ⟨ret_int HV.out.symm, HB.out⟩
end Go.Proofs.YtnmijppppcgobaaGreatDoor
set_option linter.unusedVariables false
namespace Go.Proofs.YtnmijppppcgobaaGreatDoor
open Go.ChangeShapes Go.WideShapes Go.ChangeAt Go.RowKit

/-- W is w0 and more: all blocks of w0 hold what they held. -/
def Ext (w0 W : World) : Prop := Below w0.heap.size w0 W
set_option maxRecDepth 100000 in
theorem Ext.refl (w0 : World) : Ext w0 w0 := Below.refl _ _
set_option maxRecDepth 100000 in
theorem Ext.drew {w0 W : World} (h : Ext w0 W) : Ext w0 W.drew := Below.drew h
set_option maxRecDepth 100000 in
theorem Ext.below {w0 W : World} (h : Ext w0 W) : Below w0.heap.size w0 W := h
set_option maxRecDepth 100000 in
theorem Ext.step {w0 W W' : World} (h : Ext w0 W) (hb : Below W.heap.size W W') : Ext w0 W' := Below.trans h (hb.mono (Below.size h))
set_option maxRecDepth 100000 in
theorem Ext.cell {w0 W : World} (h : Ext w0 W) {b off : Nat} {v : Value} (hc : w0.cell? ⟨b, off, none⟩ = some v) (hb : b < w0.heap.size) : W.cell? ⟨b, off, none⟩ = some v := (Below.cell h hb).trans hc
set_option maxRecDepth 100000 in
theorem quiet_region {P : Program} {C : World → Prop} {id : Nat} {Q : Exit → Act → World → Prop} {a : Act} {w : World} {l : List Oper} (hm : P.follows .mixedOrders = true) (hB : Region.lexB .any l.toArray = true) (hC : C w.drew)
    (h : wpQuiet P l.toArray C (fun a' => ∀ w', C w' → Q .normal a' w') l a) : (Code.region id l.toArray true).wp P Q a w :=
  wp_region_quiet (C := C) hm hB hC (by simpa using h)
end Go.Proofs.YtnmijppppcgobaaGreatDoor
set_option linter.unusedVariables false
namespace Go.Proofs.YtnmijppppcgobaaGreatDoor
open Go.ChangeShapes Go.WideShapes Go.ChangeAt Go.RowKit

set_option maxRecDepth 100000 in
theorem holds_ok_not {l : List HoldD} {i : Nat} (hi : i < l.length) (h : holdAtOk l i = false) : holdsOk l = false := by
  unfold holdsOk
  have : (List.range l.length).all (holdAtOk l) = false := by
    rw [List.all_eq_false]
    exact ⟨i, List.mem_range.2 hi, by rw [h]; exact Bool.false_ne_true⟩
  rw [this]; rfl
set_option maxRecDepth 100000 in
theorem holds_ok_end {l : List HoldD} (h : (List.range l.length).all (holdAtOk l) = true) : holdsOk l = decide (l.length ≤ 4) := by
  unfold holdsOk; rw [h]; rfl
set_option maxRecDepth 100000 in
theorem range_snoc {l : List HoldD} {i : Nat} (h : (List.range i).all (holdAtOk l) = true) (h1 : holdAtOk l i = true) : (List.range (i + 1)).all (holdAtOk l) = true := by
  rw [List.range_succ, List.all_append, h]
  simp [h1]
set_option maxRecDepth 100000 in
set_option maxHeartbeats 1600000 in
theorem specHoldsOk_any (hi : Nat) (v : Value) (l : List HoldD) (w : World) (hn : l.length ≤ 1048576) (hs : ∀ x ∈ l, x.1.size ≤ maxLen) (h : HoldsR.rd hi w [v] l) (hh : hi ≤ w.heap.size) :
    Calls Tryz.prog 163 #[v] w fun e w' => e = .returned (.bool (holdsOk l)) ∧ Below w.heap.size w w' := by
  obtain ⟨A, c, rfl, hc, h⟩ := holds_rd h
  have HR := Lib.hid h
  have HS := Lib.hid hs
  clear h hs
  go_enter Tryz.func163, Tryz.ntmps163
  go_wp2
  go_loopw [7] (fun iv wr => ∃ i : Nat, i ≤ l.length ∧ iv = .int .i64 i ∧ Hid ((List.range i).all (holdAtOk l) = true) ∧ Hid (Below w.heap.size w wr) ∧ w.heap.size ≤ wr.heap.size) (fun iv _ => l.length - (intOf iv).toNat)
  case atStart => exact ⟨0, Nat.zero_le _, rfl, Lib.hid rfl, Lib.hid (Below.refl _ _), Nat.le_refl _⟩
  case round =>
    obtain ⟨i, hi', rfl, HN, HB, hz⟩ := hrel
    by_cases hin : i < l.length
    · obtain ⟨x, hx⟩ : ∃ x, l[i]? = some x := ⟨_, List.getElem?_eq_getElem hin⟩
      obtain ⟨p, hp⟩ : ∃ p, l[i - 1]? = some p := ⟨_, List.getElem?_eq_getElem (by omega : i - 1 < l.length)⟩
      have HXD : Hid (holdAtOk l i = (holdOk x && (decide (i = 0) || Op.bytesLess p.1.toList x.1.toList))) := Lib.hid (by
        unfold holdAtOk strLt
        rw [getD_of hx, getD_of hp])
      obtain ⟨b, off, rfl, hbl, c0, c1, c2⟩ := HR.out i x hx
      obtain ⟨b', off', e', -, d0, -, -⟩ := HR.out (i - 1) p hp
      simp only [Option.some.injEq, Addr.mk.injEq, and_true] at e'
      obtain ⟨rfl, rfl⟩ := e'
      have c0 := (HB.out.cell (p := ⟨b, off + i * 3, none⟩) (show b < w.heap.size by omega)).trans c0
      have c1 := (HB.out.cell (p := ⟨b, off + i * 3 + 1, none⟩) (show b < w.heap.size by omega)).trans c1
      have c2 := (HB.out.cell (p := ⟨b, off + i * 3 + 2, none⟩) (show b < w.heap.size by omega)).trans c2
      have d0 := (HB.out.cell (p := ⟨b, off + (i - 1) * 3, none⟩) (show b < w.heap.size by omega)).trans d0
      have g1 : (i : Int) < (l.length : Int) := by omega
      have g2 : 0 ≤ (i : Int) := by omega
      have hxs := HS.out x (List.mem_of_getElem? hx)
      have HOK := Lib.hid (fun W => specHoldOk_any x W hxs)
      obtain ⟨d, hd⟩ : ∃ d : Nat, d = i - 1 := ⟨_, rfl⟩
      rw [← hd] at d0
      have HDI := Lib.hid hd
      clear hx hp hd
      go_upto_region 4 with fail
      obtain ⟨W3, hW3⟩ : ∃ W3, W3 = wr.alloc (.cells #[.string x.1, .int .i64 x.2.1, .int .i64 x.2.2] 33) := ⟨_, rfl⟩
      have b3 := heap_alloc_new wr (.cells #[.string x.1, .int .i64 x.2.1, .int .i64 x.2.2] 33)
      have hb3 := (Below.refl wr.heap.size wr).alloc (Nat.le_refl _) (.cells #[.string x.1, .int .i64 x.2.1, .int .i64 x.2.2] 33)
      rw [← hW3] at b3 hb3 ⊢
      clear hW3
      have z3 : wr.heap.size < W3.heap.size := lt_of_block b3
      have HB3 : Hid (Below w.heap.size w W3) := Lib.hid (HB.out.trans (hb3.mono hz))
      have P0 := Lib.hid (cell_of_row _ _ 0 _ _ (0, 0) b3)
      have P1 := Lib.hid (cell_of_row _ _ 1 _ _ (0, 0) b3)
      have P2 := Lib.hid (cell_of_row _ _ 2 _ _ (0, 0) b3)
      simp only [List.getElem?_toArray, List.getElem?_cons_zero, List.getElem?_cons_succ] at P0 P1 P2
      have D0 := Lib.hid ((hb3.cell (p := ⟨b, off + d * 3, none⟩) (show b < wr.heap.size by omega)).trans d0)
      clear b3 hb3 c0 c1 c2 d0
      obtain ⟨ok, hok⟩ : ∃ ok, ok = holdAtOk l i := ⟨_, rfl⟩
      rw [← hok] at HXD
      have HOKI : Hid (holdAtOk l i = ok) := Lib.hid hok.symm
      clear hok
      generalize holdOk x = hk at HOK HXD
      go_cut [29] (fun cv wx => cv = .bool (!(hk && (decide (i = 0) || Op.bytesLess p.1.toList x.1.toList))) ∧ Below W3.heap.size W3 wx)
      case first =>
        have HX : Hid (Ext W3 W3.drew) := Lib.hid (Ext.refl W3).drew
        cases hk
        · refine quiet_region (C := Ext W3) (by kernel_rfl) (by kernel_rfl) HX.out ?_
          repeat (first
            | go_big_quiet_skip
            | (go_big_quiet_want; go_big_quiet_op; go_big_quiet_on)
            | (go_big_quiet_want; go_big_quiet_op; apply Exists.intro; refine ⟨fun _ _ => rfl, ?_⟩; go_big_quiet_on)
            | (go_big_quiet_want
               apply Exists.intro
               refine ⟨fun W hW => ?_, ?_⟩
               (have q0 := hW.cell P0.out z3
                have q1 := hW.cell P1.out z3
                have q2 := hW.cell P2.out z3
                have q3 := hW.cell D0.out (by omega)
                unfold Oper.quietAt
                go_simp
                rfl)
               simp only [Act.put, List.setIfInBounds_toArray, List.set_cons_zero, List.set_cons_succ]
               go_big_quiet_on)
            | (go_big_quiet_want
               apply Exists.intro
               refine ⟨fun W hW => ?_, ?_⟩
               (unfold Oper.quietAt
                go_simp
                go_at_call 223
                refine (HOK.out W).mono ?_
                rintro e w4 ⟨rfl, hb4⟩
                exact ⟨rfl, hW.step hb4⟩)
               simp only [Act.put, List.setIfInBounds_toArray, List.set_cons_zero, List.set_cons_succ]
               go_big_quiet_on))
          refine wpQuiet_nil ?_
          intro W4 hW4
          go_wp2
          go_meet
          exact ⟨rfl, hW4⟩
        by_cases hi0 : i = 0
        · have HI0 : Hid (decide (0 < i) = false) := Lib.hid (decide_eq_false (by omega))
          have HV : Hid (decide (i = 0) = true) := Lib.hid (decide_eq_true hi0)
          clear hi0
          refine quiet_region (C := Ext W3) (by kernel_rfl) (by kernel_rfl) HX.out ?_
          repeat (first
            | go_big_quiet_skip
            | (go_big_quiet_want; go_big_quiet_op; go_big_quiet_on)
            | (go_big_quiet_want; go_big_quiet_op; apply Exists.intro; refine ⟨fun _ _ => rfl, ?_⟩; go_big_quiet_on)
            | (go_big_quiet_want
               apply Exists.intro
               refine ⟨fun W hW => ?_, ?_⟩
               (have q0 := hW.cell P0.out z3
                have q1 := hW.cell P1.out z3
                have q2 := hW.cell P2.out z3
                have q3 := hW.cell D0.out (by omega)
                unfold Oper.quietAt
                go_simp
                rfl)
               simp only [Act.put, List.setIfInBounds_toArray, List.set_cons_zero, List.set_cons_succ]
               go_big_quiet_on)
            | (go_big_quiet_want
               apply Exists.intro
               refine ⟨fun W hW => ?_, ?_⟩
               (unfold Oper.quietAt
                go_simp
                go_at_call 223
                refine (HOK.out W).mono ?_
                rintro e w4 ⟨rfl, hb4⟩
                exact ⟨rfl, hW.step hb4⟩)
               simp only [Act.put, List.setIfInBounds_toArray, List.set_cons_zero, List.set_cons_succ]
               go_big_quiet_on))
          rw [HI0.out]
          repeat (first
            | go_big_quiet_skip
            | (go_big_quiet_want; go_big_quiet_op; go_big_quiet_on)
            | (go_big_quiet_want; go_big_quiet_op; apply Exists.intro; refine ⟨fun _ _ => rfl, ?_⟩; go_big_quiet_on))
          refine wpQuiet_nil ?_
          intro W4 hW4
          go_wp2
          go_meet
          exact ⟨by rw [HV.out]; rfl, hW4⟩
        have hi1 : decide (0 < i) = true := decide_eq_true (by omega)
        have HV : Hid (decide (i = 0) = false) := Lib.hid (decide_eq_false hi0)
        have gw : IntKind.i64.wrap ((i : Int) - 1) = (d : Int) := by have := HDI.out; rw [IntKind.wrap_i64]; omega
        have gw2 : wrap64 ((i : Int) - 1) = (d : Int) := by have := HDI.out; unfold wrap64; omega
        have gd : (d : Int) < (l.length : Int) := by have := HDI.out; omega
        have gd0 : 0 ≤ (d : Int) := by omega
        clear hi0
        cases hbl : Op.bytesLess p.1.toList x.1.toList
        · refine quiet_region (C := Ext W3) (by kernel_rfl) (by kernel_rfl) HX.out ?_
          repeat (first
            | go_big_quiet_skip
            | (go_big_quiet_want; go_big_quiet_op; go_big_quiet_on)
            | (go_big_quiet_want; go_big_quiet_op; apply Exists.intro; refine ⟨fun _ _ => rfl, ?_⟩; go_big_quiet_on)
            | (go_big_quiet_want
               apply Exists.intro
               refine ⟨fun W hW => ?_, ?_⟩
               (have q0 := hW.cell P0.out z3
                have q1 := hW.cell P1.out z3
                have q2 := hW.cell P2.out z3
                have q3 := hW.cell D0.out (by omega)
                unfold Oper.quietAt
                go_simp
                rfl)
               simp only [Act.put, List.setIfInBounds_toArray, List.set_cons_zero, List.set_cons_succ]
               go_big_quiet_on)
            | (go_big_quiet_want
               apply Exists.intro
               refine ⟨fun W hW => ?_, ?_⟩
               (unfold Oper.quietAt
                go_simp
                go_at_call 223
                refine (HOK.out W).mono ?_
                rintro e w4 ⟨rfl, hb4⟩
                exact ⟨rfl, hW.step hb4⟩)
               simp only [Act.put, List.setIfInBounds_toArray, List.set_cons_zero, List.set_cons_succ]
               go_big_quiet_on))
          refine wpQuiet_nil ?_
          intro W4 hW4
          go_wp2
          go_meet
          exact ⟨by rw [HV.out, hbl]; rfl, hW4⟩
        · refine quiet_region (C := Ext W3) (by kernel_rfl) (by kernel_rfl) HX.out ?_
          repeat (first
            | go_big_quiet_skip
            | (go_big_quiet_want; go_big_quiet_op; go_big_quiet_on)
            | (go_big_quiet_want; go_big_quiet_op; apply Exists.intro; refine ⟨fun _ _ => rfl, ?_⟩; go_big_quiet_on)
            | (go_big_quiet_want
               apply Exists.intro
               refine ⟨fun W hW => ?_, ?_⟩
               (have q0 := hW.cell P0.out z3
                have q1 := hW.cell P1.out z3
                have q2 := hW.cell P2.out z3
                have q3 := hW.cell D0.out (by omega)
                unfold Oper.quietAt
                go_simp
                rfl)
               simp only [Act.put, List.setIfInBounds_toArray, List.set_cons_zero, List.set_cons_succ]
               go_big_quiet_on)
            | (go_big_quiet_want
               apply Exists.intro
               refine ⟨fun W hW => ?_, ?_⟩
               (unfold Oper.quietAt
                go_simp
                go_at_call 223
                refine (HOK.out W).mono ?_
                rintro e w4 ⟨rfl, hb4⟩
                exact ⟨rfl, hW.step hb4⟩)
               simp only [Act.put, List.setIfInBounds_toArray, List.set_cons_zero, List.set_cons_succ]
               go_big_quiet_on))
          refine wpQuiet_nil ?_
          intro W4 hW4
          go_wp2
          go_meet
          exact ⟨by rw [HV.out, hbl]; rfl, hW4⟩
      case rest =>
        obtain ⟨rfl, hbc⟩ := hcut
        have HBC : Hid (Below w.heap.size w wc) := Lib.hid (HB3.out.trans (hbc.mono (by omega)))
        have zc : w.heap.size ≤ wc.heap.size := HBC.out.size
        rw [← HXD.out]
        cases ok
        · have HV : Hid (holdsOk l = false) := Lib.hid (holds_ok_not hin HOKI.out)
          go_wp2
          go_ret
          exact ⟨ret_bool HV.out.symm, HBC.out⟩
        · go_wp2
          go_roundw
          case rel => exact ⟨i + 1, by omega, by go_num, Lib.hid (range_snoc HN.out HOKI.out), HBC, zc⟩
          case measure => simp [intOf] <;> omega
    · obtain rfl : i = l.length := by omega
      have HV : Hid (holdsOk l = decide (l.length ≤ 4)) := Lib.hid (holds_ok_end HN.out)
      go_wp2
      go_ret
      exact ⟨ret_bool (by rw [HV.out]; simp; omega), HB.out⟩
end Go.Proofs.YtnmijppppcgobaaGreatDoor
