/- RingOk of the reference; no conditions. -/
import Derived.Test.YthnimmagaocipaaGreatDoorMrp1
import Derived.BigQuiet
import Derived.Deep.QuietTactic
import Derived.Deep.RegionWith
import Derived.Laws.AppendOwn
import Derived.OwnWalk
import Derived.Deep.Onto
import Derived.Maps.AppendAt
import Derived.WalkLawsBesides
set_option linter.unusedVariables false
namespace Go.Proofs.YthnimmagaocipaaGreatDoor
open Go.ChangeShapes Go.WideShapes Go.ChangeAt Go.RowKit

def inB (n lo hi : Int) : Bool := decide (lo ≤ n ∧ n ≤ hi)
def timeB (n : Int) : Bool := inB n 0 1000000000
/-- the four tests of a ring ahead of its buckets -/
def ringHead (r : RingD) : Bool := inB r.1 1 1000 && (inB (r.2.2.1.length : Int) 1 8 && (decide (r.2.2.2.length = r.2.2.1.length) && timeB r.2.1))
def ringOk (r : RingD) : Bool := ringHead r && (r.2.2.1.all isMon && r.2.2.2.all isMon)
set_option maxRecDepth 100000 in
theorem inB_any (n lo hi : Int) (w : World) : Calls Tryz.prog 51 #[.int .i64 n, .int .i64 lo, .int .i64 hi] w fun e w' => e = .returned (.bool (inB n lo hi)) ∧ w = w' := by
  by_cases h0 : lo ≤ n
  all_goals
    go_enter Tryz.func51, Tryz.ntmps51
    go_wp2
    go_ret
    exact ⟨by simp [inB]; omega, rfl⟩
set_option maxRecDepth 100000 in
theorem specTime_any (n : Int) (w : World) : Calls Tryz.prog 61 #[.int .i64 n] w fun e w' => e = .returned (.bool (timeB n)) ∧ w = w' := by
  have HT : Hid (timeB n = inB n 0 1000000000) := Lib.hid rfl
  rw [HT.out]
  have HI := Lib.hid (fun w => inB_any n 0 1000000000 w)
  generalize inB n 0 1000000000 = t at HI
  go_enter Tryz.func61, Tryz.ntmps61
  go_wp2_with fail
  refine (HI.out _).mono ?_
  rintro e w1 ⟨rfl, rfl⟩
  go_wp2
  go_ret
  exact ⟨rfl, rfl⟩
set_option maxRecDepth 100000 in
theorem ring_at {hi : Nat} {w : World} {A : Option Addr} {n c : Nat} {l : List Int} (h : rd .i64 hi w (.slice A n c) l) {j : Nat} {x : Int} (hx : l[j]? = some x) : ∃ b off : Nat, A = some ⟨b, off, none⟩ ∧ b < hi ∧ w.cell? ⟨b, off + j, none⟩ = some (.int .i64 x) := by
  obtain ⟨A', c', hv, hc, hj⟩ := h
  simp only [Value.slice.injEq] at hv
  obtain ⟨rfl, -, -⟩ := hv
  obtain ⟨b, off, e, h1, h2⟩ := hj j (List.getElem?_eq_some_iff.1 hx).1
  rw [List.getD_eq_getElem?_getD, hx] at h2
  exact ⟨b, off, e, h1, h2⟩
set_option maxRecDepth 100000 in
theorem all_snoc {l : List Int} {i : Nat} {x : Int} (hx : l[i]? = some x) (h : (l.take i).all isMon = true) : isMon x = true → (l.take (i + 1)).all isMon = true := fun hm => by
  obtain ⟨hi, rfl⟩ := List.getElem?_eq_some_iff.1 hx
  rw [List.take_succ_eq_append_getElem hi, List.all_append, h]
  simp [hm]
set_option maxRecDepth 100000 in
theorem all_fail {l : List Int} {i : Nat} {x : Int} (hx : l[i]? = some x) : isMon x = false → l.all isMon = false := fun hm => by
  rw [List.all_eq_false]
  exact ⟨x, List.mem_of_getElem? hx, by simp [hm]⟩
set_option maxRecDepth 100000 in
theorem ring_no {r : RingD} (h : ringHead r = false) : ringOk r = false := by simp [ringOk, h]

set_option maxRecDepth 100000 in
set_option maxHeartbeats 4000000 in
theorem specRingOk_any (hi : Nat) (vc vs : Value) (r : RingD) (w : World) (hc : rd .i64 hi w vc r.2.2.1) (hs : rd .i64 hi w vs r.2.2.2) (hh : hi ≤ w.heap.size) (hlc : r.2.2.1.length ≤ 1048576) (hls : r.2.2.2.length ≤ 1048576) :
    Calls Tryz.prog 54 #[.agg #[.int .i64 r.1, .int .i64 r.2.1, vc, vs]] w fun e w' => e = .returned (.bool (ringOk r)) ∧ Below w.heap.size w w' := by
  obtain ⟨sp, hd, cs, ss⟩ := r
  simp only at hc hs hlc hls ⊢
  obtain ⟨AC, cC, rfl, hcC⟩ := hc.form
  obtain ⟨AS, cS, rfl, hcS⟩ := hs.form
  have HC := Lib.hid hc
  have HS := Lib.hid hs
  have HB0 : Hid (Below w.heap.size w (w.alloc (.cells #[.int .i64 sp, .int .i64 hd, .slice AC cs.length cC, .slice AS ss.length cS] 47))) := Lib.hid ((Below.refl _ _).alloc (Nat.le_refl _) _)
  have HD : Hid (ringHead (sp, hd, cs, ss) = (inB sp 1 1000 && (inB (cs.length : Int) 1 8 && (decide (ss.length = cs.length) && timeB hd)))) := Lib.hid rfl
  clear hc hs
  have HI1 := Lib.hid (fun w => inB_any sp 1 1000 w)
  have HI2 := Lib.hid (fun w => inB_any (cs.length : Int) 1 8 w)
  have HT := Lib.hid (fun w => specTime_any hd w)
  generalize inB sp 1 1000 = b1 at HI1 HD
  generalize inB (cs.length : Int) 1 8 = b2 at HI2 HD
  generalize timeB hd = b4 at HT HD
  cases b1
  · have HN : Hid (ringOk (sp, hd, cs, ss) = false) := Lib.hid (ring_no (by rw [HD.out]; rfl))
    rw [HN.out]
    go_enter Tryz.func54, Tryz.ntmps54
    go_wp2_with fail
    refine (HI1.out _).mono ?_
    rintro e w1 ⟨rfl, rfl⟩
    go_wp2
    go_ret
    exact ⟨rfl, HB0.out⟩
  cases b2
  · have HN : Hid (ringOk (sp, hd, cs, ss) = false) := Lib.hid (ring_no (by rw [HD.out]; rfl))
    rw [HN.out]
    go_enter Tryz.func54, Tryz.ntmps54
    go_wp2_with fail
    refine (HI1.out _).mono ?_
    rintro e w1 ⟨rfl, rfl⟩
    go_wp2_with fail
    refine (HI2.out _).mono ?_
    rintro e w1 ⟨rfl, rfl⟩
    go_wp2
    go_ret
    exact ⟨rfl, HB0.out⟩
  by_cases h3 : ss.length = cs.length
  · cases b4
    · have HN : Hid (ringOk (sp, hd, cs, ss) = false) := Lib.hid (ring_no (by rw [HD.out, decide_eq_true h3]; rfl))
      rw [HN.out]
      have h3' : ((ss.length : Int) != (cs.length : Int)) = false := by simp [h3]
      clear h3
      go_enter Tryz.func54, Tryz.ntmps54
      go_wp2_with fail
      refine (HI1.out _).mono ?_
      rintro e w1 ⟨rfl, rfl⟩
      go_wp2_with fail
      refine (HI2.out _).mono ?_
      rintro e w1 ⟨rfl, rfl⟩
      go_wp2_with fail
      refine (HT.out _).mono ?_
      rintro e w1 ⟨rfl, rfl⟩
      go_wp2
      go_ret
      exact ⟨rfl, HB0.out⟩
    · have HY : Hid (ringOk (sp, hd, cs, ss) = (cs.all isMon && ss.all isMon)) := Lib.hid (by unfold ringOk; rw [HD.out, decide_eq_true h3]; rfl)
      rw [HY.out]
      have h3' : ((ss.length : Int) != (cs.length : Int)) = false := by simp [h3]
      have H3 := Lib.hid h3
      clear h3
      go_enter Tryz.func54, Tryz.ntmps54
      go_wp2_with fail
      refine (HI1.out _).mono ?_
      rintro e w1 ⟨rfl, rfl⟩
      go_wp2_with fail
      refine (HI2.out _).mono ?_
      rintro e w1 ⟨rfl, rfl⟩
      go_wp2_with fail
      refine (HT.out _).mono ?_
      rintro e w1 ⟨rfl, rfl⟩
      go_wp2
      have hbx := heap_alloc_new w (.cells #[.int .i64 sp, .int .i64 hd, .slice AC cs.length cC, .slice AS ss.length cS] 47)
      generalize w.alloc (.cells #[.int .i64 sp, .int .i64 hd, .slice AC cs.length cC, .slice AS ss.length cS] 47) = w1 at HB0 hbx ⊢
      have k2 := cell_of_row _ _ 2 _ _ (0, 0) hbx
      have k3 := cell_of_row _ _ 3 _ _ (0, 0) hbx
      simp only [List.getElem?_toArray, List.getElem?_cons_zero, List.getElem?_cons_succ] at k2 k3
      clear hbx
      have z1 : w.heap.size ≤ w1.heap.size := HB0.out.size
      go_loop [33] (fun iv => ∃ i : Nat, i ≤ cs.length ∧ iv = .int .i64 i ∧ Hid ((cs.take i).all isMon = true ∧ (ss.take i).all isMon = true)) (fun iv => cs.length - (intOf iv).toNat)
      case atStart => exact ⟨0, Nat.zero_le _, rfl, Lib.hid ⟨rfl, rfl⟩⟩
      case round =>
        obtain ⟨i, hi', rfl, HA⟩ := hrel
        by_cases hin : i < cs.length
        · have hin2 : i < ss.length := by have := H3.out; omega
          obtain ⟨x, hx⟩ : ∃ x, cs[i]? = some x := ⟨_, List.getElem?_eq_getElem hin⟩
          obtain ⟨y, hy⟩ : ∃ y, ss[i]? = some y := ⟨_, List.getElem?_eq_getElem hin2⟩
          obtain ⟨p, o, rfl, hp, d0⟩ := ring_at (HC.out.below HB0.out hh) hx
          obtain ⟨q, r, rfl, hq, e0⟩ := ring_at (HS.out.below HB0.out hh) hy
          have HX := Lib.hid (all_snoc hx HA.out.1)
          have HY2 := Lib.hid (all_snoc hy HA.out.2)
          have HMX := Lib.hid (fun w => l01Money_any x w)
          have HMY := Lib.hid (fun w => l01Money_any y w)
          have HLX := Lib.hid (all_fail hx)
          have HLY := Lib.hid (all_fail hy)
          have g1 : (i : Int) < (cs.length : Int) := by omega
          have g1' : (i : Int) < (ss.length : Int) := by omega
          have g2 : 0 ≤ (i : Int) := by omega
          clear hx hy
          generalize isMon x = mx at HX HMX HLX
          generalize isMon y = my at HY2 HMY HLY
          cases mx
          · have HF : Hid ((cs.all isMon && ss.all isMon) = false) := Lib.hid (by rw [HLX.out rfl]; rfl)
            go_wp2_with fail
            refine (HMX.out _).mono ?_
            rintro e w2 ⟨rfl, rfl⟩
            go_wp2
            go_ret
            exact ⟨by rw [HF.out]; rfl, HB0.out⟩
          cases my
          · have HF : Hid ((cs.all isMon && ss.all isMon) = false) := Lib.hid (by rw [HLY.out rfl, Bool.and_false])
            go_wp2_with fail
            refine (HMX.out _).mono ?_
            rintro e w2 ⟨rfl, rfl⟩
            go_wp2_with fail
            refine (HMY.out _).mono ?_
            rintro e w2 ⟨rfl, rfl⟩
            go_wp2
            go_ret
            exact ⟨by rw [HF.out]; rfl, HB0.out⟩
          · go_wp2_with fail
            refine (HMX.out _).mono ?_
            rintro e w2 ⟨rfl, rfl⟩
            go_wp2_with fail
            refine (HMY.out _).mono ?_
            rintro e w2 ⟨rfl, rfl⟩
            go_wp2
            go_round
            case rel => exact ⟨i + 1, by omega, by go_num, Lib.hid ⟨HX.out trivial, HY2.out trivial⟩⟩
            case measure => simp [intOf] <;> omega
        · obtain rfl : i = cs.length := by omega
          have HF : Hid ((cs.all isMon && ss.all isMon) = true) := Lib.hid (by
            have h1 := HA.out.1
            have h2 := HA.out.2
            rw [List.take_length] at h1
            rw [← H3.out, List.take_length] at h2
            rw [h1, h2]; rfl)
          go_wp2
          go_ret
          exact ⟨by rw [HF.out]; rfl, HB0.out⟩
  · have HN : Hid (ringOk (sp, hd, cs, ss) = false) := Lib.hid (ring_no (by rw [HD.out, decide_eq_false h3]; rfl))
    rw [HN.out]
    have h3' : ((ss.length : Int) != (cs.length : Int)) = true := by simp; omega
    clear h3
    go_enter Tryz.func54, Tryz.ntmps54
    go_wp2_with fail
    refine (HI1.out _).mono ?_
    rintro e w1 ⟨rfl, rfl⟩
    go_wp2_with fail
    refine (HI2.out _).mono ?_
    rintro e w1 ⟨rfl, rfl⟩
    go_wp2
    go_ret
    exact ⟨rfl, HB0.out⟩
end Go.Proofs.YthnimmagaocipaaGreatDoor
set_option linter.unusedVariables false
namespace Go.Proofs.YthnimmagaocipaaGreatDoor
open Go.ChangeShapes Go.WideShapes Go.ChangeAt Go.RowKit

/-- the sum of two amounts, where it is one -/
def addOk (a b : Int) : Bool := isMon a && isMon b && decide (a ≤ 4611686018427387904 - b)
def addVal (a b : Int) : Int := if addOk a b = true then a + b else 0

set_option maxRecDepth 100000 in
theorem specAdd_any (a b : Int) (w : World) : Calls Tryz.prog 91 #[.int .i64 a, .int .i64 b] w fun e w' => e = .returned (.tuple #[.int .i64 (addVal a b), .bool (addOk a b)]) ∧ w = w' := by
  cases ha : isMon a
  · go_enter Tryz.func91, Tryz.ntmps91
    go_wp2_with (go_at_call 52; refine (l01Money_any _ _).mono ?_; rintro e w' ⟨rfl, rfl⟩)
    go_ret2
    exact ⟨by simp [addVal, addOk, ha], rfl⟩
  cases hb : isMon b
  · go_enter Tryz.func91, Tryz.ntmps91
    go_wp2_with (go_at_call 52; refine (l01Money_any _ _).mono ?_; rintro e w' ⟨rfl, rfl⟩)
    go_ret2
    exact ⟨by simp [addVal, addOk, hb], rfl⟩
  have h1 := isMon_true ha
  have h2 := isMon_true hb
  by_cases hlt : 4611686018427387904 - b < a
  all_goals
    go_enter Tryz.func91, Tryz.ntmps91
    go_wp2_with (go_at_call 52; refine (l01Money_any _ _).mono ?_; rintro e w' ⟨rfl, rfl⟩)
    go_ret2
    exact ⟨by simp [addVal, addOk, ha, hb]; omega, rfl⟩

set_option maxRecDepth 100000 in
theorem sum_over (a b : Int) (w : World) (ha : isMon a = true) (hb : isMon b = true) (h : 4611686018427387904 - b < a) :
    Calls Tryz.prog 137 #[.int .i64 a, .int .i64 b] w fun e w' => e = .returned (.tuple #[.int .i64 0, .iface 147 (.agg #[.int .i64 4611686018427387904])]) ∧ w = w' := by
  have h1 := isMon_true ha
  have h2 := isMon_true hb
  go_enter Tryz.func137, Tryz.ntmps137
  go_wp2_with (go_at_call 118; refine (isMoney_any _ _).mono ?_; rintro e w' ⟨rfl, rfl⟩)
  go_ret2
  exact ⟨rfl, rfl⟩

set_option maxRecDepth 100000 in
theorem sum_ok (a b : Int) (w : World) (ha : isMon a = true) (hb : isMon b = true) (h : ¬ 4611686018427387904 - b < a) :
    Calls Tryz.prog 137 #[.int .i64 a, .int .i64 b] w fun e w' => e = .returned (.tuple #[.int .i64 (a + b), .nilIface]) ∧ w = w' := by
  have h1 := isMon_true ha
  have h2 := isMon_true hb
  go_enter Tryz.func137, Tryz.ntmps137
  go_wp2_with (go_at_call 118; refine (isMoney_any _ _).mono ?_; rintro e w' ⟨rfl, rfl⟩)
  go_ret2
  exact ⟨rfl, rfl⟩

end Go.Proofs.YthnimmagaocipaaGreatDoor
set_option linter.unusedVariables false
namespace Go.Proofs.YthnimmagaocipaaGreatDoor
open Go.ChangeShapes Go.WideShapes Go.ChangeAt Go.RowKit

def clampM (n : Int) : Int := if n < 0 then 0 else if 4611686018427387904 < n then 4611686018427387904 else n
def satVal (a b : Int) : Int := if addOk (clampM a) (clampM b) = true then clampM a + clampM b else 4611686018427387904
set_option maxRecDepth 100000 in
theorem clampM_bd (n : Int) : 0 ≤ clampM n ∧ clampM n ≤ 4611686018427387904 := by unfold clampM; split <;> (try split) <;> omega
set_option maxRecDepth 100000 in
theorem clampM_mon (n : Int) : isMon (clampM n) = true := by
  have := clampM_bd n
  simp [isMon, this.1, this.2]

end Go.Proofs.YthnimmagaocipaaGreatDoor
set_option linter.unusedVariables false
namespace Go.Proofs.YthnimmagaocipaaGreatDoor
open Go.ChangeShapes Go.WideShapes Go.ChangeAt Go.RowKit

set_option maxRecDepth 100000 in
/-- .. stored into -/
theorem nums.set {K : IntKind} {lo hi : Nat} {w : World} {b off n c : Nat} {l : List Int} (h : nums K lo hi w (.slice (some ⟨b, off, none⟩) n c) l) {j : Nat} (hj : j < l.length) (x : Int) :
    nums K lo hi (w.setCell ⟨b, off + j, none⟩ (.int K x)) (.slice (some ⟨b, off, none⟩) n c) (l.set j x) := by
  obtain ⟨A', c', hv, hc, hh⟩ := h
  simp only [Value.slice.injEq] at hv
  obtain ⟨rfl, rfl, rfl⟩ := hv
  refine ⟨some ⟨b, off, none⟩, c, by rw [List.length_set], by rw [List.length_set]; exact hc, fun i hi' => ?_⟩
  rw [List.length_set] at hi'
  obtain ⟨b', off', e, h1, h2, h3, h4⟩ := hh i hi'
  simp only [Option.some.injEq, Addr.mk.injEq, and_true] at e
  obtain ⟨rfl, rfl⟩ := e
  refine ⟨b, off, rfl, h1, h2, ?_, by simpa using h4⟩
  by_cases e : j = i
  · subst e
    rw [World.cell?_setCell_same _ _ _ h3, List.getD_eq_getElem?_getD, List.getElem?_set_self hj]
    rfl
  · rw [World.cell?_setCell_other _ _ _ _ (fun he => e (by have := congrArg Addr.off he; simp at this; omega)), h3, List.getD_eq_getElem?_getD, List.getD_eq_getElem?_getD, List.getElem?_set_ne e]
set_option maxRecDepth 100000 in
theorem nums.far {K : IntKind} {lo hi : Nat} {w : World} {v : Value} {l : List Int} (h : nums K lo hi w v l) {g o : Nat} (u : Value) (hg : Proofs.YthnimmagaocipaaGreatDoor.blk v ≠ some g) : nums K lo hi (w.setCell ⟨g, o, none⟩ u) v l := by
  obtain ⟨A, c, rfl, hc, hh⟩ := h
  refine ⟨A, c, rfl, hc, fun j hj => ?_⟩
  obtain ⟨b, off, rfl, h1, h2, h3, h4⟩ := hh j hj
  have hb : Proofs.YthnimmagaocipaaGreatDoor.blk (.slice (some ⟨b, off, none⟩) l.length c) = some b := by
    cases hn : l.length with
    | zero => omega
    | succ n => rfl
  refine ⟨b, off, rfl, h1, h2, ?_, by simpa using h4⟩
  rw [World.cell?_setCell_other _ _ _ _ (fun he => hg (by rw [hb]; exact congrArg some (by have := congrArg Addr.block he; simpa using this.symm)))]
  exact h3
/-- a ring as it is given back -/
def ringOne (r : RingD) (w : World) (e : Ending) (w' : World) : Prop := ∃ vc vs, e = .returned (.agg #[.int .i64 r.1, .int .i64 r.2.1, vc, vs]) ∧ RingR.mine w.heap.size w'.heap.size w' [.int .i64 r.1, .int .i64 r.2.1, vc, vs] r ∧ Below w.heap.size w w'
end Go.Proofs.YthnimmagaocipaaGreatDoor
set_option linter.unusedVariables false
namespace Go.Proofs.YthnimmagaocipaaGreatDoor
open Go.ChangeShapes Go.WideShapes Go.ChangeAt Go.RowKit Go.Deep

set_option maxRecDepth 100000 in
/-- one's own rows in the blocks of a frame that is written -/
theorem bk.cells {w : World} {g : Nat} {t : TypeId} {a b c d : Value} (h : bk w g t [a, b, c, d]) : (w.cell? ⟨g, 0, none⟩ = some a ∧ w.cell? ⟨g, 1, none⟩ = some b ∧ w.cell? ⟨g, 2, none⟩ = some c ∧ w.cell? ⟨g, 3, none⟩ = some d) ∧ (w.frozen? ⟨g, 0, none⟩ = false ∧ w.frozen? ⟨g, 1, none⟩ = false ∧ w.frozen? ⟨g, 2, none⟩ = false ∧ w.frozen? ⟨g, 3, none⟩ = false) :=
  ⟨⟨h.cell 0, h.cell 1, h.cell 2, h.cell 3⟩, h.frozen 0, h.frozen 1, h.frozen 2, h.frozen 3⟩
set_option maxRecDepth 100000 in
set_option maxHeartbeats 1600000 in
theorem toRing_any (hi : Nat) (vc vs : Value) (r : RingD) (w : World) (h1 : rd .i64 hi w vc r.2.2.1) (h2 : rd .i64 hi w vs r.2.2.2) (hh : hi ≤ w.heap.size) (hc : r.2.2.1.length ≤ 1048576) (hs : r.2.2.2.length ≤ 1048576) :
    Calls Tryz.prog 39 #[.agg #[.int .i64 r.1, .int .i64 r.2.1, vc, vs]] w (ringOne r w) := by
  obtain ⟨sp, hd, cs, ss⟩ := r
  simp only at h1 h2 hc hs ⊢
  obtain ⟨A1, c1, rfl, -⟩ := h1.form
  obtain ⟨A2, c2, rfl, -⟩ := h2.form
  have HT1 := Lib.hid (fun W (hW : Below w.heap.size w W) => toInts_any hi (.slice A1 cs.length c1) cs W hc (h1.below hW hh) (Nat.le_trans hh hW.size))
  have HT2 := Lib.hid (fun W (hW : Below w.heap.size w W) => toInts_any hi (.slice A2 ss.length c2) ss W hs (h2.below hW hh) (Nat.le_trans hh hW.size))
  clear h1 h2
  go_enter Tryz.func39, Tryz.ntmps39
  go_wp2_with fail
  obtain ⟨W, hW⟩ : ∃ W, W = ((w.alloc (.cells #[.int .i64 sp, .int .i64 hd, .slice A1 cs.length c1, .slice A2 ss.length c2] 39)).alloc (.cells #[.int .i64 0, .int .i64 0, .slice none 0 0, .slice none 0 0] 47)).alloc (.cells #[.int .i64 sp, .int .i64 hd, .slice none 0 0, .slice none 0 0] 47) := ⟨_, rfl⟩
  have b0 : bk W w.heap.size 39 [.int .i64 sp, .int .i64 hd, .slice A1 cs.length c1, .slice A2 ss.length c2] := by rw [hW]; exact ((bk.new w _ _).alloc _).alloc _
  have b1 : bk W (w.heap.size + 1) 47 [.int .i64 0, .int .i64 0, .slice none 0 0, .slice none 0 0] := by rw [hW]; exact (by simpa using bk.new (w.alloc _) _ _ : bk _ (w.heap.size + 1) _ _).alloc _
  have b2 : bk W (w.heap.size + 1 + 1) 47 [.int .i64 sp, .int .i64 hd, .slice none 0 0, .slice none 0 0] := by rw [hW]; simpa using bk.new ((w.alloc _).alloc _) _ _
  have HB0 : Hid (Below w.heap.size w W) := Lib.hid (by rw [hW]; exact (((Below.refl _ _).alloc (Nat.le_refl _) _).alloc (by simp) _).alloc (by simp; omega) _)
  have hz0 : W.heap.size = w.heap.size + 3 := by rw [hW]; simp
  rw [← hW]
  clear hW
  refine (HT1.out W HB0.out).mono ?_
  rintro e w1 ⟨u1, rfl, hu1, hb1⟩
  obtain ⟨AU, cU, rfl, -⟩ := hu1.form
  have z1 := hb1.size
  have HU1 := Lib.hid hu1
  have HB1 : Hid (Below w.heap.size w w1) := Lib.hid (HB0.out.trans (hb1.mono (by omega)))
  replace b0 := b0.below hb1 (by omega)
  replace b1 := b1.below hb1 (by omega)
  replace b2 := b2.below hb1 (by omega)
  clear hb1 HB0
  obtain ⟨⟨p0, p1, p2, p3⟩, -⟩ := b0.cells
  obtain ⟨⟨q0, q1, q2, q3⟩, f0, f1, f2, f3⟩ := b2.cells
  have B0 := Lib.hid b0
  have B1 := Lib.hid b1
  have B2 := Lib.hid b2
  clear b0 b1 b2
  go_wp2_with fail
  obtain ⟨W2, hW2⟩ : ∃ W2, W2 = w1.setCell ⟨w.heap.size + 1 + 1, 2, none⟩ (.slice AU cs.length cU) := ⟨_, rfl⟩
  rw [← hW2]
  have b0 := B0.out.far (p := ⟨w.heap.size + 1 + 1, 2, none⟩) (show w.heap.size ≠ w.heap.size + 1 + 1 by omega) (.slice AU cs.length cU)
  have b1 := B1.out.far (p := ⟨w.heap.size + 1 + 1, 2, none⟩) (show w.heap.size + 1 ≠ w.heap.size + 1 + 1 by omega) (.slice AU cs.length cU)
  have b2 := B2.out.set 2 (.slice AU cs.length cU)
  rw [← hW2] at b0 b1 b2
  have HU2 : Hid (nums .i64 W.heap.size w1.heap.size W2 (.slice AU cs.length cU) cs) := Lib.hid (by rw [hW2]; exact HU1.out.far _ (fun h => by have := HU1.out.blk _ h; omega))
  have HB2 : Hid (Below w.heap.size w W2) := Lib.hid (by rw [hW2]; exact HB1.out.setCell (p := ⟨_, _, none⟩) (show w.heap.size ≤ w.heap.size + 1 + 1 by omega) _)
  have z2 : W2.heap.size = w1.heap.size := by rw [hW2]; simp
  clear hW2 p0 p1 p2 p3 q0 q1 q2 q3 f0 f1 f2 f3 HU1 HB1 B0 B1 B2
  refine (HT2.out W2 HB2.out).mono ?_
  rintro e w3 ⟨u3, rfl, hu3, hb3⟩
  obtain ⟨AV, cV, rfl, -⟩ := hu3.form
  have z3 := hb3.size
  have HU3 := Lib.hid (HU2.out.below hb3 (by omega))
  have HV3 := Lib.hid hu3
  have HB3 : Hid (Below w.heap.size w w3) := Lib.hid (HB2.out.trans (hb3.mono (by omega)))
  replace b0 := b0.below hb3 (by omega)
  replace b1 := b1.below hb3 (by omega)
  replace b2 := b2.below hb3 (by omega)
  clear hb3 hu3 HB2 HU2
  obtain ⟨⟨p0, p1, p2, p3⟩, -⟩ := b0.cells
  obtain ⟨⟨q0, q1, q2, q3⟩, f0, f1, f2, f3⟩ := b2.cells
  obtain ⟨⟨r0, r1, r2, r3⟩, g0, g1, g2, g3⟩ := b1.cells
  clear b0 b1 b2
  go_wp2
  refine bodyPost_ret (v := .agg #[.int .i64 sp, .int .i64 hd, .slice AU cs.length cU, .slice AV ss.length cV]) (by simp [results, Tryz.results39, go_sem, r0, r1, r2, r3]) rfl ?_
  have ht := (((((Turned.refl w.heap.size (w.heap.size + 3) w3).set (b := w.heap.size + 1 + 1) 3 (.slice AV ss.length cV) (by omega) (by omega)).set (b := w.heap.size + 1) 0 (.int .i64 sp) (by omega) (by omega)).set (b := w.heap.size + 1) 1 (.int .i64 hd) (by omega) (by omega)).set (b := w.heap.size + 1) 2 (.slice AU cs.length cU) (by omega) (by omega)).set (b := w.heap.size + 1) 3 (.slice AV ss.length cV) (by omega) (by omega)
  have hsz := ht.size
  exact ⟨_, _, rfl, ring_mine_of ((HU3.out.turned ht (.inr (by omega)) (by omega)).mono (by omega) (by omega)) ((HV3.out.turned ht (.inr (by omega)) (by omega)).mono (by omega) (by omega)) (fun b h h' => by have h5 := HU3.out.blk b h; have h6 := HV3.out.blk b h'; omega), HB3.out.trans (ht.below (Nat.le_refl _) (by omega))⟩
/-- what a ring takes of the bound -/
def ringSz (r : RingD) : Int := r.2.2.1.length + r.2.2.2.length
set_option maxRecDepth 100000 in
set_option maxHeartbeats 1600000 in
theorem szRing_any (vc vs : Value) (r : RingD) (left : Int) (w : World) {hi : Nat} (h1 : rd .i64 hi w vc r.2.2.1) (h2 : rd .i64 hi w vs r.2.2.2) (hc : r.2.2.1.length ≤ maxLen) (hs : r.2.2.2.length ≤ maxLen) (hl0 : 0 ≤ left) (hl1 : left ≤ 1048576) :
    Calls Tryz.prog 33 #[.agg #[.int .i64 r.1, .int .i64 r.2.1, vc, vs], .int .i64 left] w fun e w' => ∃ q : Int, e = .returned (.int .i64 q) ∧ (q = -1 ∨ (q = left - ringSz r ∧ 0 ≤ q)) ∧ Below w.heap.size w w' := by
  obtain ⟨sp, hd, cs, ss⟩ := r
  simp only [ringSz] at h1 h2 hc hs ⊢
  obtain ⟨A1, c1, rfl, -⟩ := h1.form
  obtain ⟨A2, c2, rfl, -⟩ := h2.form
  clear h1 h2
  unfold maxLen at hc hs
  have HI := Lib.hid (fun (n c : Nat) (A : Option Addr) (l : Int) (W : World) (h1 : n ≤ 9223372036854775807) (h0 : 0 ≤ l) (h2 : l ≤ 1048576) => (show Calls Tryz.prog 72 #[.slice A n c, .int .i64 l] W (fun e w' => e = .returned (.int .i64 (if l - n < 0 then -1 else l - n)) ∧ W = w') by
    have hw : IntKind.i64.wrap (l - n) = l - n := IntWalk.i64_in _ (by omega)
    by_cases hn : l - n < 0
    · rw [if_pos hn]
      go_enter Tryz.func72, Tryz.ntmps72
      go_wp2
      go_ret
      exact ⟨rfl, rfl⟩
    · rw [if_neg hn]
      go_enter Tryz.func72, Tryz.ntmps72
      go_wp2
      go_ret
      exact ⟨rfl, rfl⟩))
  have HB0 : Hid (Below w.heap.size w (w.alloc (.cells #[.int .i64 sp, .int .i64 hd, .slice A1 cs.length c1, .slice A2 ss.length c2] 39))) := Lib.hid ((Below.refl _ _).alloc (Nat.le_refl _) _)
  by_cases hn1 : left - (cs.length : Int) < 0
  · go_enter Tryz.func33, Tryz.ntmps33
    go_wp2_with fail
    refine (HI.out _ _ _ _ _ (by omega) hl0 hl1).mono ?_
    rw [if_pos hn1]
    rintro e w1 ⟨rfl, rfl⟩
    go_wp2
    go_ret
    exact ⟨_, rfl, .inl rfl, HB0.out⟩
  by_cases hn2 : left - (cs.length : Int) - (ss.length : Int) < 0
  · have hq : ¬ (left - (cs.length : Int) < 0) := hn1
    go_enter Tryz.func33, Tryz.ntmps33
    go_wp2_with fail
    refine (HI.out _ _ _ _ _ (by omega) hl0 hl1).mono ?_
    rw [if_neg (by omega : ¬ (left - (cs.length : Int) < 0))]
    rintro e w1 ⟨rfl, rfl⟩
    go_wp2_with fail
    refine (HI.out _ _ _ _ _ (by omega) (by omega) (by omega)).mono ?_
    rw [if_pos hn2]
    rintro e w1 ⟨rfl, rfl⟩
    go_wp2
    go_ret
    exact ⟨_, rfl, .inl rfl, HB0.out⟩
  · go_enter Tryz.func33, Tryz.ntmps33
    go_wp2_with fail
    refine (HI.out _ _ _ _ _ (by omega) hl0 hl1).mono ?_
    rw [if_neg (by omega : ¬ (left - (cs.length : Int) < 0))]
    rintro e w1 ⟨rfl, rfl⟩
    go_wp2_with fail
    refine (HI.out _ _ _ _ _ (by omega) (by omega) (by omega)).mono ?_
    rw [if_neg (by omega : ¬ (left - (cs.length : Int) - (ss.length : Int) < 0))]
    rintro e w1 ⟨rfl, rfl⟩
    go_wp2
    go_ret
    exact ⟨_, rfl, .inr ⟨by omega, by omega⟩, HB0.out⟩
end Go.Proofs.YthnimmagaocipaaGreatDoor
set_option linter.unusedVariables false
namespace Go.Proofs.YthnimmagaocipaaGreatDoor
open Go.ChangeShapes Go.WideShapes Go.ChangeAt Go.RowKit

set_option maxRecDepth 100000 in
theorem ring2 {hi : Nat} {w : World} {x y : Int} {vc vs : Value} {r : RingD} (h : RingR.rd hi w [.int .i64 x, .int .i64 y, vc, vs] r) : rd .i64 hi w vc r.2.2.1 ∧ rd .i64 hi w vs r.2.2.2 := by
  obtain ⟨c, s, e, h1, h2⟩ := ring_rd h
  simp only [List.cons.injEq, and_true] at e
  obtain ⟨-, -, rfl, rfl⟩ := e
  exact ⟨h1, h2⟩
set_option maxRecDepth 100000 in
theorem ringOwn {lo hi : Nat} {w : World} {x y : Int} {vc vs : Value} {r : RingD} (h : RingR.mine lo hi w [.int .i64 x, .int .i64 y, vc, vs] r) : nums .i64 lo hi w vc r.2.2.1 ∧ nums .i64 lo hi w vs r.2.2.2 ∧ ∀ b, blk vc = some b → blk vs ≠ some b := by
  obtain ⟨c, s, e, h1, h2, h3⟩ := ring_mine h
  simp only [List.cons.injEq, and_true] at e
  obtain ⟨-, -, rfl, rfl⟩ := e
  exact ⟨h1, h2, h3⟩
/-- a ring whose buckets are marked -/
def markedR (r : RingD) (k : Int) : RingD := (r.1, r.2.1, marksL (fun x => x) k r.2.2.1.length, marksL (fun x => x) (k + r.2.2.1.length) r.2.2.2.length)
set_option maxRecDepth 100000 in
theorem markRing_r {lo hi : Nat} {vc vs : Value} {r : RingD} (k : Int) {w : World} (hk0 : 0 ≤ k) (hk1 : k ≤ 1000000000) (h : RingR.mine lo hi w [.int .i64 r.1, .int .i64 r.2.1, vc, vs] r) (hh : hi ≤ w.heap.size) (hc : r.2.2.1.length ≤ 1048576) (hs : r.2.2.2.length ≤ 1048576) :
    Calls Tryz.prog 48 #[.agg #[.int .i64 r.1, .int .i64 r.2.1, vc, vs], .int .i64 k] w fun e w' => e = .returned (.int .i64 (k + r.2.2.1.length + r.2.2.2.length)) ∧ RingR.mine lo hi w' [.int .i64 r.1, .int .i64 r.2.1, vc, vs] (markedR r k) ∧ Turned lo hi w w' :=
  (markRing_any lo hi vc vs r k w hk0 hk1 (ringOwn h).1 (ringOwn h).2.1 (ringOwn h).2.2 hh hc hs).mono fun _ _ ⟨e, h1, h2, h3⟩ => ⟨e, ring_mine_of h1 h2 (ringOwn h).2.2, h3⟩
end Go.Proofs.YthnimmagaocipaaGreatDoor
set_option linter.unusedVariables false
namespace Go.Proofs.YthnimmagaocipaaGreatDoor
open Go.ChangeShapes Go.WideShapes Go.ChangeAt Go.RowKit

set_option maxRecDepth 100000 in
theorem bk.under {w w' : World} {lo hi g : Nat} {t : TypeId} {cs : List Value} (h : bk w g t cs) (ht : Turned lo hi w w') (hg : g < lo ∨ hi ≤ g) : bk w' g t cs := (ht.block g h.lt (by omega)).trans h
end Go.Proofs.YthnimmagaocipaaGreatDoor
set_option linter.unusedVariables false
namespace Go.Proofs.YthnimmagaocipaaGreatDoor
open Go.ChangeShapes Go.WideShapes Go.ChangeAt Go.RowKit

set_option maxRecDepth 100000 in
theorem infoSlot : (Tryz.prog.info? 107).map (fun i => (i.zero.map (·.cells), i.size, i.bytes)) = some (some #[.string ⟨#[]⟩, .string ⟨#[]⟩, .slice none 0 0], 3, 56) := by kernel_rfl
/-- the first i elements stand, each with memory of its own behind the row's -/
def grows (w : World) (g n i : Nat) (l : List SlotD) (E : Nat → List Value) (m : Nat → Nat) : Prop :=
  filled w g 0 3 n i E ∧ (∀ j, (E j).length = 3) ∧ Steps m i ∧ g < m 0 ∧ m i ≤ w.heap.size ∧ ∀ j x, j < i → l[j]? = some x → SlotR.mine (m j) (m (j + 1)) w (E j) x
set_option maxRecDepth 100000 in
theorem grows.start {w : World} {g n : Nat} {l : List SlotD} (h : roomL w g 0 (n * 3)) (hg : g < w.heap.size) : grows w g n 0 l (fun _ => [.string ⟨#[]⟩, .string ⟨#[]⟩, .slice none 0 0]) (fun _ => w.heap.size) :=
  ⟨filled.start h, fun _ => rfl, ⟨fun j hj => absurd hj (by omega)⟩, hg, Nat.le_refl _, fun j x hj => absurd hj (by omega)⟩
set_option maxRecDepth 100000 in
theorem Steps.put {m : Nat → Nat} {i M : Nat} (h : Steps m i) (hM : m i ≤ M) : Steps (fun j => if j = i + 1 then M else m j) (i + 1) := ⟨fun j hj => by
  show (if j = i + 1 then M else m j) ≤ (if j + 1 = i + 1 then M else m (j + 1))
  by_cases e : j = i
  · subst e
    rw [if_neg (by omega), if_pos rfl]; exact hM
  · rw [if_neg (by omega), if_neg (by omega)]; exact h.up j (by omega)⟩
set_option maxRecDepth 100000 in
theorem grows.next {w w2 : World} {g n i : Nat} {l : List SlotD} {E : Nat → List Value} {m : Nat → Nat} {x : SlotD} {u : Value} (h : grows w g n i l E m) (hb : Below w.heap.size w w2) (hx : l[i]? = some x) (hin : i < n) (hg : g < w.heap.size)
    (hu : nums .u8 w.heap.size w2.heap.size w2 u x.2.2) :
    grows (setsAt w2 g (i * 3) [.string x.1, .string x.2.1, u]) g n (i + 1) l (fun j => if j = i then [.string x.1, .string x.2.1, u] else E j) (fun j => if j = i + 1 then w2.heap.size else m j) := by
  obtain ⟨h1, h2, h3, h4, h5, h6⟩ := h
  have hf : filled w2 g 0 3 n i (fun j => if j = i then [.string x.1, .string x.2.1, u] else E j) := (h1.keep (hb.block g hg)).congr fun j hj => if_neg (by omega)
  have hl : ∀ j, ((fun j => if j = i then [Value.string x.1, .string x.2.1, u] else E j) j).length = 3 := fun j => by
    simp only
    split
    · rfl
    · exact h2 j
  have hn := hf.next hin (fun j _ => hl j)
  simp only [if_true, Nat.zero_add] at hn
  have ht := setsAt_turned [.string x.1, .string x.2.1, u] w2 g (i * 3) (Turned.refl g (g + 1) w2) (Nat.le_refl _) (by omega)
  have hsz := hb.size
  have hz := ht.size
  refine ⟨hn, hl, h3.put (by omega), by show g < (if 0 = i + 1 then w2.heap.size else m 0); rw [if_neg (by omega)]; exact h4, by show (if i + 1 = i + 1 then w2.heap.size else m (i + 1)) ≤ _; rw [if_pos rfl]; exact hz, fun j y hj hy => ?_⟩
  by_cases e : j = i
  · subst e
    have hxy : y = x := Option.some.inj (hy.symm.trans hx)
    subst hxy
    show SlotR.mine (if j = j + 1 then w2.heap.size else m j) (if j + 1 = j + 1 then w2.heap.size else m (j + 1)) _ (if j = j then _ else E j) y
    rw [if_neg (by omega), if_pos rfl, if_pos rfl]
    exact ((slot_mine_of hu).turned ht (.inr (by have := h3.le (Nat.zero_le j) (Nat.le_refl _); omega)) (Nat.le_refl _)).mono (by omega) (Nat.le_refl _)
  · have hji : j < i := by omega
    show SlotR.mine (if j = i + 1 then w2.heap.size else m j) (if j + 1 = i + 1 then w2.heap.size else m (j + 1)) _ (if j = i then _ else E j) y
    rw [if_neg e, if_neg (by omega), if_neg (by omega)]
    have hm0 := h3.le (Nat.zero_le j) (by omega)
    have hm1 := h3.le (show j + 1 ≤ i by omega) (Nat.le_refl _)
    exact ((h6 j y hji hy).below hb (by omega)).turned ht (.inr (by omega)) (by omega)
set_option maxRecDepth 100000 in
theorem grows.done {w : World} {g n lo : Nat} {l : List SlotD} {E : Nat → List Value} {m : Nat → Nat} (h : grows w g n n l E m) (hn : n = l.length) (hg : lo ≤ g) : SlotsR.mine lo w.heap.size w [.slice (some ⟨g, 0, none⟩) n n] l := by
  obtain ⟨h1, h2, h3, h4, h5, h6⟩ := h
  exact rows_mine (R := SlotR) hn (Nat.le_refl _) hg h4 h3 h5 h1 fun j x hx => h6 j x (by rw [hn]; exact (List.getElem?_eq_some_iff.1 hx).1) hx
set_option maxRecDepth 100000 in
set_option maxHeartbeats 1600000 in
theorem toSlots_any (hi : Nat) (v : Value) (l : List SlotD) (w : World) (hn : l.length ≤ 1048576) (hs : ∀ x ∈ l, x.2.2.length ≤ 1048576) (h : SlotsR.rd hi w [v] l) (hhi : hi ≤ w.heap.size) :
    Calls Tryz.prog 40 #[v] w fun e w' => ∃ u, e = .returned u ∧ SlotsR.mine w.heap.size w'.heap.size w' [u] l ∧ Below w.heap.size w w' := by
  obtain ⟨A, c, rfl, hc, h⟩ := slots_rd h
  have HR := Lib.hid h
  have HS := Lib.hid hs
  clear h hs
  have hmk := make_run (P := Tryz.prog) 48 107 #[.string ⟨#[]⟩, .string ⟨#[]⟩, .slice none 0 0] 3 56 Tryz.underlying48 infoSlot l.length (by omega) (by omega)
  go_enter Tryz.func40, Tryz.ntmps40
  go_wp2
  go_loopw [4] (fun iv wr => ∃ (i : Nat) (E : Nat → List Value) (m : Nat → Nat), i ≤ l.length ∧ iv = .int .i64 i ∧ Hid (grows wr w.heap.size l.length i l E m) ∧ w.heap.size < wr.heap.size ∧ Hid (Below w.heap.size w wr)) (fun iv _ => l.length - (intOf iv).toNat)
  case atStart => exact ⟨0, _, _, Nat.zero_le _, rfl, Lib.hid (grows.start (room_made w _ _ _) (by simp)), by simp, Lib.hid ((Below.refl _ _).alloc (Nat.le_refl _) _)⟩
  case round =>
    obtain ⟨i, E, m, hi, rfl, HF, hz, HB⟩ := hrel
    by_cases hin : i < l.length
    · obtain ⟨x, hx⟩ : ∃ x, l[i]? = some x := ⟨_, List.getElem?_eq_getElem hin⟩
      obtain ⟨b, off, A', c', rfl, hbl, c0, c1, c2, hrd⟩ := HR.out i x hx
      have hxs := HS.out x (List.mem_of_getElem? hx)
      have HX := Lib.hid hx
      clear hx
      have c0 := (HB.out.cell (p := ⟨b, off + i * 3, none⟩) (show b < w.heap.size by omega)).trans c0
      have c1 := (HB.out.cell (p := ⟨b, off + i * 3 + 1, none⟩) (show b < w.heap.size by omega)).trans c1
      have c2 := (HB.out.cell (p := ⟨b, off + i * 3 + 2, none⟩) (show b < w.heap.size by omega)).trans c2
      have HRD := Lib.hid (hrd.below HB.out hhi)
      clear hrd
      have g1 : (i : Int) < (l.length : Int) := by omega
      have g2 : 0 ≤ (i : Int) := by omega
      go_wp2_with fail
      refine (toSlot_any _ _ x _ hxs HRD.out (by omega)).mono ?_
      rintro e w2 ⟨u, rfl, hu, hb2⟩
      obtain ⟨AU, cU, rfl, -⟩ := hu.form
      have HN := Lib.hid (HF.out.next hb2 HX.out hin hz hu)
      obtain ⟨⟨u0, d0⟩, f0⟩ := (HF.out.1.keep (hb2.block _ hz)).cells hin 0 (by omega)
      obtain ⟨⟨u1, d1⟩, f1⟩ := (HF.out.1.keep (hb2.block _ hz)).cells hin 1 (by omega)
      obtain ⟨⟨u2, d2⟩, f2⟩ := (HF.out.1.keep (hb2.block _ hz)).cells hin 2 (by omega)
      simp only [Nat.zero_add, Nat.add_zero] at d0 f0 d1 f1 d2 f2
      have hz2 := hb2.size
      have HB2 : Hid (Below w.heap.size w w2) := Lib.hid (HB.out.trans (hb2.mono (by omega)))
      clear hb2 hu
      go_wp2
      go_roundw
      case rel => exact ⟨i + 1, _, _, by omega, by go_num, HN, by simp; omega, Lib.hid (setsAt_below [.string x.1, .string x.2.1, .slice AU x.2.2.length cU] w2 w.heap.size (i * 3) HB2.out (Nat.le_refl _))⟩
      case measure => simp [intOf] <;> omega
    · obtain rfl : i = l.length := by omega
      go_wp2
      go_ret
      exact ⟨_, rfl, HF.out.done rfl (Nat.le_refl _), HB.out⟩
set_option maxRecDepth 100000 in
set_option maxHeartbeats 3200000 in
theorem eqSlots_any (hi1 hi2 : Nat) (va vb : Value) (l : List SlotD) (w : World) (hn : l.length ≤ 4611686018427387904) (hs : ∀ x ∈ l, x.2.2.length ≤ 4611686018427387904) (h1 : SlotsR.rd hi1 w [va] l) (h2 : SlotsR.rd hi2 w [vb] l) (hh1 : hi1 ≤ w.heap.size) (hh2 : hi2 ≤ w.heap.size) :
    Calls Tryz.prog 46 #[va, vb] w fun e w' => e = .returned (.bool true) ∧ Below w.heap.size w w' := by
  obtain ⟨A1, c1, rfl, -, h1⟩ := slots_rd h1
  obtain ⟨A2, c2, rfl, -, h2⟩ := slots_rd h2
  have H1 := Lib.hid h1
  have H2 := Lib.hid h2
  have HS := Lib.hid hs
  clear h1 h2 hs
  go_enter Tryz.func46, Tryz.ntmps46
  go_wp2
  go_loopw [5] (fun iv wr => ∃ k : Nat, k ≤ l.length ∧ iv = .int .i64 k ∧ Hid (Below w.heap.size w wr) ∧ w.heap.size ≤ wr.heap.size) (fun iv _ => l.length - (intOf iv).toNat)
  case atStart => exact ⟨0, Nat.zero_le _, rfl, Lib.hid (Below.refl _ _), Nat.le_refl _⟩
  case round =>
    obtain ⟨k, hk, rfl, HB, hz⟩ := hrel
    by_cases hlt : k < l.length
    · obtain ⟨x, hx⟩ : ∃ x, l[k]? = some x := ⟨_, List.getElem?_eq_getElem hlt⟩
      obtain ⟨b1, o1, B1, d1, rfl, hb1, x1, y1, v1, r1⟩ := H1.out k x hx
      obtain ⟨b2, o2, B2, d2, rfl, hb2, x2, y2, v2, r2⟩ := H2.out k x hx
      have hxs := HS.out x (List.mem_of_getElem? hx)
      have HE := Lib.hid (fun W (hW : Below w.heap.size w W) => eqSlot_any hi1 hi2 _ _ x W hxs (r1.below hW hh1) (r2.below hW hh2) (Nat.le_trans hh1 hW.size) (Nat.le_trans hh2 hW.size))
      clear r1 r2
      have x1 := (HB.out.cell (p := ⟨b1, _, none⟩) (show b1 < w.heap.size by omega)).trans x1
      have y1 := (HB.out.cell (p := ⟨b1, _, none⟩) (show b1 < w.heap.size by omega)).trans y1
      have v1 := (HB.out.cell (p := ⟨b1, _, none⟩) (show b1 < w.heap.size by omega)).trans v1
      have x2 := (HB.out.cell (p := ⟨b2, _, none⟩) (show b2 < w.heap.size by omega)).trans x2
      have y2 := (HB.out.cell (p := ⟨b2, _, none⟩) (show b2 < w.heap.size by omega)).trans y2
      have v2 := (HB.out.cell (p := ⟨b2, _, none⟩) (show b2 < w.heap.size by omega)).trans v2
      have g1 : (k : Int) < (l.length : Int) := by omega
      have g2 : 0 ≤ (k : Int) := by omega
      clear hx
      have hD : Below w.heap.size w wr.drew := HB.out.drew
      go_wp2
      go_region_held3 (fun w' => w'.cell? ⟨b1, o1 + k * 3, none⟩ = some (.string x.1) ∧ w'.cell? ⟨b1, o1 + k * 3 + 1, none⟩ = some (.string x.2.1) ∧ w'.cell? ⟨b1, o1 + k * 3 + 2, none⟩ = some (.slice B1 x.2.2.length d1) ∧ w'.cell? ⟨b2, o2 + k * 3, none⟩ = some (.string x.1) ∧ w'.cell? ⟨b2, o2 + k * 3 + 1, none⟩ = some (.string x.2.1) ∧ w'.cell? ⟨b2, o2 + k * 3 + 2, none⟩ = some (.slice B2 x.2.2.length d2)) (go_keep) ((go_at_call 86; refine (HE.out _ hD).mono ?_; rintro e w2 ⟨rfl, hb⟩; have q1 := (hb.cell (p := ⟨b1, o1 + k * 3, none⟩) (show b1 < wr.heap.size by omega)).trans x1; have q2 := (hb.cell (p := ⟨b1, o1 + k * 3 + 1, none⟩) (show b1 < wr.heap.size by omega)).trans y1; have q3 := (hb.cell (p := ⟨b1, o1 + k * 3 + 2, none⟩) (show b1 < wr.heap.size by omega)).trans v1; have q4 := (hb.cell (p := ⟨b2, o2 + k * 3, none⟩) (show b2 < wr.heap.size by omega)).trans x2; have q5 := (hb.cell (p := ⟨b2, o2 + k * 3 + 1, none⟩) (show b2 < wr.heap.size by omega)).trans y2; have q6 := (hb.cell (p := ⟨b2, o2 + k * 3 + 2, none⟩) (show b2 < wr.heap.size by omega)).trans v2))
      have hz2 := hb.size
      have HB2 : Hid (Below w.heap.size w w2) := Lib.hid (hD.trans (hb.mono hz))
      clear hb
      go_wp2
      go_roundw
      case rel => exact ⟨k + 1, by omega, by go_num, HB2, by have : wr.heap.size ≤ w2.heap.size := hz2; omega⟩
      case measure => simp [intOf] <;> omega
    · go_wp2
      go_ret
      exact ⟨rfl, HB.out⟩
def slotSz (x : SlotD) : Nat := x.1.size + x.2.1.size + x.2.2.length
def slotsSz (l : List SlotD) : Nat := l.length + (l.map slotSz).sum
set_option maxRecDepth 100000 in
set_option maxHeartbeats 1600000 in
theorem szSlots_any (hi : Nat) (v : Value) (l : List SlotD) (left : Int) (w : World) (hn : l.length ≤ maxLen) (hs : ∀ x ∈ l, x.1.size ≤ maxLen ∧ x.2.1.size ≤ maxLen ∧ x.2.2.length ≤ maxLen) (h : SlotsR.rd hi w [v] l) (hh : hi ≤ w.heap.size) (h0 : 0 ≤ left) (h1 : left ≤ 1048576) :
    Calls Tryz.prog 34 #[v, .int .i64 left] w (szRes left (slotsSz l) w) := by
  obtain ⟨A, c, rfl, hc, h⟩ := slots_rd h
  have HR := Lib.hid h
  have HS := Lib.hid hs
  clear h hs
  unfold maxLen at hn
  by_cases hbig : left - (l.length : Int) < 0
  · go_enter Tryz.func34, Tryz.ntmps34
    go_wp2
    go_ret
    exact ⟨_, rfl, .inl rfl, Below.refl _ _⟩
  have hge : 0 ≤ left - (l.length : Int) := by omega
  go_enter Tryz.func34, Tryz.ntmps34
  go_wp2
  go_loopw [1, 5] (fun nv iv wr => ∃ (i : Nat) (r : Int), i ≤ l.length ∧ iv = .int .i64 i ∧ nv = .int .i64 r ∧ 0 ≤ r ∧ r ≤ 1048576 ∧ Hid (r = left - (l.length : Int) - (sumTo slotSz l i : Nat)) ∧ Hid (Below w.heap.size w wr) ∧ w.heap.size ≤ wr.heap.size) (fun _ iv _ => l.length - (intOf iv).toNat)
  case atStart => exact ⟨0, _, Nat.zero_le _, rfl, rfl, by omega, by omega, Lib.hid (by simp [sumTo]), Lib.hid (Below.refl _ _), Nat.le_refl _⟩
  case round =>
    obtain ⟨i, r, hi, rfl, rfl, hr0, hr1, HV, HB, hz⟩ := hrel
    by_cases hin : i < l.length
    · obtain ⟨x, hx⟩ : ∃ x, l[i]? = some x := ⟨_, List.getElem?_eq_getElem hin⟩
      obtain ⟨b, off, A', c', rfl, hbl, c0, c1, c2, hrd⟩ := HR.out i x hx
      obtain ⟨s1, s2, s3⟩ := HS.out x (List.mem_of_getElem? hx)
      have HN := Lib.hid (sumTo_next slotSz l i x hx)
      clear hx
      have c0 := (HB.out.cell (p := ⟨b, off + i * 3, none⟩) (show b < w.heap.size by omega)).trans c0
      have c1 := (HB.out.cell (p := ⟨b, off + i * 3 + 1, none⟩) (show b < w.heap.size by omega)).trans c1
      have c2 := (HB.out.cell (p := ⟨b, off + i * 3 + 2, none⟩) (show b < w.heap.size by omega)).trans c2
      have HZ := Lib.hid (szSlot_any _ x r wr (hrd.below HB.out hh) s1 s2 s3 hr0 hr1)
      clear hrd s1 s2 s3
      have g1 : (i : Int) < (l.length : Int) := by omega
      have g2 : 0 ≤ (i : Int) := by omega
      go_wp2_with fail
      refine HZ.out.mono ?_
      rintro e w2 ⟨r2, rfl, hr2, hb2⟩
      have hz2 := hb2.size
      have HB2 : Hid (Below w.heap.size w w2) := Lib.hid (HB.out.trans (hb2.mono (by omega)))
      clear hb2
      rcases hr2 with rfl | ⟨hr2, hr3⟩
      · go_wp2
        go_ret
        exact ⟨_, rfl, .inl rfl, HB2.out⟩
      · have HR2 := Lib.hid hr2
        have hr4 : r2 ≤ 1048576 := by omega
        clear hr2
        go_wp2
        go_roundw
        case rel => exact ⟨i + 1, r2, by omega, by go_num, rfl, hr3, hr4, Lib.hid (by rw [HN.out, HR2.out, HV.out]; unfold slotSz; omega), HB2, by omega⟩
        case measure => simp [intOf] <;> omega
    · obtain rfl : i = l.length := by omega
      go_wp2
      go_ret
      exact ⟨r, rfl, .inr ⟨by rw [HV.out, sumTo_all]; unfold slotsSz; omega, hr0⟩, HB.out⟩
end Go.Proofs.YthnimmagaocipaaGreatDoor
set_option linter.unusedVariables false
namespace Go.Proofs.YthnimmagaocipaaGreatDoor
open Go.ChangeShapes Go.WideShapes Go.ChangeAt Go.RowKit

set_option maxRecDepth 100000 in
set_option maxHeartbeats 4000000 in
theorem toAcctI_any (hi : Nat) (vh vc vs vl : Value) (a : AcctD) (w : World) (hz : acctSmall 1048576 a) (h : AcctR.rd hi w (aCells a vh vc vs vl) a) (hh : hi ≤ w.heap.size) :
    Calls Tryz.prog 17 #[.agg #[.string (aId a), .int .i64 (aLim a), .int .i64 (aPos a), .int .i64 (aMost a), .int .i64 (aSum a), vh, .int .i64 (aR a).1, .int .i64 (aR a).2.1, vc, vs, vl]] w (acctOneI a w) := by
  obtain ⟨vh', vc', vs', vl', hcs, r1, r2, r3, r4⟩ := acct_rd h
  simp only [aCells, List.cons.injEq, and_true, true_and] at hcs
  obtain ⟨rfl, rfl, rfl, rfl⟩ := hcs
  clear h
  obtain ⟨z1, z2, z3, z4, z5⟩ := hz
  obtain ⟨id, lim, pos, most, sum, hs, ⟨sp, hd, cs, ss⟩, sl⟩ := a
  simp only [aId, aLim, aPos, aMost, aSum, aH, aS] at r1 r2 r3 r4 z1 z2 z3 z4 z5 ⊢
  obtain ⟨AH, cH, rfl, -⟩ := Rep.slice_form r1
  obtain ⟨AC, cC, rfl, -⟩ := r2.form
  obtain ⟨AS, cS, rfl, -⟩ := r3.form
  obtain ⟨AL, cL, rfl, -⟩ := Rep.slice_form r4
  have HT1 := Lib.hid (fun W (hW : Below w.heap.size w W) => toHolds_any hi _ hs W z1 (Rep.below (R := HoldsR) r1 hW hh) (Nat.le_trans hh hW.size))
  have HT2 := Lib.hid (fun W (hW : Below w.heap.size w W) => toRing_any hi _ _ (sp, hd, cs, ss) W (r2.below hW hh) (r3.below hW hh) (Nat.le_trans hh hW.size) z2 z3)
  have HT3 := Lib.hid (fun W (hW : Below w.heap.size w W) => toSlots_any hi _ sl W z4 z5 (Rep.below (R := SlotsR) r4 hW hh) (Nat.le_trans hh hW.size))
  clear r1 r2 r3 r4 z5
  go_enter Tryz.func17, Tryz.ntmps17
  go_wp2_with fail
  obtain ⟨W, hW⟩ : ∃ W, W = ((w.alloc (.cells #[.string id, .int .i64 lim, .int .i64 pos, .int .i64 most, .int .i64 sum, .slice AH hs.length cH, .int .i64 sp, .int .i64 hd, .slice AC cs.length cC, .slice AS ss.length cS, .slice AL sl.length cL] 42)).alloc (.cells #[.string ⟨#[]⟩, .int .i64 0, .int .i64 0, .int .i64 0, .int .i64 0, .slice none 0 0, .int .i64 0, .int .i64 0, .slice none 0 0, .slice none 0 0, .slice none 0 0] 50)).alloc (.cells #[.string id, .int .i64 lim, .int .i64 pos, .int .i64 most, .int .i64 sum, .slice none 0 0, .int .i64 0, .int .i64 0, .slice none 0 0, .slice none 0 0, .slice none 0 0] 50) := ⟨_, rfl⟩
  have b0 : bk W w.heap.size 42 [.string id, .int .i64 lim, .int .i64 pos, .int .i64 most, .int .i64 sum, .slice AH hs.length cH, .int .i64 sp, .int .i64 hd, .slice AC cs.length cC, .slice AS ss.length cS, .slice AL sl.length cL] := by rw [hW]; exact ((bk.new w _ _).alloc _).alloc _
  have b1 : bk W (w.heap.size + 1) 50 [.string ⟨#[]⟩, .int .i64 0, .int .i64 0, .int .i64 0, .int .i64 0, .slice none 0 0, .int .i64 0, .int .i64 0, .slice none 0 0, .slice none 0 0, .slice none 0 0] := by rw [hW]; simpa using (bk.new (w.alloc _) 50 [.string ⟨#[]⟩, .int .i64 0, .int .i64 0, .int .i64 0, .int .i64 0, .slice none 0 0, .int .i64 0, .int .i64 0, .slice none 0 0, .slice none 0 0, .slice none 0 0]).alloc _
  have b2 : bk W (w.heap.size + 1 + 1) 50 [.string id, .int .i64 lim, .int .i64 pos, .int .i64 most, .int .i64 sum, .slice none 0 0, .int .i64 0, .int .i64 0, .slice none 0 0, .slice none 0 0, .slice none 0 0] := by rw [hW]; simpa using bk.new ((w.alloc _).alloc _) 50 [.string id, .int .i64 lim, .int .i64 pos, .int .i64 most, .int .i64 sum, .slice none 0 0, .int .i64 0, .int .i64 0, .slice none 0 0, .slice none 0 0, .slice none 0 0]
  have HB0 : Hid (Below w.heap.size w W) := Lib.hid (by rw [hW]; exact (((Below.refl _ _).alloc (Nat.le_refl _) _).alloc (by simp) _).alloc (by simp <;> omega) _)
  have y0 : W.heap.size = w.heap.size + 3 := by rw [hW]; simp
  rw [← hW]
  clear hW
  refine (HT1.out W HB0.out).mono ?_
  rintro e w1 ⟨u1, rfl, hu1, hb1⟩
  obtain ⟨A1, c1, rfl, -⟩ := Rep.slice_form hu1.rd
  have y1 := hb1.size
  have HU1 := Lib.hid hu1
  have HB1 : Hid (Below w.heap.size w w1) := Lib.hid (HB0.out.trans (hb1.mono (by omega)))
  replace b0 := b0.below hb1 (by omega)
  replace b1 := b1.below hb1 (by omega)
  replace b2 := b2.below hb1 (by omega)
  clear hu1 hb1 HB0 HT1
  obtain ⟨⟨p0, p1, p2, p3, p4, p5, p6, p7, p8, p9, p10⟩, -⟩ := b0.eleven
  obtain ⟨⟨q0, q1, q2, q3, q4, q5, q6, q7, q8, q9, q10⟩, f0, f1, f2, f3, f4, f5, f6, f7, f8, f9, f10⟩ := b2.eleven
  have B0 := Lib.hid b0
  have B1 := Lib.hid b1
  have B2 := Lib.hid b2
  clear b0 b1 b2
  go_wp2_with fail
  obtain ⟨W2, hW2⟩ : ∃ W2, W2 = w1.setCell ⟨w.heap.size + 1 + 1, 5, none⟩ (.slice A1 hs.length c1) := ⟨_, rfl⟩
  have ht2 := (Turned.refl (w.heap.size + 1) (w.heap.size + 3) w1).set (b := w.heap.size + 1 + 1) 5 (.slice A1 hs.length c1) (by omega) (by omega)
  have b2 : bk (w1.setCell ⟨w.heap.size + 1 + 1, 5, none⟩ (.slice A1 hs.length c1)) (w.heap.size + 1 + 1) 50 [.string id, .int .i64 lim, .int .i64 pos, .int .i64 most, .int .i64 sum, .slice A1 hs.length c1, .int .i64 0, .int .i64 0, .slice none 0 0, .slice none 0 0, .slice none 0 0] := B2.out.set 5 (.slice A1 hs.length c1)
  have b0 := B0.out.under ht2 (.inl (by omega))
  have b1 := B1.out.far (p := ⟨w.heap.size + 1 + 1, 5, none⟩) (show w.heap.size + 1 ≠ w.heap.size + 1 + 1 by omega) (.slice A1 hs.length c1)
  rw [← hW2] at ht2 b0 b1 b2 ⊢
  clear hW2 B0 B1 B2 p0 p1 p2 p3 p4 p5 p6 p7 p8 p9 p10 q0 q1 q2 q3 q4 q5 q6 q7 q8 q9 q10 f0 f1 f2 f3 f4 f5 f6 f7 f8 f9 f10
  have y2 := ht2.size
  have HU2 := Lib.hid (HU1.out.turned ht2 (.inr (by omega)) (Nat.le_refl _))
  have HB2 := Lib.hid (HB1.out.trans (ht2.below (B := w.heap.size) (by omega) (by omega)))
  clear ht2 HU1 HB1
  refine (HT2.out W2 HB2.out).mono ?_
  rintro e w3 ⟨v3, v4, rfl, hu3, hb3⟩
  obtain ⟨A3, c3, rfl, -⟩ := (ring2 hu3.rd).1.form
  obtain ⟨A4, c4, rfl, -⟩ := (ring2 hu3.rd).2.form
  have y3 := hb3.size
  have HU3 := Lib.hid (HU2.out.below hb3 (by omega))
  have HV3 := Lib.hid hu3
  have HB3 : Hid (Below w.heap.size w w3) := Lib.hid (HB2.out.trans (hb3.mono (by omega)))
  replace b0 := b0.below hb3 (by omega)
  replace b1 := b1.below hb3 (by omega)
  replace b2 := b2.below hb3 (by omega)
  clear hu3 hb3 HU2 HB2 HT2
  obtain ⟨⟨p0, p1, p2, p3, p4, p5, p6, p7, p8, p9, p10⟩, -⟩ := b0.eleven
  obtain ⟨⟨q0, q1, q2, q3, q4, q5, q6, q7, q8, q9, q10⟩, f0, f1, f2, f3, f4, f5, f6, f7, f8, f9, f10⟩ := b2.eleven
  have B0 := Lib.hid b0
  have B1 := Lib.hid b1
  have B2 := Lib.hid b2
  clear b0 b1 b2
  go_wp2_with fail
  obtain ⟨W4, hW4⟩ : ∃ W4, W4 = (((w3.setCell ⟨w.heap.size + 1 + 1, 6, none⟩ (.int .i64 sp)).setCell ⟨w.heap.size + 1 + 1, 7, none⟩ (.int .i64 hd)).setCell ⟨w.heap.size + 1 + 1, 8, none⟩ (.slice A3 cs.length c3)).setCell ⟨w.heap.size + 1 + 1, 9, none⟩ (.slice A4 ss.length c4) := ⟨_, rfl⟩
  have ht4 := ((((Turned.refl (w.heap.size + 1 + 1) (w.heap.size + 3) w3).set (b := w.heap.size + 1 + 1) 6 (.int .i64 sp) (by omega) (by omega)).set (b := w.heap.size + 1 + 1) 7 (.int .i64 hd) (by omega) (by omega)).set (b := w.heap.size + 1 + 1) 8 (.slice A3 cs.length c3) (by omega) (by omega)).set (b := w.heap.size + 1 + 1) 9 (.slice A4 ss.length c4) (by omega) (by omega)
  have b2 : bk ((((w3.setCell ⟨w.heap.size + 1 + 1, 6, none⟩ (.int .i64 sp)).setCell ⟨w.heap.size + 1 + 1, 7, none⟩ (.int .i64 hd)).setCell ⟨w.heap.size + 1 + 1, 8, none⟩ (.slice A3 cs.length c3)).setCell ⟨w.heap.size + 1 + 1, 9, none⟩ (.slice A4 ss.length c4)) (w.heap.size + 1 + 1) 50 [.string id, .int .i64 lim, .int .i64 pos, .int .i64 most, .int .i64 sum, .slice A1 hs.length c1, .int .i64 sp, .int .i64 hd, .slice A3 cs.length c3, .slice A4 ss.length c4, .slice none 0 0] := (((B2.out.set 6 (.int .i64 sp)).set 7 (.int .i64 hd)).set 8 (.slice A3 cs.length c3)).set 9 (.slice A4 ss.length c4)
  have b0 := B0.out.under ht4 (.inl (by omega))
  have b1 := B1.out.under ht4 (.inl (by omega))
  rw [← hW4] at ht4 b0 b1 b2 ⊢
  clear hW4 B0 B1 B2 p0 p1 p2 p3 p4 p5 p6 p7 p8 p9 p10 q0 q1 q2 q3 q4 q5 q6 q7 q8 q9 q10 f0 f1 f2 f3 f4 f5 f6 f7 f8 f9 f10
  have y4 := ht4.size
  have HU4 := Lib.hid (HU3.out.turned ht4 (.inr (by omega)) (by omega))
  have HV4 := Lib.hid (HV3.out.turned ht4 (.inr (by omega)) (Nat.le_refl _))
  have HB4 := Lib.hid (HB3.out.trans (ht4.below (B := w.heap.size) (by omega) (by omega)))
  clear ht4 HU3 HV3 HB3
  refine (HT3.out W4 HB4.out).mono ?_
  rintro e w5 ⟨u6, rfl, hu5, hb5⟩
  obtain ⟨A6, c6, rfl, -⟩ := Rep.slice_form hu5.rd
  have y5 := hb5.size
  have HU5 := Lib.hid (HU4.out.below hb5 (by omega))
  have HV5 := Lib.hid (HV4.out.below hb5 (by omega))
  have HS5 := Lib.hid hu5
  have HB5 : Hid (Below w.heap.size w w5) := Lib.hid (HB4.out.trans (hb5.mono (by omega)))
  replace b1 := b1.below hb5 (by omega)
  replace b2 := b2.below hb5 (by omega)
  clear hu5 hb5 HU4 HV4 HB4 HT3 b0
  obtain ⟨⟨q0, q1, q2, q3, q4, q5, q6, q7, q8, q9, q10⟩, f0, f1, f2, f3, f4, f5, f6, f7, f8, f9, f10⟩ := b2.eleven
  obtain ⟨⟨r0, r1, r2, r3, r4, r5, r6, r7, r8, r9, r10⟩, g0, g1, g2, g3, g4, g5, g6, g7, g8, g9, g10⟩ := b1.eleven
  clear b1 b2
  go_wp2
  refine bodyPost_ret (v := .agg #[.string id, .int .i64 lim, .int .i64 pos, .int .i64 most, .int .i64 sum, .slice A1 hs.length c1, .int .i64 sp, .int .i64 hd, .slice A3 cs.length c3, .slice A4 ss.length c4, .slice A6 sl.length c6]) (by simp [results, Tryz.results17, go_sem, r0, r1, r2, r3, r4, r5, r6, r7, r8, r9, r10]) rfl ?_
  have ht := ((((((((((((Turned.refl (w.heap.size + 1) (w.heap.size + 3) w5).set (b := w.heap.size + 1 + 1) 10 (.slice A6 sl.length c6) (by omega) (by omega)).set (b := w.heap.size + 1) 0 (.string id) (by omega) (by omega)).set (b := w.heap.size + 1) 1 (.int .i64 lim) (by omega) (by omega)).set (b := w.heap.size + 1) 2 (.int .i64 pos) (by omega) (by omega)).set (b := w.heap.size + 1) 3 (.int .i64 most) (by omega) (by omega)).set (b := w.heap.size + 1) 4 (.int .i64 sum) (by omega) (by omega)).set (b := w.heap.size + 1) 5 (.slice A1 hs.length c1) (by omega) (by omega)).set (b := w.heap.size + 1) 6 (.int .i64 sp) (by omega) (by omega)).set (b := w.heap.size + 1) 7 (.int .i64 hd) (by omega) (by omega)).set (b := w.heap.size + 1) 8 (.slice A3 cs.length c3) (by omega) (by omega)).set (b := w.heap.size + 1) 9 (.slice A4 ss.length c4) (by omega) (by omega)).set (b := w.heap.size + 1) 10 (.slice A6 sl.length c6) (by omega) (by omega)
  have hsz := ht.size
  exact ⟨_, _, _, _, rfl, acctI_ivl (p1 := W2.heap.size) (p2 := W4.heap.size) ((HU5.out.turned ht (.inr (by omega)) (by omega)).mono (by omega) (by omega)) ((HV5.out.turned ht (.inr (by omega)) (by omega)).mono (by omega) (by omega)) ((HS5.out.turned ht (.inr (by omega)) (by omega)).mono (by omega) (by omega)) (by omega) (by omega) (by omega), HB5.out.trans (ht.below (by omega) (by omega))⟩
set_option maxRecDepth 100000 in
theorem toAcct_any (hi : Nat) (vh vc vs vl : Value) (a : AcctD) (w : World) (hz : acctSmall 1048576 a) (h : AcctR.rd hi w (aCells a vh vc vs vl) a) (hh : hi ≤ w.heap.size) :
    Calls Tryz.prog 17 #[.agg #[.string (aId a), .int .i64 (aLim a), .int .i64 (aPos a), .int .i64 (aMost a), .int .i64 (aSum a), vh, .int .i64 (aR a).1, .int .i64 (aR a).2.1, vc, vs, vl]] w (acctOne a w) :=
  (toAcctI_any hi vh vc vs vl a w hz h hh).mono fun _ _ h => h.one
end Go.Proofs.YthnimmagaocipaaGreatDoor
set_option linter.unusedVariables false
namespace Go.Proofs.YthnimmagaocipaaGreatDoor
open Go.ChangeShapes Go.WideShapes Go.ChangeAt Go.RowKit

set_option maxRecDepth 100000 in
set_option maxHeartbeats 4000000 in
theorem eqAcct_any (hi1 hi2 : Nat) (vh vc vs vl vh' vc' vs' vl' : Value) (a : AcctD) (w : World) (hz : acctSmall 1048576 a) (h1 : AcctR.rd hi1 w (aCells a vh vc vs vl) a) (h2 : AcctR.rd hi2 w (aCells a vh' vc' vs' vl') a) (hh1 : hi1 ≤ w.heap.size) (hh2 : hi2 ≤ w.heap.size) :
    Calls Tryz.prog 19 #[.agg #[.string (aId a), .int .i64 (aLim a), .int .i64 (aPos a), .int .i64 (aMost a), .int .i64 (aSum a), vh, .int .i64 (aR a).1, .int .i64 (aR a).2.1, vc, vs, vl], .agg #[.string (aId a), .int .i64 (aLim a), .int .i64 (aPos a), .int .i64 (aMost a), .int .i64 (aSum a), vh', .int .i64 (aR a).1, .int .i64 (aR a).2.1, vc', vs', vl']] w fun e w' => e = .returned (.bool true) ∧ Below w.heap.size w w' := by
  obtain ⟨vh0, vc0, vs0, vl0, hcs, r1, r2, r3, r4⟩ := acct_rd h1
  simp only [aCells, List.cons.injEq, and_true, true_and] at hcs
  obtain ⟨rfl, rfl, rfl, rfl⟩ := hcs
  clear h1
  obtain ⟨vh0, vc0, vs0, vl0, hcs, r1b, r2b, r3b, r4b⟩ := acct_rd h2
  simp only [aCells, List.cons.injEq, and_true, true_and] at hcs
  obtain ⟨rfl, rfl, rfl, rfl⟩ := hcs
  clear h2
  obtain ⟨z1, z2, z3, z4, z5⟩ := hz
  obtain ⟨id, lim, pos, most, sum, hs, ⟨sp, hd, cs, ss⟩, sl⟩ := a
  simp only [aId, aLim, aPos, aMost, aSum, aH, aS] at r1 r2 r3 r4 r1b r2b r3b r4b z1 z2 z3 z4 z5 ⊢
  obtain ⟨AH, cH, rfl, -⟩ := Rep.slice_form r1
  obtain ⟨AC, cC, rfl, -⟩ := r2.form
  obtain ⟨AS, cS, rfl, -⟩ := r3.form
  obtain ⟨AL, cL, rfl, -⟩ := Rep.slice_form r4
  obtain ⟨AH', cH', rfl, -⟩ := Rep.slice_form r1b
  obtain ⟨AC', cC', rfl, -⟩ := r2b.form
  obtain ⟨AS', cS', rfl, -⟩ := r3b.form
  obtain ⟨AL', cL', rfl, -⟩ := Rep.slice_form r4b
  have HQ1 := Lib.hid (fun W (hW : Below w.heap.size w W) => eqHolds_any hi1 hi2 _ _ hs W (by omega) (Rep.below (R := HoldsR) r1 hW hh1) (Rep.below (R := HoldsR) r1b hW hh2) (Nat.le_trans hh1 hW.size) (Nat.le_trans hh2 hW.size))
  have HQ2 := Lib.hid (fun W (hW : Below w.heap.size w W) => eqRing_any hi1 hi2 _ _ _ _ (sp, hd, cs, ss) W (r2.below hW hh1) (r3.below hW hh1) (r2b.below hW hh2) (r3b.below hW hh2) (Nat.le_trans hh1 hW.size) (Nat.le_trans hh2 hW.size) z2 z3)
  have HQ3 := Lib.hid (fun W (hW : Below w.heap.size w W) => eqSlots_any hi1 hi2 _ _ sl W (by omega) (fun x hx => Nat.le_trans (z5 x hx) (by omega)) (Rep.below (R := SlotsR) r4 hW hh1) (Rep.below (R := SlotsR) r4b hW hh2) (Nat.le_trans hh1 hW.size) (Nat.le_trans hh2 hW.size))
  clear r1 r2 r3 r4 r1b r2b r3b r4b z5
  have HB0 : Hid (∀ o1 o2, Below w.heap.size w ((w.alloc o1).alloc o2)) := Lib.hid fun o1 o2 => ((Below.refl _ _).alloc (Nat.le_refl _) _).alloc (by simp) _
  go_enter Tryz.func19, Tryz.ntmps19
  go_upto_region 1 with fail
  obtain ⟨W, hW⟩ : ∃ W, W = (w.alloc (.cells #[.string id, .int .i64 lim, .int .i64 pos, .int .i64 most, .int .i64 sum, .slice AH hs.length cH, .int .i64 sp, .int .i64 hd, .slice AC cs.length cC, .slice AS ss.length cS, .slice AL sl.length cL] 50)).alloc (.cells #[.string id, .int .i64 lim, .int .i64 pos, .int .i64 most, .int .i64 sum, .slice AH' hs.length cH', .int .i64 sp, .int .i64 hd, .slice AC' cs.length cC', .slice AS' ss.length cS', .slice AL' sl.length cL'] 50) := ⟨_, rfl⟩
  have b0 : bk W w.heap.size 50 [.string id, .int .i64 lim, .int .i64 pos, .int .i64 most, .int .i64 sum, .slice AH hs.length cH, .int .i64 sp, .int .i64 hd, .slice AC cs.length cC, .slice AS ss.length cS, .slice AL sl.length cL] := by rw [hW]; exact (bk.new w _ _).alloc _
  have b1 : bk W (w.heap.size + 1) 50 [.string id, .int .i64 lim, .int .i64 pos, .int .i64 most, .int .i64 sum, .slice AH' hs.length cH', .int .i64 sp, .int .i64 hd, .slice AC' cs.length cC', .slice AS' ss.length cS', .slice AL' sl.length cL'] := by rw [hW]; simpa using bk.new (w.alloc _) 50 [.string id, .int .i64 lim, .int .i64 pos, .int .i64 most, .int .i64 sum, .slice AH' hs.length cH', .int .i64 sp, .int .i64 hd, .slice AC' cs.length cC', .slice AS' ss.length cS', .slice AL' sl.length cL']
  have HBW : Hid (Below w.heap.size w W) := Lib.hid (by rw [hW]; exact HB0.out _ _)
  have y0 : w.heap.size + 2 ≤ W.heap.size := by rw [hW]; simp
  rw [← hW]
  clear hW HB0
  obtain ⟨⟨p0, p1, p2, p3, p4, p5, p6, p7, p8, p9, p10⟩, -⟩ := b0.eleven
  obtain ⟨⟨q0, q1, q2, q3, q4, q5, q6, q7, q8, q9, q10⟩, -⟩ := b1.eleven
  have B0 := Lib.hid b0
  have B1 := Lib.hid b1
  clear b0 b1
  go_wp2_with fail
  refine (HQ1.out W HBW.out).mono ?_
  rintro e w1 ⟨rfl, hb1⟩
  have y1 := hb1.size
  have HB1 : Hid (Below w.heap.size w w1) := Lib.hid (HBW.out.trans (hb1.mono (by omega)))
  have C0 := Lib.hid (B0.out.below hb1 (by omega))
  have C1 := Lib.hid (B1.out.below hb1 (by omega))
  clear hb1 HQ1 HBW B0 B1 p0 p1 p2 p3 p4 p5 p6 p7 p8 p9 p10 q0 q1 q2 q3 q4 q5 q6 q7 q8 q9 q10
  obtain ⟨⟨p0, p1, p2, p3, p4, p5, p6, p7, p8, p9, p10⟩, -⟩ := C0.out.eleven
  obtain ⟨⟨q0, q1, q2, q3, q4, q5, q6, q7, q8, q9, q10⟩, -⟩ := C1.out.eleven
  go_wp2_with fail
  refine (HQ2.out w1 HB1.out).mono ?_
  rintro e w2 ⟨rfl, hb2⟩
  have y2 := hb2.size
  have HB2 : Hid (Below w.heap.size w w2) := Lib.hid (HB1.out.trans (hb2.mono (by omega)))
  have D0 := Lib.hid (C0.out.below hb2 (by omega))
  have D1 := Lib.hid (C1.out.below hb2 (by omega))
  clear hb2 HQ2 HB1 C0 C1 p0 p1 p2 p3 p4 p5 p6 p7 p8 p9 p10 q0 q1 q2 q3 q4 q5 q6 q7 q8 q9 q10
  obtain ⟨⟨p0, p1, p2, p3, p4, p5, p6, p7, p8, p9, p10⟩, -⟩ := D0.out.eleven
  obtain ⟨⟨q0, q1, q2, q3, q4, q5, q6, q7, q8, q9, q10⟩, -⟩ := D1.out.eleven
  go_wp2_with fail
  refine (HQ3.out w2 HB2.out).mono ?_
  rintro e w3 ⟨rfl, hb3⟩
  have HB3 : Hid (Below w.heap.size w w3) := Lib.hid (HB2.out.trans (hb3.mono (by omega)))
  clear hb3
  go_wp2
  go_ret
  exact ⟨rfl, HB3.out⟩
def acctSz (a : AcctD) : Nat := (aId a).size + holdsSz (aH a) + ((aR a).2.2.1.length + (aR a).2.2.2.length) + slotsSz (aS a)
/-- what an account that is given may be -/
structure acctBig (a : AcctD) : Prop where
  i : (aId a).size ≤ maxLen
  h : (aH a).length ≤ maxLen
  hi : ∀ x ∈ aH a, x.1.size ≤ maxLen
  c : (aR a).2.2.1.length ≤ maxLen
  s : (aR a).2.2.2.length ≤ maxLen
  l : (aS a).length ≤ maxLen
  li : ∀ x ∈ aS a, x.1.size ≤ maxLen ∧ x.2.1.size ≤ maxLen ∧ x.2.2.length ≤ maxLen
set_option maxRecDepth 100000 in
set_option maxHeartbeats 4000000 in
theorem szAcct_any (hi : Nat) (vh vc vs vl : Value) (a : AcctD) (left : Int) (w : World) (hz : acctBig a) (h : AcctR.rd hi w (aCells a vh vc vs vl) a) (hh : hi ≤ w.heap.size) (l0 : 0 ≤ left) (l1 : left ≤ 1048576) :
    Calls Tryz.prog 15 #[.agg #[.string (aId a), .int .i64 (aLim a), .int .i64 (aPos a), .int .i64 (aMost a), .int .i64 (aSum a), vh, .int .i64 (aR a).1, .int .i64 (aR a).2.1, vc, vs, vl], .int .i64 left] w (szRes left (acctSz a) w) := by
  obtain ⟨vh0, vc0, vs0, vl0, hcs, r1, r2, r3, r4⟩ := acct_rd h
  simp only [aCells, List.cons.injEq, and_true, true_and] at hcs
  obtain ⟨rfl, rfl, rfl, rfl⟩ := hcs
  clear h
  obtain ⟨z0, z1, z1', z2, z3, z4, z5⟩ := hz
  obtain ⟨id, lim, pos, most, sum, hs, ⟨sp, hd, cs, ss⟩, sl⟩ := a
  simp only [aId, aLim, aPos, aMost, aSum, aH, aS] at r1 r2 r3 r4 z0 z1 z1' z2 z3 z4 z5 ⊢
  obtain ⟨AH, cH, rfl, -⟩ := Rep.slice_form r1
  obtain ⟨AC, cC, rfl, -⟩ := r2.form
  obtain ⟨AS, cS, rfl, -⟩ := r3.form
  obtain ⟨AL, cL, rfl, -⟩ := Rep.slice_form r4
  have HZ : Hid (((acctSz (id, lim, pos, most, sum, hs, (sp, hd, cs, ss), sl) : Nat) : Int) = (id.size : Int) + (holdsSz hs : Int) + ringSz (sp, hd, cs, ss) + (slotsSz sl : Int)) := Lib.hid (by unfold acctSz ringSz; simp only [aId, aH, aS]; omega)
  have hrs : 0 ≤ ringSz (sp, hd, cs, ss) := by unfold ringSz; omega
  have HQ1 := Lib.hid (fun L W (hW : Below w.heap.size w W) (a0 : 0 ≤ L) (a1 : L ≤ 1048576) => szHolds_any hi _ hs L W z1 z1' (Rep.below (R := HoldsR) r1 hW hh) (Nat.le_trans hh hW.size) a0 a1)
  have HQ2 := Lib.hid (fun L W (hW : Below w.heap.size w W) (a0 : 0 ≤ L) (a1 : L ≤ 1048576) => szRing_any _ _ (sp, hd, cs, ss) L W (r2.below hW hh) (r3.below hW hh) z2 z3 a0 a1)
  have HQ3 := Lib.hid (fun L W (hW : Below w.heap.size w W) (a0 : 0 ≤ L) (a1 : L ≤ 1048576) => szSlots_any hi _ sl L W z4 z5 (Rep.below (R := SlotsR) r4 hW hh) (Nat.le_trans hh hW.size) a0 a1)
  clear r1 r2 r3 r4 z1 z1' z2 z3 z4 z5
  unfold maxLen at z0
  go_enter Tryz.func15, Tryz.ntmps15
  go_upto_region 1 with fail
  obtain ⟨W, hW⟩ : ∃ W, W = w.alloc (.cells #[.string id, .int .i64 lim, .int .i64 pos, .int .i64 most, .int .i64 sum, .slice AH hs.length cH, .int .i64 sp, .int .i64 hd, .slice AC cs.length cC, .slice AS ss.length cS, .slice AL sl.length cL] 42) := ⟨_, rfl⟩
  have b0 : bk W w.heap.size 42 [.string id, .int .i64 lim, .int .i64 pos, .int .i64 most, .int .i64 sum, .slice AH hs.length cH, .int .i64 sp, .int .i64 hd, .slice AC cs.length cC, .slice AS ss.length cS, .slice AL sl.length cL] := by rw [hW]; exact bk.new w _ _
  have HBW : Hid (Below w.heap.size w W) := Lib.hid (by rw [hW]; exact (Below.refl _ _).alloc (Nat.le_refl _) _)
  have y0 : w.heap.size + 1 ≤ W.heap.size := by rw [hW]; simp
  rw [← hW]
  clear hW
  obtain ⟨⟨p0, p1, p2, p3, p4, p5, p6, p7, p8, p9, p10⟩, -⟩ := b0.eleven
  have B0 := Lib.hid b0
  clear b0
  by_cases n0 : left - (id.size : Int) < 0
  · go_wp2
    go_ret
    exact ⟨_, rfl, .inl rfl, HBW.out⟩
  go_wp2_with fail
  refine (HQ1.out _ W HBW.out (by omega) (by omega)).mono ?_
  rintro e w1 ⟨q1, rfl, hq1, hb1⟩
  have y1 := hb1.size
  have HB1 : Hid (Below w.heap.size w w1) := Lib.hid (HBW.out.trans (hb1.mono (by omega)))
  have C0 := Lib.hid (B0.out.below hb1 (by omega))
  clear hb1 HQ1 HBW B0 p0 p1 p2 p3 p4 p5 p6 p7 p8 p9 p10
  rcases hq1 with rfl | ⟨hq1, hp1⟩
  · go_wp2
    go_ret
    exact ⟨_, rfl, .inl rfl, HB1.out⟩
  have hr1 : q1 ≤ 1048576 := by omega
  have HE1 := Lib.hid hq1
  clear hq1
  obtain ⟨⟨p0, p1, p2, p3, p4, p5, p6, p7, p8, p9, p10⟩, -⟩ := C0.out.eleven
  go_wp2_with fail
  refine (HQ2.out _ w1 HB1.out (by omega) (by omega)).mono ?_
  rintro e w2 ⟨q2, rfl, hq2, hb2⟩
  have y2 := hb2.size
  have HB2 : Hid (Below w.heap.size w w2) := Lib.hid (HB1.out.trans (hb2.mono (by omega)))
  have D0 := Lib.hid (C0.out.below hb2 (by omega))
  clear hb2 HQ2 HB1 C0 p0 p1 p2 p3 p4 p5 p6 p7 p8 p9 p10
  rcases hq2 with rfl | ⟨hq2, hp2⟩
  · go_wp2
    go_ret
    exact ⟨_, rfl, .inl rfl, HB2.out⟩
  have hr2 : q2 ≤ 1048576 := by omega
  have HE2 := Lib.hid hq2
  clear hq2
  obtain ⟨⟨p0, p1, p2, p3, p4, p5, p6, p7, p8, p9, p10⟩, -⟩ := D0.out.eleven
  go_wp2_with fail
  refine (HQ3.out _ w2 HB2.out (by omega) (by omega)).mono ?_
  rintro e w3 ⟨q3, rfl, hq3, hb3⟩
  have HB3 : Hid (Below w.heap.size w w3) := Lib.hid (HB2.out.trans (hb3.mono (by omega)))
  clear hb3
  rcases hq3 with rfl | ⟨hq3, hp3⟩
  · go_wp2
    go_ret
    exact ⟨_, rfl, .inl rfl, HB3.out⟩
  have HE3 := Lib.hid hq3
  clear hq3
  go_wp2
  go_ret
  exact ⟨_, rfl, .inr ⟨by rw [HE3.out, HE2.out, HE1.out, HZ.out]; omega, hp3⟩, HB3.out⟩
end Go.Proofs.YthnimmagaocipaaGreatDoor
set_option linter.unusedVariables false
namespace Go.Proofs.YthnimmagaocipaaGreatDoor
open Go.ChangeShapes Go.WideShapes Go.ChangeAt Go.RowKit Go.Deep

set_option maxRecDepth 100000 in
theorem open_acct {H : Type} {enc : TypeId × Value → H} {W : World} {base : Nat} {v : Value} {d : DataW H} {p : List MemPlace} (hval : Value.okWide Tryz.prog W .any base 42 v) (h : DataW.Trod enc Tryz.prog W 0 (fun _ => true) true 42 v d p) :
    ∃ (a : AcctD) (vh vc vs vl : Value), v = .agg #[.string (aId a), .int .i64 (aLim a), .int .i64 (aPos a), .int .i64 (aMost a), .int .i64 (aSum a), vh, .int .i64 (aR a).1, .int .i64 (aR a).2.1, vc, vs, vl] ∧ AcctR.rd W.heap.size W (aCells a vh vc vs vl) a ∧ acctBig a := by
  obtain ⟨cs, rfl, hsz⟩ := okWide_struct Tryz.underlying42 hval
  obtain ⟨fuel, hf⟩ := h
  have hL := opens_slice (by decide) Tryz.underlying36 (by kernel_rfl) (opens_hold (enc := enc) (W := W))
  have hS := opens_slice (by decide) Tryz.underlying40 (by kernel_rfl) (opens_slot (enc := enc) (W := W))
  have hI0 : Opens enc Tryz.prog W (Rep.int .i64) 3 _ := opens_int Tryz.underlying3
  have hI : Opens enc Tryz.prog W IntsR 37 _ := opens_slice (by decide) Tryz.underlying37 (by kernel_rfl) hI0
  have hR : Opens enc Tryz.prog W RingR 39 _ := opens_struct Tryz.underlying39 (by kernel_rfl) (opensF_cons hI0 rfl (by kernel_rfl) (opensF_cons hI0 rfl (by kernel_rfl) (opensF_cons hI rfl (by kernel_rfl) (opensF_one hI rfl (by kernel_rfl)))))
  have hA : Opens enc Tryz.prog W AcctR 42 _ := opens_struct Tryz.underlying42 (by kernel_rfl) (opensF_cons (opens_str Tryz.underlying9) rfl (by kernel_rfl) (opensF_cons (opens_int Tryz.underlying3) rfl (by kernel_rfl) (opensF_cons (opens_int Tryz.underlying3) rfl (by kernel_rfl) (opensF_cons (opens_int Tryz.underlying3) rfl (by kernel_rfl) (opensF_cons (opens_int Tryz.underlying3) rfl (by kernel_rfl) (opensF_cons hL rfl (by kernel_rfl) (opensF_cons hR rfl (by kernel_rfl) (opensF_one hS rfl (by kernel_rfl)))))))))
  obtain ⟨a, hr, h1, h2, h3, h4, h5, ⟨h6, h7⟩, ⟨h8, h9, ⟨h10, h11⟩, h12, h13⟩, h14, h15⟩ := hA fuel _ _ hf
  obtain ⟨vh, vc, vs, vl, hcs, q1, q2, q3, q4⟩ := acct_rd hr
  refine ⟨a, vh, vc, vs, vl, ?_, ?_, ⟨h1, h6, fun x hx => (h7 x hx).1, h10, h12, h14, fun x hx => ⟨(h15 x hx).1, (h15 x hx).2.1, (h15 x hx).2.2.1⟩⟩⟩
  · have hcs' : cs.toList = aCells a vh vc vs vl := hcs
    have : cs = (aCells a vh vc vs vl).toArray := by rw [← hcs']
    rw [this]; rfl
  · exact acct_rd_of q1 q2 q3 q4
end Go.Proofs.YthnimmagaocipaaGreatDoor
set_option linter.unusedVariables false
namespace Go.Proofs.YthnimmagaocipaaGreatDoor
open Go.ChangeShapes Go.WideShapes Go.ChangeAt Go.RowKit

/-- a layout's memory within an interval, in a form of one's own -/
structure Ivl {α : Type} (R : Rep α) where
  I : Nat → Nat → World → List Value → α → Prop
  keep : ∀ {lo hi w w' cs x}, I lo hi w cs x → (∀ b, lo ≤ b → b < hi → w'.heap[b]? = w.heap[b]?) → I lo hi w' cs x
  mono : ∀ {lo hi lo' hi' w cs x}, I lo hi w cs x → lo' ≤ lo → hi ≤ hi' → I lo' hi' w cs x
  mine : ∀ {lo hi w cs x}, I lo hi w cs x → R.mine lo hi w cs x
/-- only the cells from o up to o + k of block b, and blocks from P up to Q, have turned; new blocks have come -/
structure Edit (b o k P Q : Nat) (w w' : World) : Prop where
  os : w'.os = w.os
  tape : w'.tape = w.tape
  output : w'.output = w.output
  size : w.heap.size ≤ w'.heap.size
  block : ∀ c, c < w.heap.size → c ≠ b → (c < P ∨ Q ≤ c) → w'.heap[c]? = w.heap[c]?
  cell : ∀ t, (t < o ∨ o + k ≤ t) → w'.cell? ⟨b, t, none⟩ = w.cell? ⟨b, t, none⟩
  free : ∀ t, w'.frozen? ⟨b, t, none⟩ = w.frozen? ⟨b, t, none⟩
section
variable {b o k P Q : Nat} {u v w : World}
set_option maxRecDepth 100000 in
theorem Edit.refl (b o k P Q : Nat) (w : World) : Edit b o k P Q w w := ⟨rfl, rfl, rfl, Nat.le_refl _, fun _ _ _ _ => rfl, fun _ _ => rfl, fun _ => rfl⟩
set_option maxRecDepth 100000 in
theorem Edit.trans (h : Edit b o k P Q u v) (g : Edit b o k P Q v w) : Edit b o k P Q u w :=
  ⟨g.os.trans h.os, g.tape.trans h.tape, g.output.trans h.output, Nat.le_trans h.size g.size, fun c hc h1 h2 => (g.block c (Nat.lt_of_lt_of_le hc h.size) h1 h2).trans (h.block c hc h1 h2), fun t ht => (g.cell t ht).trans (h.cell t ht), fun t => (g.free t).trans (h.free t)⟩
set_option maxRecDepth 100000 in
theorem Edit.set (h : Edit b o k P Q u v) (t : Nat) (x : Value) (h1 : o ≤ t) (h2 : t < o + k) : Edit b o k P Q u (v.setCell ⟨b, t, none⟩ x) :=
  ⟨h.os, h.tape, h.output, by simpa [World.setCell] using h.size, fun c hc hb hh => (Below.heap_setCell _ _ _ _ hb).trans (h.block c hc hb hh), fun s hs => (World.cell?_setCell_other _ _ _ _ (fun he => by have := congrArg Addr.off he; simp at this; omega)).trans (h.cell s hs), fun s => by have := h.free s; simpa using this⟩
set_option maxRecDepth 100000 in
theorem Edit.turned {lo hi : Nat} (h : Edit b o k P Q u v) (ht : Turned lo hi v w) (h1 : P ≤ lo) (h2 : hi ≤ Q) (h3 : b < lo ∨ hi ≤ b) (hb : b < u.heap.size) : Edit b o k P Q u w :=
  have hk := ht.block b (Nat.lt_of_lt_of_le hb h.size) h3
  ⟨ht.os.trans h.os, ht.tape.trans h.tape, ht.output.trans h.output, Nat.le_trans h.size ht.size, fun c hc hcb hh => (ht.block c (Nat.lt_of_lt_of_le hc h.size) (by omega)).trans (h.block c hc hcb hh), fun t ht => (cell_keep hk).trans (h.cell t ht), fun t => (frozen_keep hk).trans (h.free t)⟩
set_option maxRecDepth 100000 in
theorem Edit.below {B : Nat} (h : Edit b o k P Q u v) (hb : Below B v w) (hB : v.heap.size ≤ B) (hu : b < u.heap.size) : Edit b o k P Q u w :=
  have hk := hb.block b (Nat.lt_of_lt_of_le hu (Nat.le_trans h.size hB))
  ⟨hb.os.trans h.os, hb.tape.trans h.tape, hb.output.trans h.output, Nat.le_trans h.size hb.size, fun c hc hcb hh => (hb.block c (Nat.lt_of_lt_of_le hc (Nat.le_trans h.size hB))).trans (h.block c hc hcb hh), fun t ht => (cell_keep hk).trans (h.cell t ht), fun t => (frozen_keep hk).trans (h.free t)⟩
set_option maxRecDepth 100000 in
theorem Edit.toTurned {lo hi : Nat} (h : Edit b o k P Q u v) (h1 : lo ≤ b) (h2 : b < hi) (h3 : lo ≤ P) (h4 : Q ≤ hi) : Turned lo hi u v :=
  ⟨h.os, h.tape, h.output, h.size, fun c hc hh => h.block c hc (by omega) (by omega)⟩
set_option maxRecDepth 100000 in
theorem Edit.sets (us : List Value) : ∀ (v : World) (p : Nat), Edit b o k P Q u v → o ≤ p → p + us.length ≤ o + k → Edit b o k P Q u (setsAt v b p us) := by
  induction us with
  | nil => intro v p h _ _; exact h
  | cons x us ih =>
    intro v p h h1 h2
    simp only [List.length_cons] at h2
    exact ih _ (p + 1) (h.set p x h1 (by omega)) (by omega) (by omega)
end
section
variable {α : Type} {R : Rep α}
/-- elements in block b from off on; element j's parts lie between p j and q j, apart from all others' and from the row -/
structure RowI (D : Ivl R) (lo hi : Nat) (w : World) (b off : Nat) (xs : List (List Value × α)) (p q : Nat → Nat) : Prop where
  at_ : ∀ j x, xs[j]? = some x → x.1.length = R.k ∧ atL w b (off + j * R.k) x.1
  free : ∀ j, j < xs.length → freeL w b (off + j * R.k) R.k
  one : ∀ j x, xs[j]? = some x → D.I (p j) (q j) w x.1 x.2
  apart : ∀ i j, i < xs.length → j < xs.length → i ≠ j → q i ≤ p j ∨ q j ≤ p i
  in_ : ∀ j, j < xs.length → lo ≤ p j ∧ q j ≤ hi ∧ (b < p j ∨ q j ≤ b)
  blk : lo ≤ b ∧ b < hi
variable {D : Ivl R} {lo hi b off : Nat} {w w' : World} {xs : List (List Value × α)} {p q : Nat → Nat}
set_option maxRecDepth 100000 in
theorem RowI.keep (h : RowI D lo hi w b off xs p q) (hk : ∀ c, lo ≤ c → c < hi → w'.heap[c]? = w.heap[c]?) : RowI D lo hi w' b off xs p q := by
  obtain ⟨h1, h2, h3, h4, h5, h6⟩ := h
  refine ⟨fun j x hx => ⟨(h1 j x hx).1, (h1 j x hx).2.keep (hk b h6.1 h6.2)⟩, fun j hj t ht => (frozen_keep (hk b h6.1 h6.2)).trans (h2 j hj t ht), fun j x hx => D.keep (h3 j x hx) fun c c1 c2 => hk c ?_ ?_, h4, h5, h6⟩
  · have := h5 j (List.getElem?_eq_some_iff.1 hx).1; omega
  · have := h5 j (List.getElem?_eq_some_iff.1 hx).1; omega
set_option maxRecDepth 100000 in
theorem RowI.below {B : Nat} (h : RowI D lo hi w b off xs p q) (hb : Below B w w') (hB : hi ≤ B) : RowI D lo hi w' b off xs p q := h.keep fun c _ hc => hb.block c (by omega)
set_option maxRecDepth 100000 in
theorem RowI.turned {l2 h2 : Nat} (h : RowI D lo hi w b off xs p q) (ht : Turned l2 h2 w w') (hd : hi ≤ l2 ∨ h2 ≤ lo) (hs : hi ≤ w.heap.size) : RowI D lo hi w' b off xs p q := h.keep fun c h1 h2 => ht.block c (by omega) (by omega)
set_option maxRecDepth 100000 in
theorem RowI.mono {lo' hi' : Nat} (h : RowI D lo hi w b off xs p q) (h1 : lo' ≤ lo) (h2 : hi ≤ hi') : RowI D lo' hi' w b off xs p q :=
  ⟨h.at_, h.free, h.one, h.apart, fun j hj => by have := h.in_ j hj; omega, by have := h.blk; omega⟩
set_option maxRecDepth 100000 in
/-- a row without elements -/
theorem RowI.nil (D : Ivl R) {lo hi : Nat} (w : World) {b : Nat} (off : Nat) (h : lo ≤ b ∧ b < hi) : RowI D lo hi w b off [] (fun _ => 0) (fun _ => 0) :=
  ⟨fun j x hx => by simp at hx, fun j hj => absurd hj (by simp), fun j x hx => by simp at hx, fun i j hi => absurd hi (by simp), fun j hj => absurd hj (by simp), h⟩
set_option maxRecDepth 100000 in
/-- one more element, behind the others -/
theorem RowI.push {P Q hi' : Nat} {y : List Value × α} (h : RowI D lo hi w b off xs p q) (he : Edit b (off + xs.length * R.k) R.k P P w w') (hl : y.1.length = R.k) (ha : atL w' b (off + xs.length * R.k) y.1) (hf : freeL w b (off + xs.length * R.k) R.k) (hI : D.I P Q w' y.1 y.2) (hd : ∀ i, i < xs.length → q i ≤ P ∨ Q ≤ p i) (hin : lo ≤ P ∧ Q ≤ hi' ∧ (b < P ∨ Q ≤ b)) (hh : hi ≤ hi') (hs : hi ≤ w.heap.size) :
    RowI D lo hi' w' b off (xs ++ [y]) (fun i => if i = xs.length then P else p i) (fun i => if i = xs.length then Q else q i) := by
  obtain ⟨h1, h2, h3, h4, h5, h6⟩ := h
  have hlen : (xs ++ [y]).length = xs.length + 1 := by simp
  have hcase : ∀ {i : Nat} {x : List Value × α}, (xs ++ [y])[i]? = some x → (i = xs.length ∧ x = y) ∨ (i < xs.length ∧ xs[i]? = some x) := fun {i x} hx => by
    by_cases e : i < xs.length
    · rw [List.getElem?_append_left e] at hx; exact .inr ⟨e, hx⟩
    · have hi' := (List.getElem?_eq_some_iff.1 hx).1
      rw [hlen] at hi'
      have e' : i = xs.length := by omega
      subst e'
      rw [List.getElem?_append_right (Nat.le_refl _), Nat.sub_self] at hx
      exact .inl ⟨rfl, (Option.some.inj hx).symm⟩
  refine ⟨fun i x hx => ?_, fun i hi t ht => ?_, fun i x hx => ?_, fun i i' hi hi' hne => ?_, fun i hi => ?_, by omega⟩
  · rcases hcase hx with ⟨rfl, rfl⟩ | ⟨e, hx⟩
    · exact ⟨hl, ha⟩
    · refine ⟨(h1 i x hx).1, fun t u hu => ?_⟩
      have ht := (List.getElem?_eq_some_iff.1 hu).1
      rw [(h1 i x hx).1] at ht
      rw [he.cell _ (by have := mul_step (k := R.k) e; omega)]
      exact (h1 i x hx).2 t u hu
  · rw [hlen] at hi
    refine (he.free _).trans ?_
    by_cases e : i = xs.length
    · subst e; exact hf t ht
    · exact h2 i (by omega) t ht
  · rcases hcase hx with ⟨rfl, rfl⟩ | ⟨e, hx⟩
    · simp only [if_true]; exact hI
    · show D.I (if i = xs.length then P else p i) (if i = xs.length then Q else q i) w' x.1 x.2
      rw [if_neg (by omega), if_neg (by omega)]
      refine D.keep (h3 i x hx) fun c c1 c2 => he.block c ?_ ?_ (by omega)
      · have := h5 i e; omega
      · have := h5 i e; omega
  · rw [hlen] at hi hi'
    show (if i = xs.length then Q else q i) ≤ (if i' = xs.length then P else p i') ∨ (if i' = xs.length then Q else q i') ≤ (if i = xs.length then P else p i)
    by_cases e : i = xs.length
    · rw [if_pos e, if_pos e, if_neg (by omega), if_neg (by omega)]
      have := hd i' (by omega); omega
    · rw [if_neg e, if_neg e]
      by_cases e' : i' = xs.length
      · rw [if_pos e', if_pos e']; exact hd i (by omega)
      · rw [if_neg e', if_neg e']; exact h4 i i' (by omega) (by omega) hne
  · rw [hlen] at hi
    show lo ≤ (if i = xs.length then P else p i) ∧ (if i = xs.length then Q else q i) ≤ hi' ∧ (b < (if i = xs.length then P else p i) ∨ (if i = xs.length then Q else q i) ≤ b)
    by_cases e : i = xs.length
    · rw [if_pos e, if_pos e]; exact hin
    · rw [if_neg e, if_neg e]; have := h5 i (by omega); omega
set_option maxRecDepth 100000 in
/-- element j takes other memory: between P and Q -/
theorem RowI.put {j P Q hi' : Nat} {y : List Value × α} (h : RowI D lo hi w b off xs p q) (hj : j < xs.length) (he : Edit b (off + j * R.k) R.k (p j) (q j) w w') (hl : y.1.length = R.k) (ha : atL w' b (off + j * R.k) y.1) (hI : D.I P Q w' y.1 y.2) (hd : ∀ i, i < xs.length → i ≠ j → q i ≤ P ∨ Q ≤ p i) (hin : lo ≤ P ∧ Q ≤ hi' ∧ (b < P ∨ Q ≤ b)) (hh : hi ≤ hi') (hs : hi ≤ w.heap.size) :
    RowI D lo hi' w' b off (xs.set j y) (fun i => if i = j then P else p i) (fun i => if i = j then Q else q i) := by
  obtain ⟨h1, h2, h3, h4, h5, h6⟩ := h
  refine ⟨fun i x hx => ?_, fun i hi t ht => ?_, fun i x hx => ?_, fun i i' hi hi' hne => ?_, fun i hi => ?_, by omega⟩
  · by_cases e : j = i
    · subst e; rw [List.getElem?_set_self hj] at hx; cases hx; exact ⟨hl, ha⟩
    · rw [List.getElem?_set_ne e] at hx
      refine ⟨(h1 i x hx).1, fun t u hu => ?_⟩
      have ht := (List.getElem?_eq_some_iff.1 hu).1
      rw [(h1 i x hx).1] at ht
      rw [he.cell _ (by
        rcases Nat.lt_or_gt_of_ne e with h | h
        · have := mul_step (k := R.k) h; omega
        · have := mul_step (k := R.k) h; omega)]
      exact (h1 i x hx).2 t u hu
  · rw [List.length_set] at hi
    exact (he.free _).trans (h2 i hi t ht)
  · by_cases e : j = i
    · subst e; rw [List.getElem?_set_self hj] at hx; cases hx
      simp only [if_true]; exact hI
    · rw [List.getElem?_set_ne e] at hx
      have hil := (List.getElem?_eq_some_iff.1 hx).1
      show D.I (if i = j then P else p i) (if i = j then Q else q i) w' x.1 x.2
      rw [if_neg (Ne.symm e), if_neg (Ne.symm e)]
      refine D.keep (h3 i x hx) fun c c1 c2 => he.block c ?_ ?_ ?_
      · have := h5 i hil; omega
      · have := h5 i hil; omega
      · have := h4 i j hil hj (Ne.symm e); omega
  · rw [List.length_set] at hi hi'
    show (if i = j then Q else q i) ≤ (if i' = j then P else p i') ∨ (if i' = j then Q else q i') ≤ (if i = j then P else p i)
    by_cases e : i = j
    · rw [if_pos e, if_pos e, if_neg (by omega), if_neg (by omega)]
      have := hd i' hi' (by omega); omega
    · rw [if_neg e, if_neg e]
      by_cases e' : i' = j
      · rw [if_pos e', if_pos e']; exact hd i hi e
      · rw [if_neg e', if_neg e']; exact h4 i i' hi hi' hne
  · rw [List.length_set] at hi
    show lo ≤ (if i = j then P else p i) ∧ (if i = j then Q else q i) ≤ hi' ∧ (b < (if i = j then P else p i) ∨ (if i = j then Q else q i) ≤ b)
    by_cases e : i = j
    · rw [if_pos e, if_pos e]; exact hin
    · rw [if_neg e, if_neg e]; have := h5 i hi; omega
set_option maxRecDepth 100000 in
/-- element j is edited in its place -/
theorem RowI.edit {j : Nat} {y : List Value × α} (h : RowI D lo hi w b off xs p q) (hj : j < xs.length) (he : Edit b (off + j * R.k) R.k (p j) (q j) w w') (hl : y.1.length = R.k) (ha : atL w' b (off + j * R.k) y.1) (hI : D.I (p j) (q j) w' y.1 y.2) (hs : hi ≤ w.heap.size) :
    RowI D lo hi w' b off (xs.set j y) p q := by
  have h5 := h.in_
  have h4 := h.apart
  have := h.put hj he hl ha hI (fun i hi' hne => by have := h4 i j hi' hj hne; omega) (h5 j hj) (Nat.le_refl _) hs
  have e1 : (fun i => if i = j then p j else p i) = p := funext fun i => by by_cases e : i = j <;> simp [e]
  have e2 : (fun i => if i = j then q j else q i) = q := funext fun i => by by_cases e : i = j <;> simp [e]
  rwa [e1, e2] at this
set_option maxRecDepth 100000 in
theorem RowI.mine {c n : Nat} (h : RowI D lo hi w b off xs p q) (hn : n = xs.length) (hc : n ≤ c) : R.slice.mine lo hi w [.slice (some ⟨b, off, none⟩) n c] (xs.map (·.2)) := by
  subst hn
  obtain ⟨h1, h2, h3, h4, h5, h6⟩ := h
  have hF : ∀ j : Nat, ∃ F : List Nat, ∀ x, xs[j]? = some x → R.own w x.1 x.2 F ∧ F.Nodup ∧ ∀ b ∈ F, p j ≤ b ∧ b < q j := fun j => by
    cases hx : xs[j]? with
    | none => exact ⟨[], fun x h => by cases h⟩
    | some y =>
      obtain ⟨F, hF⟩ := D.mine (h3 j y hx)
      exact ⟨F, fun x h => by cases h; exact hF⟩
  let F : Nat → List Nat := fun j => Classical.choose (hF j)
  have hFs : ∀ j x, xs[j]? = some x → R.own w x.1 x.2 (F j) ∧ (F j).Nodup ∧ ∀ b ∈ F j, p j ≤ b ∧ b < q j := fun j => Classical.choose_spec (hF j)
  have hgt : ∀ (j : Nat) (hj : j < xs.length), (F j).Nodup ∧ ∀ b ∈ F j, p j ≤ b ∧ b < q j := fun j hj => (hFs j _ (List.getElem?_eq_getElem hj)).2
  have hin : ∀ x ∈ List.flatten ((List.range xs.length).map F), ∃ j, j < xs.length ∧ p j ≤ x ∧ x < q j := fun x hx => by
    obtain ⟨G, hG, hxG⟩ := List.mem_flatten.1 hx
    obtain ⟨j, hj, rfl⟩ := List.mem_map.1 hG
    have hj' := List.mem_range.1 hj
    exact ⟨j, hj', (hgt j hj').2 x hxG⟩
  have hlm : (xs.map (·.2)).length = xs.length := List.length_map ..
  refine ⟨b :: List.flatten ((List.range xs.length).map F), ⟨some ⟨b, off, none⟩, c, by rw [hlm], by rw [hlm]; exact hc, .inr ⟨b, off, _, rfl, rfl, by simp, fun j x G hx hG => ?_⟩⟩, ?_, ?_⟩
  · rw [List.getElem?_map] at hx
    obtain ⟨z, hz, rfl⟩ := Option.map_eq_some_iff.1 hx
    have hj := (List.getElem?_eq_some_iff.1 hz).1
    have hG' : G = F j := by
      rw [List.getElem?_map, List.getElem?_range hj] at hG
      exact (Option.some.inj hG).symm
    subst hG'
    exact ⟨z.1, (hFs j z hz).1, (h1 j z hz).2, h2 j hj⟩
  · rw [List.nodup_cons]
    refine ⟨fun hx => by obtain ⟨j, hj, h3⟩ := hin b hx; have := h5 j hj; omega, ?_⟩
    rw [List.Nodup, List.pairwise_flatten]
    refine ⟨fun G hG => ?_, ?_⟩
    · obtain ⟨j, hj, rfl⟩ := List.mem_map.1 hG
      exact (hgt j (List.mem_range.1 hj)).1
    · rw [List.pairwise_map]
      refine List.Pairwise.imp_of_mem (R := fun i j : Nat => i < j) (fun {i j} hi hj hij x hx y hy e => ?_) List.pairwise_lt_range
      have hi' := List.mem_range.1 hi
      have hj' := List.mem_range.1 hj
      have a1 := (hgt i hi').2 x hx
      have a2 := (hgt j hj').2 y hy
      have := h4 i j hi' hj' (by omega)
      omega
  · intro x hx
    rcases List.mem_cons.1 hx with rfl | hx
    · exact h6
    · obtain ⟨j, hj, h3⟩ := hin x hx
      have := h5 j hj
      omega
/-- a slice of such elements -/
def SliceI (D : Ivl R) (lo hi : Nat) (w : World) (cs : List Value) (l : List α) : Prop :=
  ∃ A c, cs = [.slice A l.length c] ∧ l.length ≤ c ∧ (l = [] ∨ ∃ b off xs p q, A = some ⟨b, off, none⟩ ∧ xs.map (·.2) = l ∧ RowI D lo hi w b off xs p q)
def Ivl.slice (D : Ivl R) : Ivl R.slice where
  I := SliceI D
  keep := by
    rintro lo hi w w' cs l ⟨A, c, rfl, hc, h⟩ hk
    refine ⟨A, c, rfl, hc, ?_⟩
    rcases h with rfl | ⟨b, off, xs, p, q, rfl, rfl, h⟩
    · exact .inl rfl
    · exact .inr ⟨b, off, xs, p, q, rfl, rfl, h.keep hk⟩
  mono := by
    rintro lo hi lo' hi' w cs l ⟨A, c, rfl, hc, h⟩ h1 h2
    refine ⟨A, c, rfl, hc, ?_⟩
    rcases h with rfl | ⟨b, off, xs, p, q, rfl, rfl, h⟩
    · exact .inl rfl
    · exact .inr ⟨b, off, xs, p, q, rfl, rfl, h.mono h1 h2⟩
  mine := by
    rintro lo hi w cs l ⟨A, c, rfl, hc, h⟩
    rcases h with rfl | ⟨b, off, xs, p, q, rfl, rfl, h⟩
    · exact ⟨[], ⟨A, c, rfl, hc, .inl ⟨rfl, rfl⟩⟩, List.nodup_nil, by simp⟩
    · exact h.mine (List.length_map ..) hc
set_option maxRecDepth 100000 in
theorem Ivl.rd {lo hi : Nat} {w : World} {cs : List Value} {x : α} (D : Ivl R) (h : D.I lo hi w cs x) : R.rd hi w cs x := (D.mine h).rd
set_option maxRecDepth 100000 in
theorem Ivl.below {B lo hi : Nat} {w w' : World} {cs : List Value} {x : α} (D : Ivl R) (h : D.I lo hi w cs x) (hb : Below B w w') (hB : hi ≤ B) : D.I lo hi w' cs x := D.keep h fun c _ hc => hb.block c (by omega)
set_option maxRecDepth 100000 in
theorem Ivl.turned {l2 h2 lo hi : Nat} {w w' : World} {cs : List Value} {x : α} (D : Ivl R) (h : D.I lo hi w cs x) (ht : Turned l2 h2 w w') (hd : hi ≤ l2 ∨ h2 ≤ lo) (hs : hi ≤ w.heap.size) : D.I lo hi w' cs x := D.keep h fun c h1 h2 => ht.block c (by omega) (by omega)
end
end Go.Proofs.YthnimmagaocipaaGreatDoor
set_option linter.unusedVariables false
namespace Go.Proofs.YthnimmagaocipaaGreatDoor
open Go.ChangeShapes Go.WideShapes Go.ChangeAt Go.RowKit

abbrev BookD := List AcctD
def AcctsR : Rep BookD := AcctR.slice
set_option maxRecDepth 100000 in
theorem AcctI.keep {lo hi : Nat} {w w' : World} {vh vc vs vl : Value} {a : AcctD} (h : AcctI lo hi w vh vc vs vl a) (hk : ∀ b, lo ≤ b → b < hi → w'.heap[b]? = w.heap[b]?) : AcctI lo hi w' vh vc vs vl a := by
  obtain ⟨l1, h1, l2, h2, l3, h3, m1, m2, m3, hq, d⟩ := h
  exact ⟨l1, h1, l2, h2, l3, h3, m1.keep fun b a c => hk b (by omega) (by omega), m2.keep fun b a c => hk b (by omega) (by omega), m3.keep fun b a c => hk b (by omega) (by omega), hq, d⟩
def AcctIv : Ivl AcctR where
  I lo hi w cs a := ∃ vh vc vs vl, cs = aCells a vh vc vs vl ∧ AcctI lo hi w vh vc vs vl a
  keep := by
    rintro lo hi w w' cs a ⟨vh, vc, vs, vl, rfl, h⟩ hk
    exact ⟨vh, vc, vs, vl, rfl, h.keep hk⟩
  mono := by
    rintro lo hi lo' hi' w cs a ⟨vh, vc, vs, vl, rfl, h⟩ h1 h2
    exact ⟨vh, vc, vs, vl, rfl, h.mono h1 h2⟩
  mine := by
    rintro lo hi w cs a ⟨vh, vc, vs, vl, rfl, h⟩
    exact h.mine
def AcctsIv : Ivl AcctsR := AcctIv.slice
set_option maxRecDepth 100000 in
theorem acct_forms {hi : Nat} {w : World} {cs : List Value} {a : AcctD} (h : AcctR.rd hi w cs a) : ∃ AH cH AC cC AS cS AL cL, cs = aCells a (.slice AH (aH a).length cH) (.slice AC (aR a).2.2.1.length cC) (.slice AS (aR a).2.2.2.length cS) (.slice AL (aS a).length cL) := by
  obtain ⟨vh, vc, vs, vl, rfl, h1, h2, h3, h4⟩ := acct_rd h
  obtain ⟨AH, cH, rfl, -⟩ := Rep.slice_form h1
  obtain ⟨AC, cC, rfl, -⟩ := h2.form
  obtain ⟨AS, cS, rfl, -⟩ := h3.form
  obtain ⟨AL, cL, rfl, -⟩ := Rep.slice_form h4
  exact ⟨AH, cH, AC, cC, AS, cS, AL, cL, rfl⟩
set_option maxRecDepth 100000 in
/-- the eleven cells of an element -/
theorem atL.eleven {w : World} {b o : Nat} {a c d e f i j k l m n : Value} (h : atL w b o [a, c, d, e, f, i, j, k, l, m, n]) :
    w.cell? ⟨b, o, none⟩ = some a ∧ w.cell? ⟨b, o + 1, none⟩ = some c ∧ w.cell? ⟨b, o + 2, none⟩ = some d ∧ w.cell? ⟨b, o + 3, none⟩ = some e ∧ w.cell? ⟨b, o + 4, none⟩ = some f ∧ w.cell? ⟨b, o + 5, none⟩ = some i ∧ w.cell? ⟨b, o + 6, none⟩ = some j ∧ w.cell? ⟨b, o + 7, none⟩ = some k ∧ w.cell? ⟨b, o + 8, none⟩ = some l ∧ w.cell? ⟨b, o + 9, none⟩ = some m ∧ w.cell? ⟨b, o + 10, none⟩ = some n :=
  ⟨h 0 _ rfl, h 1 _ rfl, h 2 _ rfl, h 3 _ rfl, h 4 _ rfl, h 5 _ rfl, h 6 _ rfl, h 7 _ rfl, h 8 _ rfl, h 9 _ rfl, h 10 _ rfl⟩
set_option maxRecDepth 100000 in
theorem atL.below {w w' : World} {b o B : Nat} {us : List Value} (h : atL w b o us) (hb : Below B w w') (hB : b < B) : atL w' b o us := h.keep (hb.block b hB)
set_option maxRecDepth 100000 in
theorem accts_rd {hi : Nat} {w : World} {v : Value} {l : BookD} (h : AcctsR.rd hi w [v] l) :
    ∃ A c, v = .slice A l.length c ∧ l.length ≤ c ∧ ∀ j x, l[j]? = some x → ∃ b off AH cH AC cC AS cS AL cL, A = some ⟨b, off, none⟩ ∧ b < hi ∧ atL w b (off + j * 11) (aCells x (.slice AH (aH x).length cH) (.slice AC (aR x).2.2.1.length cC) (.slice AS (aR x).2.2.2.length cS) (.slice AL (aS x).length cL)) ∧ AcctR.rd hi w (aCells x (.slice AH (aH x).length cH) (.slice AC (aR x).2.2.1.length cC) (.slice AS (aR x).2.2.2.length cS) (.slice AL (aS x).length cL)) x := by
  obtain ⟨A, c, hv, hc, hj⟩ := h
  simp only [List.cons.injEq, and_true] at hv
  refine ⟨A, c, hv, hc, fun j x hx => ?_⟩
  obtain ⟨b, off, xs, hA, hb, hr, ha⟩ := hj j x hx
  obtain ⟨AH, cH, AC, cC, AS, cS, AL, cL, rfl⟩ := acct_forms hr
  exact ⟨b, off, AH, cH, AC, cC, AS, cS, AL, cL, hA, hb, ha, hr⟩
/-- a whole account written at o -/
abbrev put11 (V : World) (b o : Nat) (a0 a1 a2 a3 a4 a5 a6 a7 a8 a9 a10 : Value) : World := (((((((((((V.setCell ⟨b, o, none⟩ a0).setCell ⟨b, o + 1, none⟩ a1).setCell ⟨b, o + 2, none⟩ a2).setCell ⟨b, o + 3, none⟩ a3).setCell ⟨b, o + 4, none⟩ a4).setCell ⟨b, o + 5, none⟩ a5).setCell ⟨b, o + 6, none⟩ a6).setCell ⟨b, o + 7, none⟩ a7).setCell ⟨b, o + 8, none⟩ a8).setCell ⟨b, o + 9, none⟩ a9).setCell ⟨b, o + 10, none⟩ a10)
set_option maxRecDepth 100000 in
theorem sets11 (V : World) (b o : Nat) (a0 a1 a2 a3 a4 a5 a6 a7 a8 a9 a10 : Value) : setsAt V b o [a0, a1, a2, a3, a4, a5, a6, a7, a8, a9, a10] = put11 V b o a0 a1 a2 a3 a4 a5 a6 a7 a8 a9 a10 := by
  simp only [setsAt, Nat.add_assoc, Nat.reduceAdd]
set_option maxRecDepth 100000 in
theorem put11_size (V : World) (b o : Nat) (a0 a1 a2 a3 a4 a5 a6 a7 a8 a9 a10 : Value) : (put11 V b o a0 a1 a2 a3 a4 a5 a6 a7 a8 a9 a10).heap.size = V.heap.size := by simp [put11]
set_option maxRecDepth 100000 in
theorem put11_below {B : Nat} {U V : World} {b o : Nat} {a0 a1 a2 a3 a4 a5 a6 a7 a8 a9 a10 : Value} (h : Below B U V) (hb : B ≤ b) : Below B U (put11 V b o a0 a1 a2 a3 a4 a5 a6 a7 a8 a9 a10) := by
  rw [← sets11]; exact setsAt_below _ _ _ _ h hb
/-- what a law asks of a book's sizes -/
def bookSmall (N : Nat) (l : BookD) : Prop := l.length ≤ N ∧ ∀ x ∈ l, acctSmall N x
def bookBig (l : BookD) : Prop := l.length ≤ maxLen ∧ ∀ x ∈ l, acctBig x
def bookSz (l : BookD) : Nat := l.length + (l.map acctSz).sum
/-- a book as it is given back -/
def bookOne (l : BookD) (w : World) (e : Ending) (w' : World) : Prop := ∃ v, e = .returned (.agg #[v]) ∧ AcctsR.mine w.heap.size w'.heap.size w' [v] l ∧ Below w.heap.size w w'
def bookOneI (l : BookD) (w : World) (e : Ending) (w' : World) : Prop := ∃ v, e = .returned (.agg #[v]) ∧ AcctsIv.I w.heap.size w'.heap.size w' [v] l ∧ Below w.heap.size w w'
set_option maxRecDepth 100000 in
theorem bookOneI.one {l : BookD} {w : World} {e : Ending} {w' : World} (h : bookOneI l w e w') : bookOne l w e w' := by
  obtain ⟨v, he, hm, hb⟩ := h
  exact ⟨v, he, AcctsIv.mine hm, hb⟩
end Go.Proofs.YthnimmagaocipaaGreatDoor
set_option linter.unusedVariables false
namespace Go.Proofs.YthnimmagaocipaaGreatDoor
open Go.ChangeShapes Go.WideShapes Go.ChangeAt Go.RowKit Go.Deep

set_option maxRecDepth 100000 in
theorem open_book {H : Type} {enc : TypeId × Value → H} {W : World} {base : Nat} {v : Value} {d : DataW H} {p : List MemPlace} (hval : Value.okWide Tryz.prog W .any base 24 v) (h : DataW.Trod enc Tryz.prog W 0 (fun _ => true) true 24 v d p) :
    ∃ (l : BookD) (vb : Value), v = .agg #[vb] ∧ AcctsR.rd W.heap.size W [vb] l ∧ bookBig l := by
  obtain ⟨cs, rfl, hsz⟩ := okWide_struct Tryz.underlying24 hval
  obtain ⟨fuel, hf⟩ := h
  have hL := opens_slice (by decide) Tryz.underlying36 (by kernel_rfl) (opens_hold (enc := enc) (W := W))
  have hS := opens_slice (by decide) Tryz.underlying40 (by kernel_rfl) (opens_slot (enc := enc) (W := W))
  have hI0 : Opens enc Tryz.prog W (Rep.int .i64) 3 _ := opens_int Tryz.underlying3
  have hI : Opens enc Tryz.prog W IntsR 37 _ := opens_slice (by decide) Tryz.underlying37 (by kernel_rfl) hI0
  have hR : Opens enc Tryz.prog W RingR 39 _ := opens_struct Tryz.underlying39 (by kernel_rfl) (opensF_cons hI0 rfl (by kernel_rfl) (opensF_cons hI0 rfl (by kernel_rfl) (opensF_cons hI rfl (by kernel_rfl) (opensF_one hI rfl (by kernel_rfl)))))
  have hA : Opens enc Tryz.prog W AcctR 42 _ := opens_struct Tryz.underlying42 (by kernel_rfl) (opensF_cons (opens_str Tryz.underlying9) rfl (by kernel_rfl) (opensF_cons (opens_int Tryz.underlying3) rfl (by kernel_rfl) (opensF_cons (opens_int Tryz.underlying3) rfl (by kernel_rfl) (opensF_cons (opens_int Tryz.underlying3) rfl (by kernel_rfl) (opensF_cons (opens_int Tryz.underlying3) rfl (by kernel_rfl) (opensF_cons hL rfl (by kernel_rfl) (opensF_cons hR rfl (by kernel_rfl) (opensF_one hS rfl (by kernel_rfl)))))))))
  have hB : Opens enc Tryz.prog W AcctsR 22 _ := opens_slice (by decide) Tryz.underlying22 (by kernel_rfl) hA
  have hK : Opens enc Tryz.prog W AcctsR 24 _ := opens_struct Tryz.underlying24 (by kernel_rfl) (opensF_one hB rfl (by kernel_rfl))
  obtain ⟨l, hr, hl, hx⟩ := hK fuel _ _ hf
  obtain ⟨A, c, hcs, hh⟩ := hr
  refine ⟨l, .slice A l.length c, ?_, ⟨A, c, rfl, hh⟩, hl, fun x hxl => ?_⟩
  · have hcs' : cs.toList = [.slice A l.length c] := hcs
    have : cs = #[.slice A l.length c] := by rw [← hcs']
    rw [this]
  · obtain ⟨h1, h2, h3, h4, h5, ⟨h6, h7⟩, ⟨h8, h9, ⟨h10, h11⟩, h12, h13⟩, h14, h15⟩ := hx x hxl
    exact ⟨h1, h6, fun x hx => (h7 x hx).1, h10, h12, h14, fun x hx => ⟨(h15 x hx).1, (h15 x hx).2.1, (h15 x hx).2.2.1⟩⟩
end Go.Proofs.YthnimmagaocipaaGreatDoor
set_option linter.unusedVariables false
namespace Go.Proofs.YthnimmagaocipaaGreatDoor
open Go.ChangeShapes Go.WideShapes Go.ChangeAt Go.RowKit

set_option maxRecDepth 100000 in
theorem specDigits_any (s : ByteArray) (w : World) (hs : s.size ≤ maxLen) :
    Calls Tryz.prog 113 #[.string s] w fun e w' => e = .returned (.bool (digs s)) ∧ w = w' := by
  unfold maxLen at hs
  go_enter Tryz.func113, Tryz.ntmps113
  go_wp2
  go_loop [3] (fun i => ∃ k : Nat, k ≤ s.size ∧ i = .int .i64 k ∧ (s.data.toList.take k).all isDig = true) (fun i => s.size - (intOf i).toNat)
  case atStart => exact ⟨0, Nat.zero_le _, rfl, rfl⟩
  case round =>
    obtain ⟨k, hk, rfl, ha0⟩ := hrel
    have ha := Lib.hid ha0
    clear ha0
    by_cases hlt : k < s.size
    · go_wp2
      · go_ret
        exact ⟨ret_bool (digs_no s k hlt ((isDig_no _).2 (by omega))).symm, rfl⟩
      · go_round
        case rel => exact ⟨k + 1, by omega, by go_num, all_one s k hlt ha.out ((isDig_iff _).2 (by omega))⟩
        case measure => simp [intOf] <;> omega
      · go_ret
        exact ⟨ret_bool (digs_no s k hlt ((isDig_no _).2 (by omega))).symm, rfl⟩
    · go_wp2
      go_ret
      exact ⟨ret_bool (digs_end s k hlt ha.out), rfl⟩

end Go.Proofs.YthnimmagaocipaaGreatDoor
set_option linter.unusedVariables false
namespace Go.Proofs.YthnimmagaocipaaGreatDoor
open Go.ChangeShapes Go.WideShapes Go.ChangeAt Go.RowKit

/-- is the number of a character a digit's? -/
def runeDig (r : Int) : Bool := decide (48 ≤ r) && decide (r ≤ 57)
set_option maxRecDepth 100000 in
theorem isDigit_any (r : Int) (w : World) : Calls Tryz.prog 141 #[.int .i32 r] w fun e w' => e = .returned (.bool (runeDig r)) ∧ w = w' := by
  by_cases h0 : 48 ≤ r
  all_goals
    go_enter Tryz.func141, Tryz.ntmps141
    go_wp2
    go_ret
    exact ⟨by simp [runeDig]; omega, rfl⟩

set_option maxRecDepth 100000 in
/-- The character at a place: a digit there, or none. -/
theorem rune_dig (s : ByteArray) (pos : Nat) (h : pos < s.size) (hd : isDig s[pos] = true) : Utf8.decode s pos = (s[pos].toNat, 1) ∧ runeDig (s[pos].toNat : Int) = true := by
  have h1 := (isDig_iff _).1 hd
  exact ⟨decode_ascii s pos h (by omega), by simp [runeDig]; omega⟩
set_option maxRecDepth 100000 in
theorem rune_not (s : ByteArray) (pos : Nat) (h : pos < s.size) (hd : isDig s[pos] = false) : runeDig ((Utf8.decode s pos).1 : Int) = false := by
  have h1 := (isDig_no _).1 hd
  rcases Nat.lt_or_ge s[pos].toNat 128 with h2 | h2
  · rw [decode_ascii s pos h h2]; simp [runeDig]; omega
  · have := (decode_high s pos h h2).1; simp [runeDig]; omega

end Go.Proofs.YthnimmagaocipaaGreatDoor
set_option linter.unusedVariables false
namespace Go.Proofs.YthnimmagaocipaaGreatDoor
open Go.ChangeShapes Go.WideShapes Go.ChangeAt Go.RowKit

set_option maxRecDepth 100000 in
theorem implDigits_any (s : ByteArray) (w : World) (hs : s.size ≤ maxLen) :
    Calls Tryz.prog 132 #[.string s] w fun e w' => e = .returned (.bool (digs s)) ∧ Below w.heap.size w w' := by
  unfold maxLen at hs
  go_enter Tryz.func132, Tryz.ntmps132
  go_wp2
  go_loopw [2] (fun _ wr => ∃ k : Nat, k ≤ s.size ∧ wr = w.iter s k ∧ (s.data.toList.take k).all isDig = true) (fun _ wr => s.size - wr.iterPos w.heap.size)
  case atStart => exact ⟨0, Nat.zero_le _, rfl, rfl⟩
  case round =>
    obtain ⟨k, hk, rfl, ha0⟩ := hrel
    have ha := Lib.hid ha0
    clear ha0
    by_cases hlt : k < s.size
    · cases hd : isDig s[k]
      · have hr := rune_not s k hlt hd
        have hnx : ∀ ty, (Instr.next (.pointer (some ⟨w.heap.size, 0, none⟩)) true ty).run Tryz.prog (w.iter s k) = _ := fun ty => run_next_any w s k ty hlt
        generalize hq : Utf8.decode s k = q at hnx hr
        obtain ⟨r, wd⟩ := q
        clear hq
        go_wp2_with (go_at_call 141; refine (isDigit_any _ _).mono ?_; rintro e w' ⟨rfl, rfl⟩)
        go_ret
        exact ⟨ret_bool (digs_no s k hlt hd).symm, below_iter _ _ _⟩
      · obtain ⟨hdec, hr⟩ := rune_dig s k hlt hd
        have hnx : ∀ ty, (Instr.next (.pointer (some ⟨w.heap.size, 0, none⟩)) true ty).run Tryz.prog (w.iter s k) = _ := fun ty => run_next_any w s k ty hlt
        rw [hdec] at hnx
        have hb := Lib.hid (all_one s k hlt ha.out hd)
        clear hdec hd
        go_wp2_with (go_at_call 141; refine (isDigit_any _ _).mono ?_; rintro e w' ⟨rfl, rfl⟩)
        go_roundw
        case rel => exact ⟨k + 1, by omega, rfl, hb.out⟩
        case measure => simp <;> omega
    · have hnx : ∀ ty, (Instr.next (.pointer (some ⟨w.heap.size, 0, none⟩)) true ty).run Tryz.prog (w.iter s k) = _ := fun ty => run_next_end w s k ty hlt
      go_wp2
      go_ret
      exact ⟨ret_bool ((not_empty s).trans (digs_end s k hlt ha.out)), below_iter _ _ _⟩
end Go.Proofs.YthnimmagaocipaaGreatDoor
set_option linter.unusedVariables false
namespace Go.Proofs.YthnimmagaocipaaGreatDoor
open Go.ChangeShapes Go.WideShapes Go.ChangeAt Go.RowKit

/-- the digit of a byte -/
def dOf (c : UInt8) : Int := (c.toNat : Int) - 48
/-- a digit doubled, 9 taken off where it is greater than 9 -/
def twiceOf (d : Int) : Int := if 4 < d then 2 * d - 9 else 2 * d
/-- the Luhn sum: the last digit is doubled, and every second one before it -/
def luSum : List UInt8 → Int
  | [] => 0
  | c :: l => (if l.length % 2 = 0 then twiceOf (dOf c) else dOf c) + luSum l
def luVal (s : ByteArray) : Int := if digs s = true then (10 - luSum s.data.toList % 10) % 10 else -1

set_option maxRecDepth 100000 in
theorem twice_bd {d : Int} (h0 : 0 ≤ d) (h1 : d ≤ 9) : 0 ≤ twiceOf d ∧ twiceOf d ≤ 9 := by unfold twiceOf; split <;> omega
set_option maxRecDepth 100000 in
theorem drop_one (s : ByteArray) (k : Nat) (h : k < s.size) : s.data.toList.drop k = s[k] :: s.data.toList.drop (k + 1) :=
  List.drop_eq_getElem_cons (by simpa using h)
set_option maxRecDepth 100000 in
theorem drop_len (s : ByteArray) (k : Nat) : (s.data.toList.drop k).length = s.size - k := by simp
set_option maxRecDepth 100000 in
theorem luSum_bd {s : ByteArray} (hd : digs s = true) (k : Nat) : 0 ≤ luSum (s.data.toList.drop k) ∧ luSum (s.data.toList.drop k) ≤ 9 * ((s.size - k : Nat) : Int) := by
  generalize hn : s.size - k = n
  induction n generalizing k with
  | zero =>
    have : s.data.toList.drop k = [] := List.drop_eq_nil_of_le (by simp; omega)
    rw [this]; exact ⟨Int.le_refl _, Int.le_refl _⟩
  | succ n ih =>
    have hk : k < s.size := by omega
    have h1 := ih (k + 1) (by omega)
    have hg := digs_get hd k hk
    rw [drop_one s k hk]
    simp only [luSum]
    have ht := twice_bd (d := dOf s[k]) (by unfold dOf; omega) (by unfold dOf; omega)
    have hd0 : 0 ≤ dOf s[k] ∧ dOf s[k] ≤ 9 := by unfold dOf; omega
    split <;> omega
set_option maxRecDepth 100000 in
/-- one digit further -/
theorem luSum_even {s : ByteArray} (k : Nat) (hk : k < s.size) (he : (s.size - k) % 2 = 1) : luSum (s.data.toList.drop k) = twiceOf (dOf s[k]) + luSum (s.data.toList.drop (k + 1)) := by
  rw [drop_one s k hk]; simp only [luSum]; rw [if_pos (by rw [drop_len]; omega)]
set_option maxRecDepth 100000 in
theorem luSum_odd {s : ByteArray} (k : Nat) (hk : k < s.size) (he : (s.size - k) % 2 = 0) : luSum (s.data.toList.drop k) = dOf s[k] + luSum (s.data.toList.drop (k + 1)) := by
  rw [drop_one s k hk]; simp only [luSum]; rw [if_neg (by rw [drop_len]; omega)]

set_option maxRecDepth 100000 in
theorem luhnDouble_any (d : Int) (w : World) (h0 : 0 ≤ d) (h1 : d ≤ 9) : Calls Tryz.prog 142 #[.int .i64 d] w fun e w' => e = .returned (.int .i64 (twiceOf d)) ∧ w = w' := by
  by_cases h4 : 4 < d
  all_goals
    go_enter Tryz.func142, Tryz.ntmps142
    go_wp2
    go_ret
    exact ⟨ret_int (by unfold twiceOf; split <;> omega), rfl⟩

def parOf (s : ByteArray) (k : Nat) : Bool := decide ((s.size - k) % 2 = 1)
set_option maxRecDepth 100000 in
theorem par_next (s : ByteArray) (k : Nat) (h : k < s.size) : (!parOf s k) = parOf s (k + 1) := by
  unfold parOf
  rcases Nat.mod_two_eq_zero_or_one (s.size - k) with h1 | h1
  · rw [h1, show (s.size - (k + 1)) % 2 = 1 by omega]; rfl
  · rw [h1, show (s.size - (k + 1)) % 2 = 0 by omega]; rfl
set_option maxRecDepth 100000 in
theorem val_bool {a b : Bool} (h : a = b) : Value.bool a = Value.bool b := by rw [h]

set_option maxRecDepth 100000 in
set_option maxHeartbeats 800000 in
theorem implLuhn_any (s : ByteArray) (w : World) (hs : s.size ≤ 1048576) :
    Calls Tryz.prog 133 #[.string s] w fun e w' => e = .returned (.int .i64 (luVal s)) ∧ Below w.heap.size w w' := by
  cases hd : digs s
  · have hv : luVal s = -1 := by simp [luVal, hd]
    rw [hv]
    go_enter Tryz.func133, Tryz.ntmps133
    go_wp2_with (go_at_call 132; refine (implDigits_any _ _ (by unfold maxLen; omega)).mono ?_; rintro e w1 ⟨rfl, hb⟩)
    go_ret
    exact ⟨rfl, hb⟩
  · have hv : luVal s = (10 - luSum s.data.toList % 10) % 10 := by simp [luVal, hd]
    rw [hv]
    have hD := Lib.hid hd
    have hall := luSum_bd hd 0
    simp only [List.drop_zero, Nat.sub_zero] at hall
    have hall0 := hall.1
    have hall1 : luSum s.data.toList ≤ 9437184 := by omega
    clear hall hv
    go_enter Tryz.func133, Tryz.ntmps133
    go_wp2_with (go_at_call 132; refine (implDigits_any _ _ (by unfold maxLen; omega)).mono ?_; rintro e w1 ⟨rfl, hb⟩)
    clear hd
    go_loopw [3, 4] (fun dv sv wr => ∃ k : Nat, k ≤ s.size ∧ wr = w1.iter s k ∧ dv = .bool (parOf s k) ∧ sv = .int .i64 (luSum s.data.toList - luSum (s.data.toList.drop k))) (fun _ _ wr => s.size - wr.iterPos w1.heap.size)
    case atStart => exact ⟨0, Nat.zero_le _, rfl, val_bool (by unfold parOf; rw [Bool.eq_iff_iff]; simp; omega), val_int (by simp)⟩
    case round =>
      obtain ⟨k, hk, rfl, rfl, rfl⟩ := hrel
      by_cases hlt : k < s.size
      · have hg := digs_get hD.out k hlt
        have hg1 : (48 : Int) ≤ (s[k].toNat : Int) := by omega
        have hg2 : (s[k].toNat : Int) ≤ 57 := by omega
        have hnx : ∀ ty, (Instr.next (.pointer (some ⟨w1.heap.size, 0, none⟩)) true ty).run Tryz.prog (w1.iter s k) = _ := fun ty => run_next_any w1 s k ty hlt
        rw [decode_ascii s k hlt (by omega)] at hnx
        have hbk := luSum_bd hD.out k
        have hbk0 := hbk.1
        have hbk1 : luSum (s.data.toList.drop k) ≤ 9437184 := by omega
        clear hbk
        have hpn := Lib.hid (par_next s k hlt)
        have hpk := Lib.hid (show parOf s k = decide ((s.size - k) % 2 = 1) from rfl)
        cases hp : parOf s k
        · have hstep := Lib.hid (luSum_odd k hlt (by have := of_decide_eq_false (hpk.out.symm.trans hp); omega))
          rw [hp] at hpn
          go_wp2
          go_roundw
          case rel => exact ⟨k + 1, by omega, rfl, val_bool hpn.out, val_int (by have := hstep.out; unfold dOf at this; omega)⟩
          case measure => simp <;> omega
        · have hstep := Lib.hid (luSum_even k hlt (of_decide_eq_true (hpk.out.symm.trans hp)))
          have htw := twice_bd (d := (s[k].toNat : Int) - 48) (by omega) (by omega)
          rw [hp] at hpn
          go_wp2_with (go_at_call 142; refine (luhnDouble_any _ _ (by omega) (by omega)).mono ?_; rintro e w' ⟨rfl, rfl⟩)
          go_roundw
          case rel => exact ⟨k + 1, by omega, rfl, val_bool hpn.out, val_int (by have := hstep.out; unfold dOf at this; omega)⟩
          case measure => simp <;> omega
      · have hnx : ∀ ty, (Instr.next (.pointer (some ⟨w1.heap.size, 0, none⟩)) true ty).run Tryz.prog (w1.iter s k) = _ := fun ty => run_next_end w1 s k ty hlt
        have he : luSum (s.data.toList.drop k) = 0 := by rw [List.drop_eq_nil_of_le (by simp; omega)]; rfl
        have he0 : 0 ≤ luSum (s.data.toList.drop k) := by omega
        have he1 : luSum (s.data.toList.drop k) ≤ 0 := by omega
        clear he
        go_wp2
        go_ret
        exact ⟨ret_int (by omega), hb.trans ((below_iter _ _ _).mono hb.size)⟩

set_option maxRecDepth 100000 in
set_option maxHeartbeats 800000 in
theorem specLuhn_any (s : ByteArray) (w : World) (hs : s.size ≤ 1048576) :
    Calls Tryz.prog 114 #[.string s] w fun e w' => e = .returned (.int .i64 (luVal s)) ∧ w = w' := by
  cases hd : digs s
  · have hv : luVal s = -1 := by simp [luVal, hd]
    rw [hv]
    go_enter Tryz.func114, Tryz.ntmps114
    go_wp2_with (go_at_call 113; refine (specDigits_any _ _ (by unfold maxLen; omega)).mono ?_; rintro e w1 ⟨rfl, rfl⟩)
    go_ret
    exact ⟨rfl, rfl⟩
  · have hv : luVal s = (10 - luSum s.data.toList % 10) % 10 := by simp [luVal, hd]
    rw [hv]
    have hD := Lib.hid hd
    clear hv
    have hpos := digs_pos hd
    go_enter Tryz.func114, Tryz.ntmps114
    go_wp2_with (go_at_call 113; refine (specDigits_any _ _ (by unfold maxLen; omega)).mono ?_; rintro e w1 ⟨rfl, rfl⟩)
    clear hd
    go_loop [3, 4, 5] (fun nv tv iv => ∃ k : Nat, k ≤ s.size ∧ iv = .int .i64 ((k : Int) - 1) ∧ tv = .bool (!parOf s k) ∧ nv = .int .i64 (luSum (s.data.toList.drop k) % 10)) (fun _ _ iv => (intOf iv + 1).toNat)
    case atStart => exact ⟨s.size, Nat.le_refl _, rfl, val_bool (by unfold parOf; simp), val_int (by rw [List.drop_eq_nil_of_le (by simp)]; rfl)⟩
    case round =>
      obtain ⟨j, hk, rfl, rfl, rfl⟩ := hrel
      cases j with
      | zero =>
        go_wp2
        go_ret
        exact ⟨ret_int (by omega), rfl⟩
      | succ k =>
        have hlt : k < s.size := by omega
        have hg := digs_get hD.out k hlt
        have hg1 : (48 : Int) ≤ (s[k].toNat : Int) := by omega
        have hg2 : (s[k].toNat : Int) ≤ 57 := by omega
        have hpn := Lib.hid (par_next s k hlt)
        have hpk := Lib.hid (show parOf s k = decide ((s.size - k) % 2 = 1) from rfl)
        rw [← par_next s k hlt]
        cases hp : parOf s k
        · have hstep := Lib.hid (luSum_odd k hlt (by have := of_decide_eq_false (hpk.out.symm.trans hp); omega))
          go_wp2
          go_round
          case rel => exact ⟨k, by omega, rfl, val_bool (by rw [hp]; rfl), val_int (by have := hstep.out; unfold dOf at this; omega)⟩
          case measure => simp [intOf] <;> omega
        · have hstep := Lib.hid (luSum_even k hlt (of_decide_eq_true (hpk.out.symm.trans hp)))
          by_cases h4 : (s[k].toNat : Int) ≤ 52
          · go_wp2
            go_round
            case rel => exact ⟨k, by omega, rfl, val_bool (by rw [hp]; rfl), val_int (by have := hstep.out; unfold dOf twiceOf at this; split at this <;> omega)⟩
            case measure => simp [intOf] <;> omega
          · go_wp2
            go_round
            case rel => exact ⟨k, by omega, rfl, val_bool (by rw [hp]; rfl), val_int (by have := hstep.out; unfold dOf twiceOf at this; split at this <;> omega)⟩
            case measure => simp [intOf] <;> omega
end Go.Proofs.YthnimmagaocipaaGreatDoor
set_option linter.unusedVariables false
namespace Go.Proofs.YthnimmagaocipaaGreatDoor
open Go.ChangeShapes Go.WideShapes Go.ChangeAt Go.RowKit

def initOf (s : ByteArray) : ByteArray := s.extract 0 (s.size - 1)
def luOk (s : ByteArray) : Bool := decide (2 ≤ s.size) && digs s && (luVal (initOf s) == dOf (s.data.toList.getLastD 0))

set_option maxRecDepth 100000 in
theorem luOk_eq (s : ByteArray) (hd : digs s = true) (h2 : ¬ s.size < 2) : luOk s = (luVal (s.extract 0 (s.size - 1)) == ((s[s.size - 1].toNat : Int) - 48)) := by
  have hl : s.data.toList.getLastD 0 = s[s.size - 1] := by
    have hne : s.data.toList ≠ [] := by
      intro h
      have h4 : s.data.toList.length = s.size := by simp
      rw [h] at h4
      simp only [List.length_nil] at h4
      omega
    rw [List.getLastD_eq_getLast?, List.getLast?_eq_some_getLast hne, Option.getD_some, List.getLast_eq_getElem]
    rfl
  have h3 : decide (2 ≤ s.size) = true := decide_eq_true (by omega)
  unfold luOk dOf initOf
  rw [hd, h3, hl]
  rfl
set_option maxRecDepth 100000 in
theorem bool_beq_comm (a b : Int) : (a == b) = (b == a) := by rw [Bool.eq_iff_iff]; simp only [beq_iff_eq]; exact eq_comm
set_option maxRecDepth 100000 in
set_option maxHeartbeats 800000 in
theorem specLuhnOk_any (s : ByteArray) (w : World) (hs : s.size ≤ 1048576) :
    Calls Tryz.prog 88 #[.string s] w fun e w' => e = .returned (.bool (luOk s)) ∧ Below w.heap.size w w' := by
  cases hd : digs s
  · go_enter Tryz.func88, Tryz.ntmps88
    go_wp2_with (go_at_call 113; refine (specDigits_any _ _ (by unfold maxLen; omega)).mono ?_; rintro e w1 ⟨rfl, rfl⟩)
    go_ret
    exact ⟨ret_bool (by simp [luOk, hd]), Below.refl _ _⟩
  · by_cases h2 : s.size < 2
    · go_enter Tryz.func88, Tryz.ntmps88
      go_wp2_with (go_at_call 113; refine (specDigits_any _ _ (by unfold maxLen; omega)).mono ?_; rintro e w1 ⟨rfl, rfl⟩)
      go_ret
      exact ⟨ret_bool (by simp [luOk]; omega), Below.refl _ _⟩
    · have hg := digs_get hd (s.size - 1) (by omega)
      go_enter Tryz.func88, Tryz.ntmps88
      go_wp2_with (go_at_call 113; refine (specDigits_any _ _ (by unfold maxLen; omega)).mono ?_; rintro e w1 ⟨rfl, rfl⟩)
      have e1 : IntKind.i64.wrap ((s.size : Int) - 1) = (s.size : Int) - 1 := IntWalk.i64_in _ (by omega)
      have e2 : ((s.size : Int) - 1).toNat = s.size - 1 := by omega
      have e3 : 0 ≤ (s.size : Int) - 1 := by omega
      have e4 : 1 ≤ (s.size : Int) := by omega
      have e5 : IntKind.i64.wrap (s[s.size - 1].toNat : Int) = (s[s.size - 1].toNat : Int) := IntWalk.i64_in _ (by omega)
      have e6 : IntKind.i64.wrap ((s[s.size - 1].toNat : Int) - 48) = (s[s.size - 1].toNat : Int) - 48 := IntWalk.i64_in _ (by omega)
      have e7 : IntKind.u8.wrap ((s[s.size - 1].toNat : Int) - 48) = (s[s.size - 1].toNat : Int) - 48 := IntWalk.u8_in _ (by omega)
      go_region_with ((go_at_call 114; refine (specLuhn_any _ _ (by simp <;> omega)).mono ?_; rintro e w' ⟨rfl, rfl⟩))
      all_goals
        go_wp2
        go_ret
        exact ⟨ret_bool (luOk_eq s hd h2).symm, (Below.refl _ _).drew⟩

set_option maxRecDepth 100000 in
set_option maxHeartbeats 800000 in
theorem implLuhnOk_any (s : ByteArray) (w : World) (hs : s.size ≤ 1048576) :
    Calls Tryz.prog 116 #[.string s] w fun e w' => e = .returned (.bool (luOk s)) ∧ Below w.heap.size w w' := by
  by_cases h2 : s.size < 2
  · go_enter Tryz.func116, Tryz.ntmps116
    go_wp2_with (go_at_call 132; refine (implDigits_any _ _ (by unfold maxLen; omega)).mono ?_; rintro e w1 ⟨rfl, hb⟩)
    go_ret
    exact ⟨ret_bool (by simp [luOk]; omega), Below.refl _ _⟩
  · cases hd : digs s
    · go_enter Tryz.func116, Tryz.ntmps116
      go_wp2_with (go_at_call 132; refine (implDigits_any _ _ (by unfold maxLen; omega)).mono ?_; rintro e w1 ⟨rfl, hb⟩)
      go_ret
      exact ⟨ret_bool (by simp [luOk, hd]), hb⟩
    · have hg := digs_get hd (s.size - 1) (by omega)
      go_enter Tryz.func116, Tryz.ntmps116
      go_wp2_with (go_at_call 132; refine (implDigits_any _ _ (by unfold maxLen; omega)).mono ?_; rintro e w1 ⟨rfl, hb⟩)
      have e1 : IntKind.i64.wrap ((s.size : Int) - 1) = (s.size : Int) - 1 := IntWalk.i64_in _ (by omega)
      have e2 : ((s.size : Int) - 1).toNat = s.size - 1 := by omega
      have e3 : 0 ≤ (s.size : Int) - 1 := by omega
      have e4 : 1 ≤ (s.size : Int) := by omega
      have e5 : IntKind.i64.wrap (s[s.size - 1].toNat : Int) = (s[s.size - 1].toNat : Int) := IntWalk.i64_in _ (by omega)
      have e6 : IntKind.i64.wrap ((s[s.size - 1].toNat : Int) - 48) = (s[s.size - 1].toNat : Int) - 48 := IntWalk.i64_in _ (by omega)
      have e7 : IntKind.u8.wrap ((s[s.size - 1].toNat : Int) - 48) = (s[s.size - 1].toNat : Int) - 48 := IntWalk.u8_in _ (by omega)
      go_region_with ((go_at_call 133; refine (implLuhn_any _ _ (by simp <;> omega)).mono ?_; rintro e w' ⟨rfl, hb2⟩))
      all_goals
        go_wp2
        go_ret
        exact ⟨ret_bool (((luOk_eq s hd h2).trans (bool_beq_comm _ _)).symm), hb.drew.trans (hb2.mono (by simp; exact hb.size))⟩
end Go.Proofs.YthnimmagaocipaaGreatDoor
set_option linter.unusedVariables false
namespace Go.Proofs.YthnimmagaocipaaGreatDoor
open Go.ChangeShapes Go.WideShapes Go.ChangeAt Go.RowKit

def acctIdB (s : ByteArray) : Bool := decide (s.size ≤ 19) && luOk s
set_option maxRecDepth 100000 in
theorem specAcctIdOk_any (s : ByteArray) (w : World) (hs : s.size ≤ maxLen) :
    Calls Tryz.prog 50 #[.string s] w fun e w' => e = .returned (.bool (acctIdB s)) ∧ Below w.heap.size w w' := by
  by_cases h : s.size ≤ 19
  · have HI : Hid (acctIdB s = luOk s) := Lib.hid (by unfold acctIdB; rw [decide_eq_true h]; rfl)
    have HL := Lib.hid (fun w => specLuhnOk_any s w (by omega))
    have h' : (s.size : Int) ≤ 19 := by omega
    rw [HI.out]
    generalize luOk s = b at HL
    go_enter Tryz.func50, Tryz.ntmps50
    go_wp2_with fail
    refine (HL.out _).mono ?_
    rintro e w1 ⟨rfl, hb⟩
    go_wp2
    go_ret
    exact ⟨rfl, hb⟩
  · have HI : Hid (acctIdB s = false) := Lib.hid (by unfold acctIdB; rw [decide_eq_false h]; rfl)
    have h' : ¬ (s.size : Int) ≤ 19 := by omega
    rw [HI.out]
    go_enter Tryz.func50, Tryz.ntmps50
    go_wp2
    go_ret
    exact ⟨rfl, Below.refl _ _⟩
end Go.Proofs.YthnimmagaocipaaGreatDoor
set_option linter.unusedVariables false
namespace Go.Proofs.YthnimmagaocipaaGreatDoor
open Go.ChangeShapes Go.WideShapes Go.ChangeAt Go.RowKit

/-- a digit or a small letter -/
def idCh (c : UInt8) : Bool := decide (48 ≤ c.toNat ∧ c.toNat ≤ 57 ∨ 97 ≤ c.toNat ∧ c.toNat ≤ 122)
def idOk (s : ByteArray) : Bool := s.data.toList.all idCh && inB (s.size : Int) 1 6
def holdOk (x : HoldD) : Bool := idOk x.1 && (inB x.2.1 1 9007199254740992 && timeB x.2.2)
/-- the string a comes before b -/
def strLt (a b : ByteArray) : Bool := Op.bytesLess a.toList b.toList
/-- element i is right, and after the one before it -/
def holdAtOk (l : List HoldD) (i : Nat) : Bool := holdOk (l.getD i noH) && (decide (i = 0) || strLt (l.getD (i - 1) noH).1 (l.getD i noH).1)
def holdsOk (l : List HoldD) : Bool := (List.range l.length).all (holdAtOk l) && decide (l.length ≤ 4)
def storedL (l : List HoldD) : Int := l.foldl (fun n x => satVal n x.2.1) 0
set_option maxRecDepth 100000 in
theorem all_step {s : ByteArray} {k : Nat} {p : UInt8 → Bool} (hlt : k < s.size) (h : (s.data.toList.take k).all p = true) (hp : p s[k] = true) : (s.data.toList.take (k + 1)).all p = true := by
  have hl : k < s.data.toList.length := by simpa using hlt
  have hp' : p s.data.toList[k] = true := hp
  rw [List.take_succ_eq_append_getElem hl, List.all_append, h]
  simpa using hp'
set_option maxRecDepth 100000 in
theorem all_not {s : ByteArray} {k : Nat} {p : UInt8 → Bool} (hlt : k < s.size) (hp : p s[k] = false) : s.data.toList.all p = false := by
  rw [List.all_eq_false]
  have hl : k < s.data.toList.length := by simpa using hlt
  exact ⟨s.data.toList[k], List.getElem_mem hl, by rw [Bool.not_eq_true]; exact hp⟩
set_option maxRecDepth 100000 in
theorem all_whole {s : ByteArray} {p : UInt8 → Bool} (h : (s.data.toList.take s.size).all p = true) : s.data.toList.all p = true := by
  have e : s.size = s.data.toList.length := by simp
  rw [e, List.take_length] at h
  exact h
set_option maxRecDepth 100000 in
theorem idOk_not {s : ByteArray} (h : s.data.toList.all idCh = false) : idOk s = false := by unfold idOk; rw [h]; rfl
set_option maxRecDepth 100000 in
theorem idOk_yes {s : ByteArray} (h : s.data.toList.all idCh = true) : idOk s = inB (s.size : Int) 1 6 := by unfold idOk; rw [h]; rfl
end Go.Proofs.YthnimmagaocipaaGreatDoor
set_option linter.unusedVariables false
namespace Go.Proofs.YthnimmagaocipaaGreatDoor
open Go.ChangeShapes Go.WideShapes Go.ChangeAt Go.RowKit

/-- a row of structs of the call's own, from block B on; it may be appended to -/
def owE {α : Type} (T : TypeId) (k : Nat) (enc : α → List Value) (B : Nat) (w : World) (v : Value) (l : List α) : Prop := w.ownsRow B T k v l.length (l.flatMap enc)
section
variable {α : Type} {T : TypeId} {k B B' : Nat} {enc : α → List Value} {w w' : World} {v : Value} {l : List α}
set_option maxRecDepth 100000 in
theorem owE_none (T : TypeId) (k B : Nat) (enc : α → List Value) (w : World) : owE T k enc B w (.slice none 0 0) [] := ⟨by simp, Or.inl ⟨rfl, rfl⟩⟩
set_option maxRecDepth 100000 in
theorem owE.form (h : owE T k enc B w v l) : ∃ A c, v = .slice A l.length c ∧ l.length ≤ c := by
  rcases h.2 with ⟨rfl, h0⟩ | ⟨g, cap, cur, rfl, hB, hg, h1, _⟩
  · exact ⟨none, 0, by rw [h0], by omega⟩
  · exact ⟨_, cap, rfl, h1⟩
set_option maxRecDepth 100000 in
theorem owE.lt (h : owE T k enc B w v l) : ∀ g, v.ownBlock = some g → B ≤ g ∧ g < w.heap.size := World.ownsRow.lt h
set_option maxRecDepth 100000 in
theorem owE.keep (h : owE T k enc B w v l) (hk : ∀ g, v.ownBlock = some g → w'.heap[g]? = w.heap[g]?) : owE T k enc B w' v l := by
  refine ⟨h.1, ?_⟩
  rcases h.2 with hn | ⟨g, cap, cur, rfl, hB, hg, rest⟩
  · exact .inl hn
  · exact .inr ⟨g, cap, cur, rfl, hB, (hk g rfl).trans hg, rest⟩
set_option maxRecDepth 100000 in
theorem owE.below {C : Nat} (h : owE T k enc B w v l) (hb : Below C w w') (hC : w.heap.size ≤ C) : owE T k enc B w' v l := h.keep fun g hg => hb.block g (by have := (h.lt g hg).2; omega)
set_option maxRecDepth 100000 in
theorem owE.alloc (h : owE T k enc B w v l) (o : Obj) : owE T k enc B (w.alloc o) v l := World.ownsRow.alloc h o
set_option maxRecDepth 100000 in
theorem owE.set (h : owE T k enc B w v l) {b : Nat} (hb : v.ownBlock ≠ some b) (o : Nat) (x : Value) : owE T k enc B (w.setCell ⟨b, o, none⟩ x) v l := h.keep fun g hg => Below.heap_setCell _ _ _ _ (show g ≠ b from fun e => hb (by rw [hg, e]))
set_option maxRecDepth 100000 in
theorem owE.mono (h : owE T k enc B w v l) (hB : B' ≤ B) : owE T k enc B' w v l := World.ownsRow.mono h hB
set_option maxRecDepth 100000 in
theorem flat_at (hk : ∀ x, (enc x).length = k) : ∀ (l : List α) (j : Nat) (x : α), l[j]? = some x → ∀ t u, (enc x)[t]? = some u → (l.flatMap enc)[j * k + t]? = some u := by
  intro l
  induction l with
  | nil => intro j x h; simp at h
  | cons y l ih =>
    intro j x h t u hu
    rw [List.flatMap_cons]
    cases j with
    | zero =>
      simp only [List.getElem?_cons_zero, Option.some.injEq] at h
      subst h
      rw [Nat.zero_mul, Nat.zero_add, List.getElem?_append_left (List.getElem?_eq_some_iff.1 hu).1]
      exact hu
    | succ j =>
      have := ih j x (by simpa using h) t u hu
      rw [List.getElem?_append_right (by rw [hk, Nat.add_mul]; omega), hk, Nat.add_mul]
      rwa [show j * k + 1 * k + t - k = j * k + t by omega]
set_option maxRecDepth 100000 in
/-- the row's elements lie in one block that may be written -/
theorem owE.filled (h : owE T k enc B w v l) (hk : ∀ x, (enc x).length = k) (d : α) : (l = [] ∧ ∃ A c, v = .slice A 0 c) ∨ ∃ b c, v = .slice (some ⟨b, 0, none⟩) l.length c ∧ l.length ≤ c ∧ B ≤ b ∧ b < w.heap.size ∧ Proofs.YthnimmagaocipaaGreatDoor.filled w b 0 k l.length l.length fun j => enc (l.getD j d) := by
  have hlen := h.1
  rcases h.2 with ⟨rfl, h0⟩ | ⟨g, cap, cur, rfl, hB, hg, h1, h2, h3, h4⟩
  · exact .inl ⟨List.eq_nil_of_length_eq_zero h0, none, 0, rfl⟩
  · refine .inr ⟨g, cap, rfl, h1, hB, (Array.getElem?_eq_some_iff.1 hg).1, ?_⟩
    have hh : w.ownsRow B T k (.slice (some ⟨g, 0, none⟩) l.length cap) l.length (l.flatMap enc) := h
    refine ⟨fun t ht => ?_, fun j hj t u hu => ?_⟩
    · rw [Nat.zero_add]
      refine ⟨?_, hh.frozenAt t⟩
      rw [hh.cellAt t ht]
      exact ⟨_, List.getElem?_eq_getElem (by rw [hlen]; exact ht)⟩
    · have hx : l[j]? = some l[j] := List.getElem?_eq_getElem hj
      have hd : l.getD j d = l[j] := by rw [List.getD_eq_getElem?_getD, hx]; rfl
      simp only [hd] at hu
      have htk : t < k := by rw [← hk l[j]]; exact (List.getElem?_eq_some_iff.1 hu).1
      have hjk := mul_step (k := k) hj
      rw [Nat.zero_add, hh.cellAt (j * k + t) (by omega)]
      exact flat_at hk l j _ hx t u hu
end
set_option maxRecDepth 100000 in
/-- append(s, T{..}) onto a row of the call's own -/
theorem app_elem {P : Program} {ops : Array Oper} {rest : List Oper} {o : Oper} {a : Act} {Q : Exit → Act → World → Prop} {α : Type} (enc : α → List Value) (k : Nat) (hk : ∀ x, (enc x).length = k) (hk0 : 0 < k) (hone : ∀ x, ∀ u ∈ enc x, u.oneCell' = true)
    (t e : TypeId) (zs : Array Value) (bytes : Nat) (ht : P.underlying t = some (.slice e)) (hinfo : (P.info? e).map (fun i => (i.zero.map (·.cells), i.size, i.bytes)) = some (some zs, k, bytes)) (hzs : zs.size = k)
    (s x : Operand) (hgd : o.guard = none) (ho : o.op = .call { callee := .builtin .append, args := #[s, x], argTypes := #[t, t] })
    (base : Nat) (W : World) (v : Value) (l : List α) (y : α) (n : Nat) (us : Array Value) (hus : us.toList = enc y) (hs : a.eval s = v) (hx : a.eval x = .slice (some ⟨n, 0, none⟩) 1 1) (hn : n = W.heap.size)
    (hown : owE e k enc base W v l) (h63 : l.length + 1 ≤ maxLen) (hbytes : (l.length + 1) * bytes ≤ 140737488355328) (hbase : base ≤ W.heap.size)
    (h : ∀ A c w', owE e k enc base w' (.slice A (l.length + 1) c) (l ++ [y]) → l.length + 1 ≤ c → (W.alloc (.cells us e)).grownBy w' v.ownBlock → ((Value.slice A (l.length + 1) c).ownBlock = v.ownBlock ∨ (Value.slice A (l.length + 1) c).ownBlock = some (W.heap.size + 1)) → wpList P ops Q rest (a.put o.dst (.slice A (l.length + 1) c)) w') : wpList P ops Q (o :: rest) a (W.alloc (.cells us e)) := by
  subst hn
  obtain ⟨i, hi, hxx⟩ := Option.map_eq_some_iff.1 hinfo
  simp only [Prod.mk.injEq] at hxx
  obtain ⟨hz, hsize, hby⟩ := hxx
  obtain ⟨z, hzz, hzc⟩ := Option.map_eq_some_iff.1 hz
  refine wpList_append_own_at _ hgd s x t ho base e i z k bytes ht hi hzz hsize hby (by rw [hzc, hzs]) hk0 v l.length (l.flatMap enc) hs (World.ownsRow.alloc hown _) ⟨W.heap.size, 0, none⟩ 1 1 (enc y) hx (by rw [hk]; omega) ?_ (hone y) h63 hbytes (by simp; omega) ?_
  · intro j u hu
    have e1 : (⟨W.heap.size, 0, none⟩ : Addr).add j = ⟨W.heap.size, j, none⟩ := by
      unfold Addr.add
      split
      · next h0 => rw [h0]
      · simp
    rw [e1, cell_of_row _ _ j us e (0, 0) (heap_alloc_new _ _), ← Array.getElem?_toList, hus]
    exact hu
  · intro v' w1 hown' hgrow _ hlies
    have ho' : owE e k enc base w1 v' (l ++ [y]) := by
      unfold owE
      rw [List.length_append, List.flatMap_append]
      simpa using hown'
    obtain ⟨A, c, rfl, hc⟩ := ho'.form
    rw [List.length_append] at ho' hc hlies ⊢
    exact h A c w1 ho' hc hgrow (by simpa using hlies)
set_option maxRecDepth 100000 in
/-- .. as a step of a region that draws its order (for go_region_law) -/
theorem app_elem_step {P : Program} {ops : Array Oper} {o : Oper} {a : Act} {Kn : Act → World → Prop} {Q : Exit → Act → World → Prop} {E : Prop} {α : Type} (enc : α → List Value) (k : Nat) (hk : ∀ x, (enc x).length = k) (hk0 : 0 < k) (hone : ∀ x, ∀ u ∈ enc x, u.oneCell' = true)
    (t e : TypeId) (zs : Array Value) (bytes : Nat) (ht : P.underlying t = some (.slice e)) (hinfo : (P.info? e).map (fun i => (i.zero.map (·.cells), i.size, i.bytes)) = some (some zs, k, bytes)) (hzs : zs.size = k)
    (s x : Operand) (hgd : o.guard = none) (ho : o.op = .call { callee := .builtin .append, args := #[s, x], argTypes := #[t, t] })
    (base : Nat) (W : World) (v : Value) (l : List α) (y : α) (n : Nat) (us : Array Value) (hus : us.toList = enc y) (hs : a.eval s = v) (hx : a.eval x = .slice (some ⟨n, 0, none⟩) 1 1) (hn : n = W.heap.size)
    (hown : owE e k enc base W v l) (h63 : l.length + 1 ≤ maxLen) (hbytes : (l.length + 1) * bytes ≤ 140737488355328) (hbase : base ≤ W.heap.size)
    (h : ∀ A c w', owE e k enc base w' (.slice A (l.length + 1) c) (l ++ [y]) → l.length + 1 ≤ c → (W.alloc (.cells us e)).grownBy w' v.ownBlock → ((Value.slice A (l.length + 1) c).ownBlock = v.ownBlock ∨ (Value.slice A (l.length + 1) c).ownBlock = some (W.heap.size + 1)) → Kn (a.put o.dst (.slice A (l.length + 1) c)) w') : if Region.wanted o (yielded ops a.tmps) = true then o.wp P a (W.alloc (.cells us e)) Kn Q else E := by
  rw [if_pos (by simp [Region.wanted, hgd])]
  subst hn
  obtain ⟨i, hi, hxx⟩ := Option.map_eq_some_iff.1 hinfo
  simp only [Prod.mk.injEq] at hxx
  obtain ⟨hz, hsize, hby⟩ := hxx
  obtain ⟨z, hzz, hzc⟩ := Option.map_eq_some_iff.1 hz
  have hcells : ∀ j u, (enc y)[j]? = some u → (W.alloc (.cells us e)).cell? ((⟨W.heap.size, 0, none⟩ : Addr).add j) = some u := by
    intro j u hu
    have e1 : (⟨W.heap.size, 0, none⟩ : Addr).add j = ⟨W.heap.size, j, none⟩ := by
      unfold Addr.add
      split
      · next h0 => rw [h0]
      · simp
    rw [e1, cell_of_row _ _ j us e (0, 0) (heap_alloc_new _ _), ← Array.getElem?_toList, hus]
    exact hu
  obtain ⟨v', w1, hr, hown', hgrow, _, hlies⟩ := run_append_own_at (P := P) (W.alloc (.cells us e)) base t o.type e i z k bytes ht hi hzz hsize hby (by rw [hzc, hzs]) hk0 v l.length (l.flatMap enc) (World.ownsRow.alloc hown _) ⟨W.heap.size, 0, none⟩ 1 1 (enc y) (by rw [hk]; omega) hcells (hone y) h63 hbytes (by simp; omega)
  have ho' : owE e k enc base w1 v' (l ++ [y]) := by
    unfold owE
    rw [List.length_append, List.flatMap_append]
    simpa using hown'
  obtain ⟨A, c, rfl, hc⟩ := ho'.form
  rw [List.length_append] at ho' hc hlies hr
  unfold Oper.wp execOp
  simp only [ho, resolve, invoke, builtin, Sem.run_bind, Sem.run_pure, Result.andThen_ok, List.map_toArray, List.map_cons, List.map_nil, hs, hx, hr]
  exact h A c w1 ho' hc hgrow (by simpa using hlies)
set_option maxRecDepth 100000 in
theorem ow.from {T : TypeId} {K : IntKind} {B : Nat} {w : World} {v : Value} {L : List Int} (h : ow T K B w v L) : ∀ g, v.ownBlock = some g → B ≤ g := fun g hg => (World.ownsRow.lt h g hg).1
set_option maxRecDepth 100000 in
theorem rd.at {K : IntKind} {hi : Nat} {w : World} {A : Option Addr} {n c : Nat} {l : List Int} (h : rd K hi w (.slice A n c) l) {j : Nat} {x : Int} (hx : l[j]? = some x) : ∃ b off : Nat, A = some ⟨b, off, none⟩ ∧ b < hi ∧ w.cell? ⟨b, off + j, none⟩ = some (.int K x) := by
  obtain ⟨A', c', hv, hc, hj⟩ := h
  obtain ⟨b, off, e, hb, hcell⟩ := hj j (List.getElem?_eq_some_iff.1 hx).1
  simp only [Value.slice.injEq] at hv
  rw [List.getD_eq_getElem?_getD, hx] at hcell
  exact ⟨b, off, by rw [hv.1]; exact e, hb, hcell⟩
/-- numbers as such rows -/
def iCells (z : Int) : List Value := [.int .i64 z]
set_option maxRecDepth 100000 in
theorem flat_map {α β : Type} (f : α → β) (l : List α) : (l.flatMap fun x => [f x]) = l.map f := by
  induction l with
  | nil => rfl
  | cons x l ih => rw [List.flatMap_cons, ih]; rfl
set_option maxRecDepth 100000 in
theorem owE.ints {T : TypeId} {B : Nat} {w : World} {v : Value} {l : List Int} (h : owE T 1 iCells B w v l) : ow T .i64 B w v l := by
  unfold owE at h
  rw [show l.flatMap iCells = l.map (Value.int .i64) from flat_map _ _] at h
  exact h
set_option maxRecDepth 100000 in
theorem owE_empty {α : Type} (T : TypeId) (k B : Nat) (enc : α → List Value) (w : World) (hB : B ≤ w.heap.size) : owE T k enc B (w.alloc (.cells #[] T)) (.slice (some ⟨w.heap.size, 0, none⟩) 0 0) [] :=
  ⟨by simp, Or.inr ⟨w.heap.size, 0, #[], rfl, hB, heap_alloc_new _ _, Nat.le_refl _, Nat.zero_le _, by simp, by simp⟩⟩
set_option maxRecDepth 100000 in
theorem owE.grown {α : Type} {T : TypeId} {k B : Nat} {enc : α → List Value} {w w' : World} {v : Value} {l : List α} {row : Option Nat} (h : owE T k enc B w v l) (hg : w.grownBy w' row) (hr : ∀ g, v.ownBlock = some g → row ≠ some g) : owE T k enc B w' v l :=
  h.keep fun g hg' => hg.block g (h.lt g hg').2 (fun e => hr g hg' e.symm)
end Go.Proofs.YthnimmagaocipaaGreatDoor
set_option linter.unusedVariables false
namespace Go.Proofs.YthnimmagaocipaaGreatDoor
open Go.ChangeShapes Go.WideShapes Go.ChangeAt Go.RowKit

set_option maxRecDepth 100000 in
theorem hCells_one (x : HoldD) : ∀ u ∈ hCells x, u.oneCell' = true := by
  intro u hu
  simp only [hCells, List.mem_cons, List.not_mem_nil, or_false] at hu
  rcases hu with rfl | rfl | rfl <;> rfl
set_option maxRecDepth 100000 in
/-- a row that was appended to, as holds of one's own -/
theorem owE_holds {B : Nat} {w : World} {T : TypeId} {v : Value} {l : List HoldD} (h : owE T 3 hCells B w v l) : HoldsR.mine B w.heap.size w [v] l := by
  rcases h.filled (fun _ => rfl) noH with ⟨rfl, A, c, rfl⟩ | ⟨b, c, rfl, hc, h1, h2, hf⟩
  · exact ⟨[], ⟨A, c, rfl, Nat.zero_le _, .inl ⟨rfl, rfl⟩⟩, List.nodup_nil, by simp⟩
  · exact holds_mine rfl hc h1 h2 hf
set_option maxRecDepth 100000 in
theorem bk.cells3 {w : World} {g : Nat} {t : TypeId} {a b c : Value} (h : bk w g t [a, b, c]) : w.cell? ⟨g, 0, none⟩ = some a ∧ w.cell? ⟨g, 1, none⟩ = some b ∧ w.cell? ⟨g, 2, none⟩ = some c := ⟨h.cell 0, h.cell 1, h.cell 2⟩
set_option maxRecDepth 100000 in
theorem str_eq_list {a b : ByteArray} : a.toList = b.toList ↔ a = b := by
  constructor
  · intro h
    apply ByteArray.ext
    apply Array.toList_inj.1
    rwa [ByteArray.toList_eq, ByteArray.toList_eq] at h
  · rintro rfl; rfl
/-- holds as they are given back -/
def holdsOne (l : List HoldD) (w : World) (e : Ending) (w' : World) : Prop := ∃ u, e = .returned u ∧ HoldsR.mine w.heap.size w'.heap.size w' [u] l ∧ Below w.heap.size w w'
end Go.Proofs.YthnimmagaocipaaGreatDoor
set_option linter.unusedVariables false
namespace Go.Proofs.YthnimmagaocipaaGreatDoor
open Go.ChangeShapes Go.WideShapes Go.ChangeAt Go.RowKit

set_option maxRecDepth 100000 in
set_option maxHeartbeats 1600000 in
theorem specHoldIdOk_any (s : ByteArray) (w : World) (hs : s.size ≤ maxLen) :
    Calls Tryz.prog 115 #[.string s] w fun e w' => e = .returned (.bool (idOk s)) ∧ w = w' := by
  unfold maxLen at hs
  have HI := Lib.hid (fun w => inB_any (s.size : Int) 1 6 w)
  go_enter Tryz.func115, Tryz.ntmps115
  go_wp2
  go_loop [3] (fun i => ∃ k : Nat, k ≤ s.size ∧ i = .int .i64 k ∧ (s.data.toList.take k).all idCh = true) (fun i => s.size - (intOf i).toNat)
  case atStart => exact ⟨0, Nat.zero_le _, rfl, rfl⟩
  case round =>
    obtain ⟨k, hk, rfl, ha0⟩ := hrel
    have ha := Lib.hid ha0
    clear ha0
    by_cases hlt : k < s.size
    · go_wp2
      · go_ret
        exact ⟨ret_bool (idOk_not (all_not (p := idCh) hlt (decide_eq_false (by omega)))).symm, rfl⟩
      · go_round
        case rel => exact ⟨k + 1, by omega, by go_num, all_step hlt ha.out (decide_eq_true (by omega))⟩
        case measure => simp [intOf] <;> omega
      · go_ret
        exact ⟨ret_bool (idOk_not (all_not (p := idCh) hlt (decide_eq_false (by omega)))).symm, rfl⟩
      · go_round
        case rel => exact ⟨k + 1, by omega, by go_num, all_step hlt ha.out (decide_eq_true (by omega))⟩
        case measure => simp [intOf] <;> omega
      · go_ret
        exact ⟨ret_bool (idOk_not (all_not (p := idCh) hlt (decide_eq_false (by omega)))).symm, rfl⟩
    · obtain rfl : k = s.size := by omega
      have HV := Lib.hid (idOk_yes (all_whole ha.out))
      go_wp2_with fail
      refine (HI.out _).mono ?_
      rintro e w1 ⟨rfl, rfl⟩
      go_wp2
      go_ret
      exact ⟨ret_bool HV.out.symm, rfl⟩
set_option maxRecDepth 100000 in
set_option maxHeartbeats 1600000 in
theorem specHoldOk_any (x : HoldD) (w : World) (hs : x.1.size ≤ maxLen) :
    Calls Tryz.prog 89 #[.agg #[.string x.1, .int .i64 x.2.1, .int .i64 x.2.2]] w fun e w' => e = .returned (.bool (holdOk x)) ∧ Below w.heap.size w w' := by
  have HI1 := Lib.hid (fun w => specHoldIdOk_any x.1 w hs)
  have HI2 := Lib.hid (fun w => inB_any x.2.1 1 9007199254740992 w)
  have HT := Lib.hid (fun w => specTime_any x.2.2 w)
  have HD : Hid (holdOk x = (idOk x.1 && (inB x.2.1 1 9007199254740992 && timeB x.2.2))) := Lib.hid rfl
  generalize idOk x.1 = b1 at HI1 HD
  generalize inB x.2.1 1 9007199254740992 = b2 at HI2 HD
  generalize timeB x.2.2 = b3 at HT HD
  have HB0 : Hid (Below w.heap.size w (w.alloc (.cells #[.string x.1, .int .i64 x.2.1, .int .i64 x.2.2] 104))) := Lib.hid ((Below.refl _ _).alloc (Nat.le_refl _) _)
  rw [HD.out]
  cases b1
  · go_enter Tryz.func89, Tryz.ntmps89
    go_wp2_with fail
    refine (HI1.out _).mono ?_
    rintro e w1 ⟨rfl, rfl⟩
    go_wp2
    go_ret
    exact ⟨rfl, HB0.out⟩
  cases b2
  · go_enter Tryz.func89, Tryz.ntmps89
    go_wp2_with fail
    refine (HI1.out _).mono ?_
    rintro e w1 ⟨rfl, rfl⟩
    go_wp2_with fail
    refine (HI2.out _).mono ?_
    rintro e w1 ⟨rfl, rfl⟩
    go_wp2
    go_ret
    exact ⟨rfl, HB0.out⟩
  go_enter Tryz.func89, Tryz.ntmps89
  go_wp2_with fail
  refine (HI1.out _).mono ?_
  rintro e w1 ⟨rfl, rfl⟩
  go_wp2_with fail
  refine (HI2.out _).mono ?_
  rintro e w1 ⟨rfl, rfl⟩
  go_wp2_with fail
  refine (HT.out _).mono ?_
  rintro e w1 ⟨rfl, rfl⟩
  go_wp2
  go_ret
  exact ⟨rfl, HB0.out⟩
end Go.Proofs.YthnimmagaocipaaGreatDoor
