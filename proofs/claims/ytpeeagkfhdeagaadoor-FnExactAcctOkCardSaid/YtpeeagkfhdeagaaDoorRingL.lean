/- What chapter 7 asks of rings, as plain functions; rows of numbers under a store. No conditions. -/
import Derived.Test.YtpeeagkfhdeagaaDoorRingS
import Derived.Test.YtpeeagkfhdeagaaDoorRingF
import Derived.Test.YtpeeagkfhdeagaaDoorMem
import Derived.Test.YtpeeagkfhdeagaaDoorSatV
set_option linter.unusedVariables false
namespace Go.Proofs.YtpeeagkfhdeagaaDoor
open Go.ChangeShapes Go.WideShapes Go.ChangeAt Go.RowKit

/-- every element by so many places to the right -/
def shiftL (by_ : Nat) (l : List Int) : List Int := (List.range l.length).map fun i => if by_ ≤ i then l.getD (i - by_) 0 else 0
set_option maxRecDepth 100000 in
theorem shiftL_len (k : Nat) (l : List Int) : (shiftL k l).length = l.length := by simp [shiftL]
set_option maxRecDepth 100000 in
theorem shiftL_at {k i : Nat} {l : List Int} (h : i < l.length) : (shiftL k l)[i]? = some (if k ≤ i then l.getD (i - k) 0 else 0) := by
  unfold shiftL
  rw [List.getElem?_map, List.getElem?_range h]; rfl
/-- does the ring roll -/
def ringGo (r : RingD) (now : Int) : Bool := ringOk r && (timeB now && decide (r.2.1 < now / r.1))
def ringRoll (r : RingD) (now : Int) : RingD := if ringGo r now = true then (r.1, now / r.1, shiftL (now / r.1 - r.2.1).toNat r.2.2.1, shiftL (now / r.1 - r.2.1).toNat r.2.2.2) else r
def ringIn (r : RingD) (now amount : Int) : Bool := ringOk r && (timeB now && isMon amount)
def addOne (l : List Int) (n : Int) : List Int := l.set 0 (satVal (l.getD 0 0) n)
def ringAdd (r : RingD) (now amount : Int) : RingD := if ringIn r now amount = true then ((ringRoll r now).1, (ringRoll r now).2.1, addOne (ringRoll r now).2.2.1 1, addOne (ringRoll r now).2.2.2 amount) else r
def totalL (l : List Int) : Int := l.foldl satVal 0
def ringTotal (r : RingD) (now : Int) (sums : Bool) : Int := if (ringOk r && timeB now) = true then totalL (if sums = true then (ringRoll r now).2.2.2 else (ringRoll r now).2.2.1) else 0
set_option maxRecDepth 100000 in
theorem totalL_next {l : List Int} {i : Nat} {x : Int} (h : l[i]? = some x) : totalL (l.take (i + 1)) = satVal (totalL (l.take i)) x := by
  obtain ⟨hi, rfl⟩ := List.getElem?_eq_some_iff.1 h
  unfold totalL
  rw [List.take_succ_eq_append_getElem hi, List.foldl_append]
  rfl
set_option maxRecDepth 100000 in
theorem ringRoll_lc (r : RingD) (now : Int) : (ringRoll r now).2.2.1.length = r.2.2.1.length := by
  unfold ringRoll; split
  · exact shiftL_len _ _
  · rfl
set_option maxRecDepth 100000 in
theorem ringRoll_ls (r : RingD) (now : Int) : (ringRoll r now).2.2.2.length = r.2.2.2.length := by
  unfold ringRoll; split
  · exact shiftL_len _ _
  · rfl
set_option maxRecDepth 100000 in
theorem ringAdd_lc (r : RingD) (now a : Int) : (ringAdd r now a).2.2.1.length = r.2.2.1.length := by
  unfold ringAdd addOne; split
  · rw [List.length_set]; exact ringRoll_lc _ _
  · rfl
set_option maxRecDepth 100000 in
theorem ringAdd_ls (r : RingD) (now a : Int) : (ringAdd r now a).2.2.2.length = r.2.2.2.length := by
  unfold ringAdd addOne; split
  · rw [List.length_set]; exact ringRoll_ls _ _
  · rfl
set_option maxRecDepth 100000 in
theorem ringOk_len {r : RingD} (h : ringOk r = true) : 1 ≤ r.1 ∧ r.1 ≤ 1000 ∧ 1 ≤ r.2.2.1.length ∧ r.2.2.1.length ≤ 8 ∧ r.2.2.2.length = r.2.2.1.length ∧ 0 ≤ r.2.1 ∧ r.2.1 ≤ 1000000000 := by
  unfold ringOk ringHead timeB inB at h
  simp only [Bool.and_eq_true, decide_eq_true_eq] at h
  omega
set_option maxRecDepth 100000 in
/-- element j of a row of one's own: its cell, free to be written -/
theorem nums.own_at {K : IntKind} {lo hi : Nat} {w : World} {A : Option Addr} {n c : Nat} {l : List Int} (h : nums K lo hi w (.slice A n c) l) {j : Nat} (hj : j < l.length) :
    ∃ b off : Nat, A = some ⟨b, off, none⟩ ∧ lo ≤ b ∧ b < hi ∧ w.cell? ⟨b, off + j, none⟩ = some (.int K (l.getD j 0)) ∧ w.frozen? ⟨b, off + j, none⟩ = false ∧ Proofs.YtpeeagkfhdeagaaDoor.blk (.slice A n c) = some b := by
  obtain ⟨A', c', hv, hc, hh⟩ := h
  simp only [Value.slice.injEq] at hv
  obtain ⟨rfl, rfl, rfl⟩ := hv
  obtain ⟨b, off, rfl, h1, h2, h3, h4⟩ := hh j hj
  refine ⟨b, off, rfl, h1, h2, h3, h4, ?_⟩
  cases hn : l.length with
  | zero => omega
  | succ n => rfl
set_option maxRecDepth 100000 in
/-- .. stored into -/
theorem nums.set {K : IntKind} {lo hi : Nat} {w : World} {b off n c : Nat} {l : List Int} (h : nums K lo hi w (.slice (some ⟨b, off, none⟩) n c) l) {j : Nat} (hj : j < l.length) (x : Int) :
    nums K lo hi (w.setCell ⟨b, off + j, none⟩ (.int K x)) (.slice (some ⟨b, off, none⟩) n c) (l.set j x) := by
  obtain ⟨A', c', hv, hc, hh⟩ := h
  simp only [Value.slice.injEq] at hv
  obtain ⟨rfl, rfl, rfl⟩ := hv
  refine ⟨some ⟨b, off, none⟩, c, by rw [List.length_set], by rw [List.length_set]; exact hc, fun i hi' => ?_⟩
  rw [List.length_set] at hi'
  obtain ⟨b', off', e, h1, h2, h3, h4⟩ := hh i hi'
  simp only [Option.some.injEq, Addr.mk.injEq, and_true] at e
  obtain ⟨rfl, rfl⟩ := e
  refine ⟨b, off, rfl, h1, h2, ?_, by simpa using h4⟩
  by_cases e : j = i
  · subst e
    rw [World.cell?_setCell_same _ _ _ h3, List.getD_eq_getElem?_getD, List.getElem?_set_self hj]
    rfl
  · rw [World.cell?_setCell_other _ _ _ _ (fun he => e (by have := congrArg Addr.off he; simp at this; omega)), h3, List.getD_eq_getElem?_getD, List.getD_eq_getElem?_getD, List.getElem?_set_ne e]
set_option maxRecDepth 100000 in
theorem nums.far {K : IntKind} {lo hi : Nat} {w : World} {v : Value} {l : List Int} (h : nums K lo hi w v l) {g o : Nat} (u : Value) (hg : Proofs.YtpeeagkfhdeagaaDoor.blk v ≠ some g) : nums K lo hi (w.setCell ⟨g, o, none⟩ u) v l := by
  obtain ⟨A, c, rfl, hc, hh⟩ := h
  refine ⟨A, c, rfl, hc, fun j hj => ?_⟩
  obtain ⟨b, off, rfl, h1, h2, h3, h4⟩ := hh j hj
  have hb : Proofs.YtpeeagkfhdeagaaDoor.blk (.slice (some ⟨b, off, none⟩) l.length c) = some b := by
    cases hn : l.length with
    | zero => omega
    | succ n => rfl
  refine ⟨b, off, rfl, h1, h2, ?_, by simpa using h4⟩
  rw [World.cell?_setCell_other _ _ _ _ (fun he => hg (by rw [hb]; exact congrArg some (by have := congrArg Addr.block he; simpa using this.symm)))]
  exact h3
set_option maxRecDepth 100000 in
theorem rd.farLow {K : IntKind} {hi : Nat} {w : World} {v : Value} {l : List Int} (h : rd K hi w v l) {g o : Nat} (u : Value) (hg : hi ≤ g) : rd K hi (w.setCell ⟨g, o, none⟩ u) v l := by
  obtain ⟨A, c, rfl, hc, hh⟩ := h
  refine ⟨A, c, rfl, hc, fun j hj => ?_⟩
  obtain ⟨b, off, rfl, h1, h2⟩ := hh j hj
  refine ⟨b, off, rfl, h1, ?_⟩
  rw [World.cell?_setCell_other _ _ _ _ (fun he => by have := congrArg Addr.block he; simp at this; omega)]
  exact h2
/-- a ring as it is given back -/
def ringOne (r : RingD) (w : World) (e : Ending) (w' : World) : Prop := ∃ vc vs, e = .returned (.agg #[.int .i64 r.1, .int .i64 r.2.1, vc, vs]) ∧ RingR.mine w.heap.size w'.heap.size w' [.int .i64 r.1, .int .i64 r.2.1, vc, vs] r ∧ Below w.heap.size w w'
end Go.Proofs.YtpeeagkfhdeagaaDoor
