/- The contracts about rings in one word for a ring's memory; no conditions. -/
import Derived.Test.YtpeeagkfhdeagaaGreatDoorRingT
set_option linter.unusedVariables false
namespace Go.Proofs.YtpeeagkfhdeagaaGreatDoor
open Go.ChangeShapes Go.WideShapes Go.ChangeAt Go.RowKit

set_option maxRecDepth 100000 in
theorem ring2 {hi : Nat} {w : World} {x y : Int} {vc vs : Value} {r : RingD} (h : RingR.rd hi w [.int .i64 x, .int .i64 y, vc, vs] r) : rd .i64 hi w vc r.2.2.1 ∧ rd .i64 hi w vs r.2.2.2 := by
  obtain ⟨c, s, e, h1, h2⟩ := ring_rd h
  simp only [List.cons.injEq, and_true] at e
  obtain ⟨-, -, rfl, rfl⟩ := e
  exact ⟨h1, h2⟩
set_option maxRecDepth 100000 in
theorem ring_mk {hi : Nat} {w : World} {vc vs : Value} {r : RingD} (h1 : rd .i64 hi w vc r.2.2.1) (h2 : rd .i64 hi w vs r.2.2.2) : RingR.rd hi w [.int .i64 r.1, .int .i64 r.2.1, vc, vs] r := ring_rd_of h1 h2
set_option maxRecDepth 100000 in
theorem ringOwn {lo hi : Nat} {w : World} {x y : Int} {vc vs : Value} {r : RingD} (h : RingR.mine lo hi w [.int .i64 x, .int .i64 y, vc, vs] r) : nums .i64 lo hi w vc r.2.2.1 ∧ nums .i64 lo hi w vs r.2.2.2 ∧ ∀ b, blk vc = some b → blk vs ≠ some b := by
  obtain ⟨c, s, e, h1, h2, h3⟩ := ring_mine h
  simp only [List.cons.injEq, and_true] at e
  obtain ⟨-, -, rfl, rfl⟩ := e
  exact ⟨h1, h2, h3⟩
/-- a ring whose buckets are marked -/
def markedR (r : RingD) (k : Int) : RingD := (r.1, r.2.1, marksL (fun x => x) k r.2.2.1.length, marksL (fun x => x) (k + r.2.2.1.length) r.2.2.2.length)
set_option maxRecDepth 100000 in
theorem eqRing_r {hi1 hi2 : Nat} {vc vs vc' vs' : Value} {r : RingD} {w : World} (h : RingR.rd hi1 w [.int .i64 r.1, .int .i64 r.2.1, vc, vs] r) (h' : RingR.rd hi2 w [.int .i64 r.1, .int .i64 r.2.1, vc', vs'] r) (hh1 : hi1 ≤ w.heap.size) (hh2 : hi2 ≤ w.heap.size) (hc : r.2.2.1.length ≤ 1048576) (hs : r.2.2.2.length ≤ 1048576) :
    Calls Tryz.prog 31 #[.agg #[.int .i64 r.1, .int .i64 r.2.1, vc, vs], .agg #[.int .i64 r.1, .int .i64 r.2.1, vc', vs']] w fun e w' => e = .returned (.bool true) ∧ Below w.heap.size w w' :=
  eqRing_any hi1 hi2 vc vs vc' vs' r w (ring2 h).1 (ring2 h).2 (ring2 h').1 (ring2 h').2 hh1 hh2 hc hs
set_option maxRecDepth 100000 in
theorem toRing_r {hi : Nat} {vc vs : Value} {r : RingD} {w : World} (h : RingR.rd hi w [.int .i64 r.1, .int .i64 r.2.1, vc, vs] r) (hh : hi ≤ w.heap.size) (hc : r.2.2.1.length ≤ 1048576) (hs : r.2.2.2.length ≤ 1048576) :
    Calls Tryz.prog 24 #[.agg #[.int .i64 r.1, .int .i64 r.2.1, vc, vs]] w (ringOne r w) := toRing_any hi vc vs r w (ring2 h).1 (ring2 h).2 hh hc hs
set_option maxRecDepth 100000 in
theorem markRing_r {lo hi : Nat} {vc vs : Value} {r : RingD} (k : Int) {w : World} (hk0 : 0 ≤ k) (hk1 : k ≤ 1000000000) (h : RingR.mine lo hi w [.int .i64 r.1, .int .i64 r.2.1, vc, vs] r) (hh : hi ≤ w.heap.size) (hc : r.2.2.1.length ≤ 1048576) (hs : r.2.2.2.length ≤ 1048576) :
    Calls Tryz.prog 38 #[.agg #[.int .i64 r.1, .int .i64 r.2.1, vc, vs], .int .i64 k] w fun e w' => e = .returned (.int .i64 (k + r.2.2.1.length + r.2.2.2.length)) ∧ RingR.mine lo hi w' [.int .i64 r.1, .int .i64 r.2.1, vc, vs] (markedR r k) ∧ Turned lo hi w w' :=
  (markRing_any lo hi vc vs r k w hk0 hk1 (ringOwn h).1 (ringOwn h).2.1 (ringOwn h).2.2 hh hc hs).mono fun _ _ ⟨e, h1, h2, h3⟩ => ⟨e, ring_mine_of h1 h2 (ringOwn h).2.2, h3⟩
set_option maxRecDepth 100000 in
theorem heldRing_r {hi : Nat} {vc vs : Value} (r : RingD) {k : Int} {w : World} (hk0 : 0 ≤ k) (hk1 : k ≤ 1000000000) (h : RingR.rd hi w [.int .i64 r.1, .int .i64 r.2.1, vc, vs] (markedR r k)) (hh : hi ≤ w.heap.size) (hc : r.2.2.1.length ≤ 1048576) (hs : r.2.2.2.length ≤ 1048576) :
    Calls Tryz.prog 41 #[.agg #[.int .i64 r.1, .int .i64 r.2.1, vc, vs], .int .i64 k] w fun e w' => e = .returned (.int .i64 (k + r.2.2.1.length + r.2.2.2.length)) ∧ Below w.heap.size w w' :=
  heldRing_any hi vc vs r.1 r.2.1 r.2.2.1.length r.2.2.2.length k w hk0 hk1 (ring2 h).1 (ring2 h).2 hh hc hs
set_option maxRecDepth 100000 in
theorem szRing_r {hi : Nat} {vc vs : Value} {r : RingD} {left : Int} {w : World} (h : RingR.rd hi w [.int .i64 r.1, .int .i64 r.2.1, vc, vs] r) (hc : r.2.2.1.length ≤ maxLen) (hs : r.2.2.2.length ≤ maxLen) (hl0 : 0 ≤ left) (hl1 : left ≤ 1048576) :
    Calls Tryz.prog 18 #[.agg #[.int .i64 r.1, .int .i64 r.2.1, vc, vs], .int .i64 left] w fun e w' => ∃ q : Int, e = .returned (.int .i64 q) ∧ (q = -1 ∨ (q = left - ringSz r ∧ 0 ≤ q)) ∧ Below w.heap.size w w' :=
  szRing_any vc vs r left w (ring2 h).1 (ring2 h).2 hc hs hl0 hl1
end Go.Proofs.YtpeeagkfhdeagaaGreatDoor
