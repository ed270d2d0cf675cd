/- RingOk of the reference; no conditions. -/
import Derived.Test.YtpeeagkfhdeagaaRing
import Derived.Test.YtpeeagkfhdeagaaMon
set_option linter.unusedVariables false
namespace Go.Proofs.Ytpeeagkfhdeagaa
open Go.ChangeShapes Go.WideShapes Go.ChangeAt Go.RowKit

def inB (n lo hi : Int) : Bool := decide (lo ≤ n ∧ n ≤ hi)
def timeB (n : Int) : Bool := inB n 0 1000000000
/-- the four tests of a ring ahead of its buckets -/
def ringHead (r : RingD) : Bool := inB r.1 1 1000 && (inB (r.2.2.1.length : Int) 1 8 && (decide (r.2.2.2.length = r.2.2.1.length) && timeB r.2.1))
def ringOk (r : RingD) : Bool := ringHead r && (r.2.2.1.all isMon && r.2.2.2.all isMon)
set_option maxRecDepth 100000 in
theorem ring_at {hi : Nat} {w : World} {A : Option Addr} {n c : Nat} {l : List Int} (h : rd .i64 hi w (.slice A n c) l) {j : Nat} {x : Int} (hx : l[j]? = some x) : ∃ b off : Nat, A = some ⟨b, off, none⟩ ∧ b < hi ∧ w.cell? ⟨b, off + j, none⟩ = some (.int .i64 x) := by
  obtain ⟨A', c', hv, hc, hj⟩ := h
  simp only [Value.slice.injEq] at hv
  obtain ⟨rfl, -, -⟩ := hv
  obtain ⟨b, off, e, h1, h2⟩ := hj j (List.getElem?_eq_some_iff.1 hx).1
  rw [List.getD_eq_getElem?_getD, hx] at h2
  exact ⟨b, off, e, h1, h2⟩
set_option maxRecDepth 100000 in
theorem all_snoc {l : List Int} {i : Nat} {x : Int} (hx : l[i]? = some x) (h : (l.take i).all isMon = true) : isMon x = true → (l.take (i + 1)).all isMon = true := fun hm => by
  obtain ⟨hi, rfl⟩ := List.getElem?_eq_some_iff.1 hx
  rw [List.take_succ_eq_append_getElem hi, List.all_append, h]
  simp [hm]
set_option maxRecDepth 100000 in
theorem all_fail {l : List Int} {i : Nat} {x : Int} (hx : l[i]? = some x) : isMon x = false → l.all isMon = false := fun hm => by
  rw [List.all_eq_false]
  exact ⟨x, List.mem_of_getElem? hx, by simp [hm]⟩
set_option maxRecDepth 100000 in
theorem ring_no {r : RingD} (h : ringHead r = false) : ringOk r = false := by simp [ringOk, h]

end Go.Proofs.Ytpeeagkfhdeagaa
