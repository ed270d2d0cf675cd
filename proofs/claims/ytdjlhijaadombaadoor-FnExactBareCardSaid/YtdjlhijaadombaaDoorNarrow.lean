/- Narrow: both functions return the number that 1 to 18 digits denote; the program's error variable holds an error. -/
import Derived.Test.YtdjlhijaadombaaDoorScan
import Derived.Test.YtdjlhijaadombaaDoorDigS
set_option linter.unusedVariables false
namespace Go.Proofs.YtdjlhijaadombaaDoor
open Go.ChangeShapes Go.WideShapes Go.ChangeAt Go.RowKit

def narOk (s : ByteArray) : Bool := digs s && decide (s.size ≤ 18)
def narVal (s : ByteArray) : Int := if narOk s = true then decOf s.data.toList else 0

set_option maxRecDepth 100000 in
theorem dec_lt (l : List UInt8) : ∀ (n : Int), l.all isDig = true → l.foldl decStep n + 1 ≤ (n + 1) * 10 ^ l.length := by
  induction l with
  | nil => intro n _; simp
  | cons c l ih =>
    intro n hd
    simp only [List.all_cons, Bool.and_eq_true] at hd
    have h1 := (isDig_iff c).1 hd.1
    have h2 := ih (decStep n c) hd.2
    have h3 : decStep n c + 1 ≤ (n + 1) * 10 := by unfold decStep; omega
    have h4 : (decStep n c + 1) * 10 ^ l.length ≤ (n + 1) * 10 * 10 ^ l.length := Int.mul_le_mul_of_nonneg_right h3 (Int.pow_nonneg (by decide))
    have h5 : (n + 1) * 10 * 10 ^ l.length = (n + 1) * 10 ^ (c :: l).length := by rw [List.length_cons, Int.pow_succ, Int.mul_assoc, Int.mul_comm 10]
    simp only [List.foldl_cons]
    omega
set_option maxRecDepth 100000 in
theorem dec_18 (s : ByteArray) (h : digs s = true) (h18 : s.size ≤ 18) : decOf s.data.toList ≤ 999999999999999999 := by
  have h1 := dec_lt s.data.toList 0 (digs_all h)
  have h2 : (10 : Int) ^ s.data.toList.length ≤ 10 ^ 18 := by
    have hl : s.data.toList.length ≤ 18 := by simpa using h18
    generalize s.data.toList.length = m at hl
    have : ∀ m ≤ 18, (10 : Int) ^ m ≤ 10 ^ 18 := by decide +kernel
    exact this m hl
  have h3 : (10 : Int) ^ 18 = 1000000000000000000 := by decide +kernel
  unfold decOf
  omega
set_option maxRecDepth 100000 in
theorem nar_scan {s : ByteArray} (h : narOk s = true) : scanOk s = true ∧ decOf s.data.toList ≤ 999999999999999999 ∧ digs s = true ∧ s.size ≤ 18 := by
  simp only [narOk, Bool.and_eq_true, decide_eq_true_eq] at h
  have h1 := dec_18 s h.1 h.2
  refine ⟨?_, h1, h.1, h.2⟩
  simp only [scanOk, h.1, Bool.true_and]
  exact decide_eq_true (by omega)

set_option maxRecDepth 100000 in
set_option maxHeartbeats 400000 in
theorem implNarrow_any (s : ByteArray) (w : World) (p : Addr) (hg : 2 < w.heap.size) (hc : w.cell? ⟨2, 0, none⟩ = some (.iface 114 (.pointer (some p)))) :
    Calls Tryd.prog 62 #[.string s] w fun e w' => e = .returned (.tuple #[.int .i64 (narVal s), .bool (narOk s)]) ∧ Below w.heap.size w w' := by
  by_cases h18 : (18 : Int) < (s.size : Int)
  · have hn : narOk s = false := by
      have : decide (s.size ≤ 18) = false := decide_eq_false (by omega)
      simp [narOk, this]
    have hv : narVal s = 0 := by simp [narVal, hn]
    rw [hv, hn]
    clear hn hv
    go_enter Tryd.func62, Tryd.ntmps62
    go_wp2
    go_ret2
    exact ⟨rfl, Below.refl _ _⟩
  · cases hd : digs s
    · have hn : narOk s = false := by simp [narOk, hd]
      have hv : narVal s = 0 := by simp [narVal, hn]
      have hsc := scan_bad s hd
      rw [hv, hn]
      clear hn hv
      go_enter Tryd.func62, Tryd.ntmps62
      go_wp2_with fail
      refine (scan_any s _ p hg hc).mono ?_
      rintro e w1 ⟨hse, hb⟩
      unfold scanEnd at hse
      rw [if_neg (by simp [hsc])] at hse
      obtain ⟨t, v, rfl⟩ := hse
      go_wp2
      go_quiet (fail)
      go_wp2
      go_ret2
      exact ⟨rfl, below_drewN hb _⟩
    · have hn : narOk s = true := by
        have : decide (s.size ≤ 18) = true := decide_eq_true (by omega)
        simp [narOk, hd, this]
      have hv : narVal s = decOf s.data.toList := by simp [narVal, hn]
      have hsc := (nar_scan hn).1
      rw [hv, hn]
      clear hn hv
      go_enter Tryd.func62, Tryd.ntmps62
      go_wp2_with fail
      refine (scan_any s _ p hg hc).mono ?_
      rintro e w1 ⟨hse, hb⟩
      unfold scanEnd at hse
      rw [if_pos hsc] at hse
      subst hse
      go_wp2
      go_quiet (fail)
      go_wp2
      go_ret2
      exact ⟨rfl, below_drewN hb _⟩
end Go.Proofs.YtdjlhijaadombaaDoor
