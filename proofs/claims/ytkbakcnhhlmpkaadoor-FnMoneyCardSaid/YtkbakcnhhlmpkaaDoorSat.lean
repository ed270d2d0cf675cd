/- AddSat: both functions return the saturating sum; the program's error variable and the library's table of type handles hold what their texts lay. -/
import Derived.Test.YtkbakcnhhlmpkaaDoorAsHit
import Derived.Test.YtkbakcnhhlmpkaaDoorAdd
import Derived.Test.YtkbakcnhhlmpkaaDoorSatV
set_option linter.unusedVariables false
namespace Go.Proofs.YtkbakcnhhlmpkaaDoor
open Go.ChangeShapes Go.WideShapes Go.ChangeAt Go.RowKit

set_option maxRecDepth 100000 in
theorem specClamp_any (n : Int) (w : World) : Calls Tryd.prog 42 #[.int .i64 n, .int .i64 0, .int .i64 4611686018427387904] w fun e w' => e = .returned (.int .i64 (clampM n)) ∧ w = w' := by
  by_cases h0 : n < 0
  · have hv : clampM n = 0 := by unfold clampM; rw [if_pos h0]
    rw [hv]; clear hv
    go_enter Tryd.func42, Tryd.ntmps42
    go_wp2
    go_ret
    exact ⟨rfl, rfl⟩
  · by_cases h1 : 4611686018427387904 < n
    · have hv : clampM n = 4611686018427387904 := by unfold clampM; rw [if_neg h0, if_pos h1]
      rw [hv]; clear hv
      go_enter Tryd.func42, Tryd.ntmps42
      go_wp2
      go_ret
      exact ⟨rfl, rfl⟩
    · have hv : clampM n = n := by unfold clampM; rw [if_neg h0, if_neg h1]
      rw [hv]; clear hv
      go_enter Tryd.func42, Tryd.ntmps42
      go_wp2
      go_ret
      exact ⟨rfl, rfl⟩

set_option maxRecDepth 100000 in
theorem implClamp_any (n : Int) (w : World) : Calls Tryd.prog 17 #[.int .i64 n] w fun e w' => e = .returned (.int .i64 (clampM n)) ∧ w = w' := by
  by_cases h0 : n < 0
  · have hv : clampM n = 0 := by unfold clampM; rw [if_pos h0]
    rw [hv]; clear hv
    go_enter Tryd.func17, Tryd.ntmps17
    go_wp2
    go_ret
    exact ⟨ret_int (by omega), rfl⟩
  · by_cases h1 : 4611686018427387904 < n
    · have hv : clampM n = 4611686018427387904 := by unfold clampM; rw [if_neg h0, if_pos h1]
      rw [hv]; clear hv
      go_enter Tryd.func17, Tryd.ntmps17
      go_wp2
      go_ret
      exact ⟨ret_int (by omega), rfl⟩
    · have hv : clampM n = n := by unfold clampM; rw [if_neg h0, if_neg h1]
      rw [hv]; clear hv
      go_enter Tryd.func17, Tryd.ntmps17
      go_wp2
      go_ret
      exact ⟨ret_int (by omega), rfl⟩

set_option maxRecDepth 100000 in
theorem specSat_any (a b : Int) (w : World) : Calls Tryd.prog 24 #[.int .i64 a, .int .i64 b] w fun e w' => e = .returned (.int .i64 (satVal a b)) ∧ w = w' := by
  cases hk : addOk (clampM a) (clampM b)
  · have hv : satVal a b = 4611686018427387904 := by simp [satVal, hk]
    rw [hv]; clear hv
    go_enter Tryd.func24, Tryd.ntmps24
    go_wp2_with (first | (go_at_call 42; refine (specClamp_any _ _).mono ?_; rintro e w' ⟨rfl, rfl⟩) | (go_at_call 41; refine (specAdd_any _ _ _).mono ?_; rintro e w' ⟨rfl, rfl⟩))
    go_ret
    exact ⟨rfl, rfl⟩
  · have hv : satVal a b = addVal (clampM a) (clampM b) := by simp [satVal, hk, addVal]
    rw [hv]; clear hv
    go_enter Tryd.func24, Tryd.ntmps24
    go_wp2_with (first | (go_at_call 42; refine (specClamp_any _ _).mono ?_; rintro e w' ⟨rfl, rfl⟩) | (go_at_call 41; refine (specAdd_any _ _ _).mono ?_; rintro e w' ⟨rfl, rfl⟩))
    go_ret
    exact ⟨rfl, rfl⟩

set_option maxRecDepth 100000 in
theorem implSat_any (a b : Int) (w : World) (hg : w.cell? ⟨2, 0, none⟩ = some (.iface RT (.agg #[.pointer (some ⟨6, ER, none⟩)]))) :
    Calls Tryd.prog 9 #[.int .i64 a, .int .i64 b] w fun e w' => e = .returned (.int .i64 (satVal a b)) ∧ Below w.heap.size w w' := by
  have ha := clampM_mon a
  have hb := clampM_mon b
  have hlt : 2 < w.heap.size := by
    rcases Nat.lt_or_ge 2 w.heap.size with h | h
    · exact h
    · simp [World.cell?, Array.getElem?_eq_none h] at hg
  by_cases hover : 4611686018427387904 - clampM b < clampM a
  · have hk : addOk (clampM a) (clampM b) = false := by unfold addOk; rw [decide_eq_false (by omega)]; simp
    have hv : satVal a b = 4611686018427387904 := by simp [satVal, hk]
    rw [hv]; clear hv hk
    go_enter Tryd.func9, Tryd.ntmps9
    go_wp2_with (first | (go_at_call 17; refine (implClamp_any _ _).mono ?_; rintro e w' ⟨rfl, rfl⟩) | (go_at_call 13; refine (sum_over _ _ _ ha hb hover).mono ?_; rintro e w' ⟨rfl, rfl⟩))
    go_wp2_with fail
    have hgA : (w.alloc (.cells #[.int .i64 0] OV)).cell? ⟨2, 0, none⟩ = some (.iface RT (.agg #[.pointer (some ⟨6, ER, none⟩)])) := cell?_alloc_old _ hg
    have hTA : (w.alloc (.cells #[.int .i64 0] OV)).heap[w.heap.size]? = some (.cells #[.int .i64 0] OV (0, 0)) := by
      show (w.heap.push _)[w.heap.size]? = _
      simp
    refine (as_hit w.heap.size (.int .i64 0) _ hgA hTA).mono ?_
    rintro e w1 ⟨rfl, rfl⟩
    go_wp2
    go_ret
    exact ⟨rfl, by go_grown⟩
  · have hk : addOk (clampM a) (clampM b) = true := by unfold addOk; rw [ha, hb, decide_eq_true (by omega)]; rfl
    have hv : satVal a b = clampM a + clampM b := by simp [satVal, hk]
    rw [hv]; clear hv hk
    go_enter Tryd.func9, Tryd.ntmps9
    go_wp2_with fail
    refine (implClamp_any _ _).mono ?_
    rintro e w' ⟨rfl, rfl⟩
    go_wp2_with fail
    refine (implClamp_any _ _).mono ?_
    rintro e w' ⟨rfl, rfl⟩
    go_wp2_with fail
    refine (sum_ok _ _ _ ha hb (by omega)).mono ?_
    rintro e w' ⟨rfl, rfl⟩
    go_wp2_with fail
    refine (as_nil _ _).mono ?_
    rintro e w' ⟨rfl, rfl⟩
    go_wp2
    go_ret
    exact ⟨rfl, (Below.refl _ _).alloc (Nat.le_refl _) _⟩
end Go.Proofs.YtkbakcnhhlmpkaaDoor
