/- SubMoney of the program and of the reference return the same two values; no conditions. -/
import Derived.Test.YtbaefbkjobpnnaaRows
import Derived.WalkKit
import Derived.ProofKit
import Derived.OpenShut
import Derived.Outline
import Derived.BigQuiet
import Derived.Deep.QuietTactic
import Derived.WalkLawsBesides
namespace Go.Proofs.Ytbaefbkjobpnnaa
open Go.ChangeShapes Go.WideShapes Go.ChangeAt Go.RowKit

/-- is n money? -/
def isMon (n : Int) : Bool := decide (0 ≤ n) && decide (n ≤ 4611686018427387904)

theorem isMon_true {n : Int} (h : isMon n = true) : 0 ≤ n ∧ n ≤ 4611686018427387904 := by
  simpa [isMon] using h
theorem isMon_false {n : Int} (h : isMon n = false) : n < 0 ∨ 4611686018427387904 < n := by
  simp [isMon] at h
  by_cases h0 : 0 ≤ n
  · exact Or.inr (h h0)
  · exact Or.inl (by omega)

theorem l01Money_any (n : Int) (w : World) : Calls Try.prog 24 #[.int .i64 n] w fun e w' => e = .returned (.bool (isMon n)) ∧ w = w' := by
  by_cases h0 : 0 ≤ n
  all_goals
    go_enter Try.func24, Try.ntmps24
    go_wp2
    go_ret
    exact ⟨by simp [isMon]; omega, rfl⟩

theorem isMoney_any (n : Int) (w : World) : Calls Try.prog 25 #[.int .i64 n] w fun e w' => e = .returned (.bool (isMon n)) ∧ w = w' := by
  by_cases h0 : 0 ≤ n
  all_goals
    go_enter Try.func25, Try.ntmps25
    go_wp2
    go_ret
    exact ⟨by simp [isMon]; omega, rfl⟩

/-- the difference of two amounts, where it is one -/
def subOk (a b : Int) : Bool := isMon a && isMon b && decide (b ≤ a)
def subVal (a b : Int) : Int := if subOk a b = true then a - b else 0

set_option maxHeartbeats 400000 in
theorem specSub_any (a b : Int) (w : World) : Calls Try.prog 13 #[.int .i64 a, .int .i64 b] w fun e w' => e = .returned (.tuple #[.int .i64 (subVal a b), .bool (subOk a b)]) ∧ w = w' := by
  cases ha : isMon a
  · go_enter Try.func13, Try.ntmps13
    go_wp2_with (go_at_call 24; refine (l01Money_any _ _).mono ?_; rintro e w' ⟨rfl, rfl⟩)
    go_ret2
    exact ⟨by simp [subVal, subOk, ha], rfl⟩
  cases hb : isMon b
  · go_enter Try.func13, Try.ntmps13
    go_wp2_with (go_at_call 24; refine (l01Money_any _ _).mono ?_; rintro e w' ⟨rfl, rfl⟩)
    go_ret2
    exact ⟨by simp [subVal, subOk, hb], rfl⟩
  have h1 := isMon_true ha
  have h2 := isMon_true hb
  by_cases hlt : a < b
  all_goals
    go_enter Try.func13, Try.ntmps13
    go_wp2_with (go_at_call 24; refine (l01Money_any _ _).mono ?_; rintro e w' ⟨rfl, rfl⟩)
    go_ret2
    exact ⟨by simp [subVal, subOk, ha, hb]; omega, rfl⟩
set_option maxHeartbeats 400000 in
theorem implSub_any (a b : Int) (w : World) : Calls Try.prog 14 #[.int .i64 a, .int .i64 b] w fun e w' => e = .returned (.tuple #[.int .i64 (subVal a b), .bool (subOk a b)]) ∧ w = w' := by
  cases ha : isMon a
  · go_enter Try.func14, Try.ntmps14
    go_wp2_with (go_at_call 25; refine (isMoney_any _ _).mono ?_; rintro e w' ⟨rfl, rfl⟩)
    go_ret2
    exact ⟨by simp [subVal, subOk, ha], rfl⟩
  cases hb : isMon b
  · go_enter Try.func14, Try.ntmps14
    go_wp2_with (go_at_call 25; refine (isMoney_any _ _).mono ?_; rintro e w' ⟨rfl, rfl⟩)
    go_ret2
    exact ⟨by simp [subVal, subOk, hb], rfl⟩
  have h1 := isMon_true ha
  have h2 := isMon_true hb
  by_cases hlt : a < b
  all_goals
    go_enter Try.func14, Try.ntmps14
    go_wp2_with (go_at_call 25; refine (isMoney_any _ _).mono ?_; rintro e w' ⟨rfl, rfl⟩)
    go_ret2
    exact ⟨by simp [subVal, subOk, ha, hb]; omega, rfl⟩
end Go.Proofs.Ytbaefbkjobpnnaa
