/- AddMoney of the program and of the reference return the same two values; the program's error variable holds an error. -/
import Derived.Test.YtpeeagkfhdeagaaGreatDoorMon
import Derived.BigQuiet
import Derived.Deep.QuietTactic
set_option linter.unusedVariables false
namespace Go.Proofs.YtpeeagkfhdeagaaGreatDoor
open Go.ChangeShapes Go.WideShapes Go.ChangeAt Go.RowKit

/-- the sum of two amounts, where it is one -/
def addOk (a b : Int) : Bool := isMon a && isMon b && decide (a ≤ 4611686018427387904 - b)
def addVal (a b : Int) : Int := if addOk a b = true then a + b else 0

/-- the program's error variable holds an error -/
def errAt (w : World) (g : Nat) : Prop := ∃ p : Addr, w.cell? ⟨g, 0, none⟩ = some (.iface 154 (.pointer (some p)))

set_option maxRecDepth 100000 in
theorem specAdd_any (a b : Int) (w : World) : Calls Tryz.prog 87 #[.int .i64 a, .int .i64 b] w fun e w' => e = .returned (.tuple #[.int .i64 (addVal a b), .bool (addOk a b)]) ∧ w = w' := by
  cases ha : isMon a
  · go_enter Tryz.func87, Tryz.ntmps87
    go_wp2_with (go_at_call 50; refine (l01Money_any _ _).mono ?_; rintro e w' ⟨rfl, rfl⟩)
    go_ret2
    exact ⟨by simp [addVal, addOk, ha], rfl⟩
  cases hb : isMon b
  · go_enter Tryz.func87, Tryz.ntmps87
    go_wp2_with (go_at_call 50; refine (l01Money_any _ _).mono ?_; rintro e w' ⟨rfl, rfl⟩)
    go_ret2
    exact ⟨by simp [addVal, addOk, hb], rfl⟩
  have h1 := isMon_true ha
  have h2 := isMon_true hb
  by_cases hlt : 4611686018427387904 - b < a
  all_goals
    go_enter Tryz.func87, Tryz.ntmps87
    go_wp2_with (go_at_call 50; refine (l01Money_any _ _).mono ?_; rintro e w' ⟨rfl, rfl⟩)
    go_ret2
    exact ⟨by simp [addVal, addOk, ha, hb]; omega, rfl⟩

set_option maxRecDepth 100000 in
theorem sum_bad (a b : Int) (w : World) (p : Addr) (hc : w.cell? ⟨0, 0, none⟩ = some (.iface 154 (.pointer (some p)))) (h : isMon a = false ∨ isMon b = false) :
    Calls Tryz.prog 107 #[.int .i64 a, .int .i64 b] w fun e w' => e = .returned (.tuple #[.int .i64 0, .iface 154 (.pointer (some p))]) ∧ ∃ n, w' = w.drewN n := by
  rcases h with ha | hb
  · go_enter Tryz.func107, Tryz.ntmps107
    go_wp2_with (go_at_call 115; refine (isMoney_any _ _).mono ?_; rintro e w' ⟨rfl, rfl⟩)
    go_quiet (fail)
    go_wp2
    go_ret2
    exact ⟨rfl, _, rfl⟩
  · cases ha : isMon a
    · go_enter Tryz.func107, Tryz.ntmps107
      go_wp2_with (go_at_call 115; refine (isMoney_any _ _).mono ?_; rintro e w' ⟨rfl, rfl⟩)
      go_quiet (fail)
      go_wp2
      go_ret2
      exact ⟨rfl, _, rfl⟩
    · go_enter Tryz.func107, Tryz.ntmps107
      go_wp2_with (go_at_call 115; refine (isMoney_any _ _).mono ?_; rintro e w' ⟨rfl, rfl⟩)
      go_quiet (fail)
      go_wp2
      go_ret2
      exact ⟨rfl, _, rfl⟩

set_option maxRecDepth 100000 in
theorem sum_over (a b : Int) (w : World) (ha : isMon a = true) (hb : isMon b = true) (h : 4611686018427387904 - b < a) :
    Calls Tryz.prog 107 #[.int .i64 a, .int .i64 b] w fun e w' => e = .returned (.tuple #[.int .i64 0, .iface 119 (.agg #[.int .i64 4611686018427387904])]) ∧ w = w' := by
  have h1 := isMon_true ha
  have h2 := isMon_true hb
  go_enter Tryz.func107, Tryz.ntmps107
  go_wp2_with (go_at_call 115; refine (isMoney_any _ _).mono ?_; rintro e w' ⟨rfl, rfl⟩)
  go_ret2
  exact ⟨rfl, rfl⟩

set_option maxRecDepth 100000 in
theorem sum_ok (a b : Int) (w : World) (ha : isMon a = true) (hb : isMon b = true) (h : ¬ 4611686018427387904 - b < a) :
    Calls Tryz.prog 107 #[.int .i64 a, .int .i64 b] w fun e w' => e = .returned (.tuple #[.int .i64 (a + b), .nilIface]) ∧ w = w' := by
  have h1 := isMon_true ha
  have h2 := isMon_true hb
  go_enter Tryz.func107, Tryz.ntmps107
  go_wp2_with (go_at_call 115; refine (isMoney_any _ _).mono ?_; rintro e w' ⟨rfl, rfl⟩)
  go_ret2
  exact ⟨rfl, rfl⟩

end Go.Proofs.YtpeeagkfhdeagaaGreatDoor
