/- appendHalves: a byte for every two halves; no conditions. -/
import Derived.Test.YtdjlhijaadombaaDoorNumsB
import Derived.Test.YtdjlhijaadombaaDoorAll
import Derived.Deep.RegionHeld3
import Derived.Deep.RegionLaw
import Derived.Deep.DrawnRows
import Derived.IntWalk
set_option linter.unusedVariables false
namespace Go.Proofs.YtdjlhijaadombaaDoor
open Go.ChangeShapes Go.WideShapes Go.ChangeAt Go.RowKit

/-- two halves a byte -/
def pairs (L : List Int) (n : Nat) : List Int := (List.range n).map fun i => 16 * L.getD (2 * i) 0 + L.getD (2 * i + 1) 0
set_option maxRecDepth 100000 in
theorem pairs_len (L : List Int) (n : Nat) : (pairs L n).length = n := by simp [pairs]
set_option maxRecDepth 100000 in
theorem pairs_step (L : List Int) (n : Nat) : pairs L (n + 1) = pairs L n ++ [16 * L.getD (2 * n) 0 + L.getD (2 * n + 1) 0] := by simp [pairs, List.range_succ]
set_option maxRecDepth 100000 in
theorem byte_or' : ∀ x < 16, ∀ y < 16, bits BinOp.or IntKind.u8 (IntKind.u8.wrap (((x : Nat) : Int) * 16)) ((y : Nat) : Int) = 16 * ((x : Nat) : Int) + ((y : Nat) : Int) := by decide +kernel
set_option maxRecDepth 100000 in
theorem byte_or {x y : Int} (hx0 : 0 ≤ x) (hx1 : x ≤ 15) (hy0 : 0 ≤ y) (hy1 : y ≤ 15) : bits BinOp.or IntKind.u8 (IntKind.u8.wrap (x * 16)) y = 16 * x + y := by
  have := byte_or' x.toNat (by omega) y.toNat (by omega)
  rwa [Int.toNat_of_nonneg hx0, Int.toNat_of_nonneg hy0] at this
def halvesOk (L : List Int) : Prop := ∀ i, 0 ≤ L.getD i 0 ∧ L.getD i 0 ≤ 15

set_option maxRecDepth 100000 in
set_option maxHeartbeats 1600000 in
theorem halves_any (hi : Nat) (v : Value) (L : List Int) (w : World) (hn : L.length ≤ 1073741824) (hl : halvesOk L) (h : rd .u8 hi w v L) (hhi : hi ≤ w.heap.size) :
    Calls Tryd.prog 56 #[.slice none 0 0, v] w fun e w' => ∃ u, e = .returned u ∧ ow 5 .u8 w.heap.size w' u (pairs L (L.length / 2)) ∧ Below w.heap.size w w' := by
  obtain ⟨A, c, rfl, hc, h⟩ := h
  have HR := Lib.hid h
  clear h
  go_enter Tryd.func56, Tryd.ntmps56
  go_wp2
  go_loopw [0, 5, 9] (fun bv _ iv wr => ∃ k : Nat, k ≤ L.length / 2 ∧ iv = .int .i64 k ∧ wr.ownsRow w.heap.size 5 1 bv (pairs L k).length ((pairs L k).map (Value.int .u8)) ∧ Below w.heap.size w wr) (fun _ _ iv _ => L.length / 2 - (intOf iv).toNat)
  case atStart => exact ⟨0, Nat.zero_le _, rfl, ⟨rfl, Or.inl ⟨rfl, rfl⟩⟩, Below.refl _ _⟩
  case round =>
    obtain ⟨k, hk, rfl, hown, hb⟩ := hrel
    by_cases hlt : k < L.length / 2
    · obtain ⟨b, off, rfl, hbl, hc1⟩ := HR.out (2 * k) (by omega)
      obtain ⟨b', off', e, hbl', hc2⟩ := HR.out (2 * k + 1) (by omega)
      simp only [Option.some.injEq, Addr.mk.injEq, and_true] at e
      obtain ⟨rfl, rfl⟩ := e
      have hc1 := (hb.cell (p := ⟨b, off + 2 * k, none⟩) (show b < w.heap.size by omega)).trans hc1
      have hc2 := (hb.cell (p := ⟨b, off + (2 * k + 1), none⟩) (show b < w.heap.size by omega)).trans hc2
      have hx := hl (2 * k)
      have hy := hl (2 * k + 1)
      have HT := Lib.hid (pairs_step L k)
      have htl : (pairs L k).length + 1 ≤ 9223372036854775807 := by rw [pairs_len]; omega
      have htb : ((pairs L k).length + 1) * 1 ≤ 140737488355328 := by rw [pairs_len]; omega
      generalize pairs L k = M at hown HT htl htb
      generalize L.getD (2 * k) 0 = x at hx hc1 HT
      generalize L.getD (2 * k + 1) 0 = y at hy hc2 HT
      obtain ⟨hx0, hx1⟩ := hx
      obtain ⟨hy0, hy1⟩ := hy
      have g0 : (2 : Int) * (k : Int) + 1 < (L.length : Int) := by omega
      have g1 : (k : Int) < (L.length : Int) / 2 := by omega
      have g2 : 0 ≤ (k : Int) := by omega
      have q1 : IntKind.i64.wrap (2 * (k : Int)) = 2 * (k : Int) := IntWalk.i64_in _ (by omega)
      have q2 : IntKind.i64.wrap (2 * (k : Int) + 1) = 2 * (k : Int) + 1 := IntWalk.i64_in _ (by omega)
      have q3 : (2 * (k : Int)).toNat = 2 * k := by omega
      have q4 : (2 * (k : Int) + 1).toNat = 2 * k + 1 := by omega
      have q5 : (2 : Int) * (k : Int) < (L.length : Int) := by omega
      have q6 : (0 : Int) ≤ 2 * (k : Int) := by omega
      have q7 : (0 : Int) ≤ 2 * (k : Int) + 1 := by omega
      go_wp2
      go_region_law (refine app_one_step (Value.int .u8) (int_one .u8) 46 5 (.int .u8 0) 1 Tryd.underlying46 infoU8 rfl _ _ rfl (by rfl) w wr _ M _ (by rfl) (by rfl) hown hb htl htb ?_; intro v' w1 hown' hb')
      all_goals
        clear hown hb
        go_wp2
        go_roundw
        case rel => exact ⟨k + 1, by omega, by go_num, by rw [HT.out, ← byte_or hx0 hx1 hy0 hy1]; exact hown', hb'⟩
        case measure => simp [intOf] <;> omega
    · obtain rfl : k = L.length / 2 := by omega
      have HN := Lib.hid hown
      clear hown
      go_wp2
      go_ret
      exact ⟨_, rfl, HN.out, hb⟩
end Go.Proofs.YtdjlhijaadombaaDoor
