/- bytesAt: a part of a slice of bytes; no conditions. -/
import Derived.Test.YtdjlhijaadombaaGreatDoorNumsB
set_option linter.unusedVariables false
namespace Go.Proofs.YtdjlhijaadombaaGreatDoor
open Go.ChangeShapes Go.WideShapes Go.ChangeAt Go.RowKit

set_option maxRecDepth 100000 in
theorem bytesAt_no (hi : Nat) (v : Value) (l : List Int) (at' : Int) (n : Nat) (w : World) (hn : l.length ≤ 1073741824) (hn' : n ≤ 64) (h : rd .u8 hi w v l) (hbad : at' < 0 ∨ (l.length : Int) - n < at') :
    Calls Tryz.prog 84 #[v, .int .i64 at', .int .i64 (n : Int)] w fun e w' => e = .returned (.tuple #[.slice none 0 0, .bool false]) ∧ w = w' := by
  obtain ⟨A, c, rfl, hc, -⟩ := h
  by_cases h0 : at' < 0
  · go_enter Tryz.func84, Tryz.ntmps84
    go_wp2
    go_ret2
    exact ⟨rfl, rfl⟩
  · have h1 : (l.length : Int) - n < at' := by omega
    clear hbad
    go_enter Tryz.func84, Tryz.ntmps84
    go_wp2
    go_ret2
    exact ⟨rfl, rfl⟩
set_option maxRecDepth 100000 in
theorem rd_part {K : IntKind} {hi : Nat} {w : World} {b off c a n : Nat} {l : List Int} (hj : ∀ j, j < l.length → w.cell? ⟨b, off + j, none⟩ = some (.int K (l.getD j 0))) (hb : b < hi) (hc : l.length ≤ c) (han : a + n ≤ l.length) :
    rd K hi w (.slice (some ⟨b, off + a, none⟩) n (c - a)) ((l.drop a).take n) := by
  have hlen : ((l.drop a).take n).length = n := by simp; omega
  refine ⟨some ⟨b, off + a, none⟩, c - a, by rw [hlen], by rw [hlen]; omega, fun j hjn => ?_⟩
  rw [hlen] at hjn
  refine ⟨b, off + a, rfl, hb, ?_⟩
  rw [show off + a + j = off + (a + j) by omega, hj (a + j) (by omega)]
  congr 2
  rw [List.getD_eq_getElem?_getD, List.getD_eq_getElem?_getD, List.getElem?_take_of_lt hjn, List.getElem?_drop]
set_option maxRecDepth 100000 in
set_option maxHeartbeats 800000 in
theorem bytesAt_yes (hi : Nat) (v : Value) (l : List Int) (a n : Nat) (w : World) (hn : l.length ≤ 1073741824) (hn' : n ≤ 64) (h1 : 1 ≤ n) (h : rd .u8 hi w v l) (han : a + n ≤ l.length) :
    Calls Tryz.prog 84 #[v, .int .i64 (a : Int), .int .i64 (n : Int)] w fun e w' => ∃ u, e = .returned (.tuple #[u, .bool true]) ∧ rd .u8 hi w u ((l.drop a).take n) ∧ w = w' := by
  obtain ⟨A, c, rfl, hc, hj⟩ := h
  obtain ⟨b, off, rfl, hb, -⟩ := hj 0 (by omega)
  have hj' : ∀ j, j < l.length → w.cell? ⟨b, off + j, none⟩ = some (.int .u8 (l.getD j 0)) := fun j hjl => by
    obtain ⟨b', off', e, _, hx⟩ := hj j hjl
    simp only [Option.some.injEq, Addr.mk.injEq, and_true] at e
    obtain ⟨rfl, rfl⟩ := e
    exact hx
  have HR := Lib.hid (rd_part hj' hb hc han)
  have hca : ¬ c = a := by omega
  have q1 : (0 : Int) ≤ (a : Int) := by omega
  have q2 : (a : Int) + (n : Int) ≤ (c : Int) := by omega
  clear hj hj'
  go_enter Tryz.func84, Tryz.ntmps84
  go_wp2
  go_ret2
  refine ⟨_, rfl, ?_, rfl⟩
  show rd .u8 hi w (.slice (some ⟨b, off + a, none⟩) (a + n - a) (c - a)) _
  rw [Nat.add_sub_cancel_left]
  exact HR.out
end Go.Proofs.YtdjlhijaadombaaGreatDoor
