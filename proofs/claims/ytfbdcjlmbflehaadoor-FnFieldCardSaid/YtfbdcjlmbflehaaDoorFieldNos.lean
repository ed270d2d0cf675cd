/- FieldNos of both: all field numbers in ascending order; no conditions. -/
import Derived.Test.YtfbdcjlmbflehaaDoorFieldAt
import Derived.Test.YtfbdcjlmbflehaaDoorNumsI
import Derived.Test.YtfbdcjlmbflehaaDoorApp
set_option linter.unusedVariables false
namespace Go.Proofs.YtfbdcjlmbflehaaDoor
open Go.ChangeShapes Go.WideShapes Go.ChangeAt Go.RowKit

def resI (L : List Int) (w : World) (e : Ending) (w' : World) : Prop := ∃ v, e = .returned v ∧ nums .i64 w.heap.size w'.heap.size w' v L ∧ Below w.heap.size w w'
def upTo (k : Nat) : List Int := ((List.range k).map fun (i : Nat) => (i : Int) + 1).filter fun n => fKind n != 0
set_option maxRecDepth 100000 in
theorem upTo_yes {k : Nat} (h : fKind ((k : Int) + 1) ≠ 0) : upTo (k + 1) = upTo k ++ [(k : Int) + 1] := by
  simp [upTo, List.range_succ, h]
set_option maxRecDepth 100000 in
theorem upTo_no {k : Nat} (h : fKind ((k : Int) + 1) = 0) : upTo (k + 1) = upTo k := by
  simp [upTo, List.range_succ, h]
set_option maxRecDepth 100000 in
theorem upTo_len (k : Nat) : (upTo k).length ≤ k := by
  unfold upTo
  exact Nat.le_trans (List.length_filter_le _ _) (by simp)
set_option maxRecDepth 100000 in
theorem upTo_all : upTo 128 = fNos := by decide +kernel

set_option maxRecDepth 100000 in
set_option maxHeartbeats 1600000 in
theorem specFieldNos_any (w : World) : Calls Tryd.prog 23 #[] w (resI fNos w) := by
  go_enter Tryd.func23, Tryd.ntmps23
  go_wp2
  go_loopw [1, 2] (fun bv iv wr => ∃ k : Nat, k ≤ 128 ∧ iv = .int .i64 ((k : Int) + 1) ∧ wr.ownsRow w.heap.size 3 1 bv (upTo k).length ((upTo k).map (Value.int .i64)) ∧ Below w.heap.size w wr) (fun _ iv _ => 129 - (intOf iv).toNat)
  case atStart =>
    refine ⟨0, Nat.zero_le _, rfl, ⟨rfl, Or.inr ⟨w.heap.size, 0, #[], rfl, Nat.le_refl _, ?_, Nat.le_refl _, Nat.zero_le _, rfl, rfl⟩⟩, (Below.refl _ _).alloc (Nat.le_refl _) _⟩
    show (w.heap.push _)[w.heap.size]? = _
    simp
  case round =>
    obtain ⟨k, hk, rfl, hown, hb⟩ := hrel
    by_cases hlt : k < 128
    · have g1 : (k : Int) + 1 ≤ 128 := by omega
      have hu := upTo_len k
      have htl : (upTo k).length + 1 ≤ 9223372036854775807 := by omega
      have htb : ((upTo k).length + 1) * 8 ≤ 140737488355328 := by omega
      by_cases hf : fKind ((k : Int) + 1) = 0
      · have HT : Hid (upTo (k + 1) = upTo k) := Lib.hid (upTo_no hf)
        have HF := Lib.hid hf
        have HO := Lib.hid hown
        clear hf hown
        go_wp2_with fail
        refine (specFieldKind_any _ _).mono ?_
        rw [HF.out]
        rintro e w1 ⟨rfl, rfl⟩
        go_wp2
        go_roundw
        case rel => exact ⟨k + 1, by omega, by go_num, by rw [HT.out]; exact HO.out, hb⟩
        case measure => simp [intOf] <;> omega
      · have HT : Hid (upTo (k + 1) = upTo k ++ [(k : Int) + 1]) := Lib.hid (upTo_yes hf)
        generalize upTo k = M at hown HT htl htb hu
        have hne : (fKind ((k : Int) + 1) != 0) = true := bne_iff_ne.2 hf
        clear hf hu
        go_wp2_with fail
        refine (specFieldKind_any _ _).mono ?_
        rintro e w1 ⟨rfl, rfl⟩
        go_wp2_with (at_builtin; refine app_one (Value.int .i64) (int_one .i64) 32 3 (.int .i64 0) 8 Tryd.underlying32 infoI64 rfl _ _ rfl (by rfl) w wr _ M _ (by rfl) (by rfl) hown hb htl htb ?_)
        intro v' w1 hown' hb'
        clear hown hb hne
        go_wp2
        go_roundw
        case rel => exact ⟨k + 1, by omega, by go_num, by rw [HT.out]; simpa using hown', hb'⟩
        case measure => simp [intOf] <;> omega
    · obtain rfl : k = 128 := by omega
      have HN := Lib.hid (nums_of_own hown)
      clear hown
      go_wp2
      go_ret
      refine ⟨_, rfl, ?_, hb⟩
      have := HN.out
      rwa [upTo_all] at this

set_option maxRecDepth 100000 in
set_option maxHeartbeats 1600000 in
theorem implFieldNos_any (w : World) : Calls Tryd.prog 18 #[] w (resI fNos w) := by
  go_enter Tryd.func18, Tryd.ntmps18
  go_wp2_with fail
  refine (fieldTable_any _).mono ?_
  rintro e w1 ⟨b, rfl, hb0, hb1, hT, hB⟩
  have HT : Hid (bk w1 b 56 fTab) := Lib.hid hT
  clear hT
  go_wp2
  go_loopw [1, 6] (fun bv iv wr => ∃ k : Nat, k ≤ 16 ∧ iv = .int .i64 (k : Int) ∧ wr.ownsRow w1.heap.size 3 1 bv (fNos.take k).length ((fNos.take k).map (Value.int .i64)) ∧ Below w1.heap.size w1 wr) (fun _ iv _ => 16 - (intOf iv).toNat)
  case atStart => exact ⟨0, Nat.zero_le _, rfl, ⟨rfl, Or.inl ⟨rfl, rfl⟩⟩, Below.refl _ _⟩
  case round =>
    obtain ⟨k, hk, rfl, hown, hb⟩ := hrel
    by_cases hlt : k < 16
    · have hT := HT.out.below hb hb1
      have c0 := (hT.cell (k * 5)).trans (tab_cells k hlt 0 (by omega))
      have c1 := (hT.cell (k * 5 + 1)).trans (tab_cells k hlt 1 (by omega))
      have c2 := (hT.cell (k * 5 + 2)).trans (tab_cells k hlt 2 (by omega))
      have c3 := (hT.cell (k * 5 + 3)).trans (tab_cells k hlt 3 (by omega))
      have c4 := (hT.cell (k * 5 + 4)).trans (tab_cells k hlt 4 (by omega))
      simp only [rowCells, List.getElem?_cons_zero, List.getElem?_cons_succ] at c0 c1 c2 c3 c4
      have HS : Hid (fNos.take (k + 1) = fNos.take k ++ [fNos.getD k 0]) := Lib.hid (by
        rw [List.take_succ_eq_append_getElem (show k < fNos.length by show k < 16; exact hlt), List.getD_eq_getElem?_getD, List.getElem?_eq_getElem (show k < fNos.length by show k < 16; exact hlt)]; rfl)
      have hu : (fNos.take k).length ≤ 16 := by rw [List.length_take]; show min k 16 ≤ 16; omega
      generalize fNos.getD k 0 = n at c0 c1 c2 c3 c4 HS
      generalize fNos.take k = M at hown HS hu
      have htl : M.length + 1 ≤ 9223372036854775807 := by omega
      have htb : (M.length + 1) * 8 ≤ 140737488355328 := by omega
      generalize fSize n = sz at c0 c1 c2 c3 c4
      generalize fKind n = kd at c0 c1 c2 c3 c4
      generalize putId kd = pi at c0 c1 c2 c3 c4
      generalize getId kd = gi at c0 c1 c2 c3 c4
      clear hT hu
      go_wp2_with (at_builtin; refine app_one' (Value.int .i64) (int_one .i64) 32 3 (.int .i64 0) 8 Tryd.underlying32 infoI64 rfl _ _ rfl (by rfl) w1 (wr.alloc _) _ M _ _ (by rfl) (by rfl) (by simp) (hown.alloc _) (below_new hb hb.size) htl htb ?_)
      intro v' w2 hown' hb'
      clear hown hb
      go_wp2
      go_roundw
      case rel => exact ⟨k + 1, by omega, by go_num, by rw [HS.out]; simpa using hown', hb'⟩
      case measure => simp [intOf] <;> omega
    · obtain rfl : k = 16 := by omega
      have HN := Lib.hid (nums_of_own hown)
      clear hown
      go_wp2
      go_ret
      exact ⟨_, rfl, HN.out.mono hB.size (Nat.le_refl _), hB.trans (hb.mono hB.size)⟩
end Go.Proofs.YtfbdcjlmbflehaaDoor
