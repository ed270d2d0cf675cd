/- The reference's OpName and NameOp; no conditions. -/
import Derived.Test.YtmojpiofdfmdgaaDoorOpD
set_option linter.unusedVariables false
namespace Go.Proofs.YtmojpiofdfmdgaaDoor
open Go.ChangeShapes Go.WideShapes Go.ChangeAt Go.RowKit
set_option maxRecDepth 100000 in
theorem specOpName_any (op : Int) (w : World) : Calls Tryd.prog 11 #[.int .i64 op] w fun e w' => e = .returned (.string (opTxt 2 op)) ∧ Below w.heap.size w w' := by
  have HI := Lib.hid (l11Op_any op)
  by_cases h : 1 ≤ op ∧ op ≤ 8
  · have hI : isOp op = true := decide_eq_true h
    rw [hI] at HI
    rcases op_cases h with rfl | rfl | rfl | rfl | rfl | rfl | rfl | rfl
    all_goals clear h hI
    all_goals go_enter Tryd.func11, Tryd.ntmps11
    all_goals go_wp2_with fail
    all_goals refine (HI.out _).mono ?_
    all_goals rintro e w1 ⟨rfl, rfl⟩
    all_goals go_wp2
    all_goals go_ret
    all_goals exact ⟨rfl, (Below.refl _ _).alloc (Nat.le_refl _) _⟩
  · have hI : isOp op = false := decide_eq_false h
    rw [opTxt_out 2 h]
    rw [hI] at HI
    clear h hI
    go_enter Tryd.func11, Tryd.ntmps11
    go_wp2_with fail
    refine (HI.out _).mono ?_
    rintro e w1 ⟨rfl, rfl⟩
    go_wp2
    go_ret
    exact ⟨rfl, Below.refl _ _⟩

set_option maxRecDepth 100000 in
set_option maxHeartbeats 800000 in
theorem specNameOp_any (s : ByteArray) (w : World) (hs : s.size ≤ maxLen) : Calls Tryd.prog 13 #[.string s] w fun e w' => e = .returned (.int .i64 (nameOp s)) ∧ Below w.heap.size w w' := by
  go_enter Tryd.func13, Tryd.ntmps13
  go_wp2
  go_loopw [3] (fun iv wr => ∃ i : Nat, 1 ≤ i ∧ i ≤ 9 ∧ iv = .int .i64 i ∧ Hid (∀ j : Int, 1 ≤ j → j < i → opTxt 2 j ≠ s) ∧ Hid (Below w.heap.size w wr) ∧ w.heap.size ≤ wr.heap.size) (fun iv _ => 9 - (intOf iv).toNat)
  case atStart => exact ⟨1, Nat.le_refl _, by omega, rfl, Lib.hid (fun j h1 h2 => absurd h2 (by omega)), Lib.hid (Below.refl _ _), Nat.le_refl _⟩
  case round =>
    obtain ⟨i, hi1, hi, rfl, HN, HB, hz⟩ := hrel
    by_cases hin : i < 9
    · have g1 : (i : Int) ≤ 8 := by omega
      go_wp2_with fail
      refine (specOpName_any _ _).mono ?_
      rintro e w2 ⟨rfl, hb⟩
      have HB2 : Hid (Below w.heap.size w w2) := Lib.hid (HB.out.trans (hb.mono hz))
      have hz2 := hb.size
      clear hb
      by_cases he : opTxt 2 (i : Int) = s
      · have HR : Hid (nameOp s = i) := Lib.hid (by rw [← he]; exact nameOp_hit (by omega))
        have he' : ((opTxt 2 (i : Int)).toList == s.toList) = true := by rw [beq_iff_eq, he]
        clear he
        go_wp2
        go_ret
        exact ⟨by rw [HR.out]; rfl, HB2.out⟩
      · have he' : ((opTxt 2 (i : Int)).toList == s.toList) = false := str_no he
        have HE := Lib.hid he
        clear he
        go_wp2
        go_roundw
        case rel => exact ⟨i + 1, by omega, by omega, by go_num, Lib.hid (fun j h1 h2 => by
          rcases Int.lt_or_le j i with h | h
          · exact HN.out j h1 h
          · obtain rfl : j = i := by omega
            exact HE.out), HB2, Nat.le_trans hz hz2⟩
        case measure => simp [intOf] <;> omega
    · obtain rfl : i = 9 := by omega
      have HR := Lib.hid (nameOp_none HN.out)
      go_wp2
      go_ret
      exact ⟨by rw [HR.out]; rfl, HB.out⟩
end Go.Proofs.YtmojpiofdfmdgaaDoor
