/- The program's NameOp; the table of operations lies as Go's text lays it. -/
import Derived.Test.YtmojpiofdfmdgaaDoorOpI
import Derived.Deep.MidRow
set_option linter.unusedVariables false
namespace Go.Proofs.YtmojpiofdfmdgaaDoor
open Go.ChangeShapes Go.WideShapes Go.ChangeAt Go.RowKit

/-- the table as a value -/
def opList : List Value := opRows.flatMap fun r => r.map fun x => Value.string ⟨x.toArray⟩
def opAgg : Value := .agg opList.toArray
set_option maxRecDepth 100000 in
theorem ops_range {w : World} (h : opsIn w) : w.rangeAt 0 0 opList := by
  intro j v hv
  have hj : j < 27 := (List.getElem?_eq_some_iff.1 hv).1
  obtain ⟨i, k, hi, hk, rfl⟩ : ∃ i k : Nat, i < 9 ∧ k < 3 ∧ j = i * 3 + k := ⟨j / 3, j % 3, by omega, by omega, by omega⟩
  rw [Nat.zero_add, h i k hi hk]
  have := opArr_at ⟨i, hi⟩ ⟨k, hk⟩
  simp only [opArr, List.getElem?_toArray] at this
  rw [← this]
  exact hv
set_option maxRecDepth 100000 in
theorem opInfo : (Tryd.prog.info? 31).map (·.size) = some opList.length := by kernel_rfl
set_option maxRecDepth 100000 in
theorem ops_load {w : World} (h : opsIn w) : (Instr.loadAt 31 (.pointer (some ⟨0, 0, none⟩))).run Tryd.prog w = .ok opAgg w :=
  run_loadAt_mid w _ 0 _ opList _ (ops_range h) Tryd.underlying31 rfl opInfo
set_option maxRecDepth 100000 in
theorem ops_index (w : World) {i : Nat} (hi : i < 9) : (Instr.index 31 opAgg (.int .i64 (i : Int))).run Tryd.prog w = .ok (.agg #[.string ⟨(opB 0 i).toArray⟩, .string ⟨(opB 1 i).toArray⟩, .string ⟨(opB 2 i).toArray⟩]) w := by
  have h : i = 0 ∨ i = 1 ∨ i = 2 ∨ i = 3 ∨ i = 4 ∨ i = 5 ∨ i = 6 ∨ i = 7 ∨ i = 8 := by omega
  rcases h with rfl | rfl | rfl | rfl | rfl | rfl | rfl | rfl | rfl
  all_goals rfl
set_option maxRecDepth 100000 in
set_option maxHeartbeats 1600000 in
theorem implNameOp_any (s : ByteArray) (w : World) (hs : s.size ≤ maxLen) (hO : opsIn w) : Calls Tryd.prog 14 #[.string s] w fun e w' => e = .returned (.int .i64 (nameOp s)) ∧ Below w.heap.size w w' := by
  have HL := Lib.hid (ops_range hO)
  clear hO
  go_enter Tryd.func14, Tryd.ntmps14
  go_wp2_with (refine wpList_load_mid rfl 31 _ rfl 0 0 rfl opList _ HL.out Tryd.underlying31 rfl opInfo ?_; change wpList _ _ _ _ (Act.put _ _ opAgg) _)
  go_loopw [6] (fun iv wr => ∃ i : Nat, i ≤ 9 ∧ iv = .int .i64 i ∧ Hid (∀ j : Nat, j < i → (⟨(opB 2 j).toArray⟩ : ByteArray) ≠ s) ∧ Hid (Below w.heap.size w wr) ∧ w.heap.size ≤ wr.heap.size) (fun iv _ => 9 - (intOf iv).toNat)
  case atStart => exact ⟨0, Nat.zero_le _, rfl, Lib.hid (fun j h2 => absurd h2 (by omega)), Lib.hid (Below.refl _ _), Nat.le_refl _⟩
  case round =>
    obtain ⟨i, hi, rfl, HN, HB, hz⟩ := hrel
    by_cases hin : i < 9
    · have hrun := fun v => ops_index v hin
      have g1 : (i : Int) < 9 := by omega
      have g0 : 0 ≤ (i : Int) := by omega
      have HB2 : Hid (∀ o, Below w.heap.size w (wr.alloc o)) := Lib.hid fun o => HB.out.alloc hz _
      by_cases he : (⟨(opB 2 i).toArray⟩ : ByteArray) = s
      · have HR : Hid (nameOp s = i) := Lib.hid (by
          rw [← he]
          by_cases h0 : i = 0
          · subst h0; exact nameOp_nil
          · rw [← opTxt_nat]; exact nameOp_hit (by omega))
        have he' : (opB 2 i == s.toList) = true := by rw [beq_iff_eq, ← he, ByteArray.toList_eq]
        clear he
        go_wp2
        go_ret
        exact ⟨by rw [HR.out]; rfl, HB2.out _⟩
      · have he' : (opB 2 i == s.toList) = false := by have := str_no he; rwa [ByteArray.toList_eq] at this
        have HE := Lib.hid he
        clear he
        go_wp2
        go_roundw
        case rel => exact ⟨i + 1, by omega, by go_num, Lib.hid (fun j h2 => by
          rcases Nat.lt_succ_iff_lt_or_eq.1 h2 with h | rfl
          · exact HN.out j h
          · exact HE.out), Lib.hid (HB2.out _), by simp; omega⟩
        case measure => simp [intOf] <;> omega
    · obtain rfl : i = 9 := by omega
      have HR : Hid (nameOp s = 0) := Lib.hid (nameOp_none fun j h1 h2 => by
        obtain ⟨k, rfl⟩ := Int.eq_ofNat_of_zero_le (show 0 ≤ j by omega)
        rw [opTxt_nat]
        exact HN.out k (by omega))
      go_wp2
      go_ret
      exact ⟨by rw [HR.out]; rfl, HB.out⟩
end Go.Proofs.YtmojpiofdfmdgaaDoor
