/- The program's opAt, OpMti, OpCode, OpName, NameOp; the table of operations lies as Go's text lays it. -/
import Derived.Test.YtmojpiofdfmdgaaDoorOpT
set_option linter.unusedVariables false
namespace Go.Proofs.YtmojpiofdfmdgaaDoor
open Go.ChangeShapes Go.WideShapes Go.ChangeAt Go.RowKit

def opRowV (op : Int) : Value := .agg #[.string (opTxt 0 op), .string (opTxt 1 op), .string (opTxt 2 op)]
set_option maxRecDepth 100000 in
theorem opAt_any (op : Int) (w : World) (hO : opsIn w) : Calls Tryd.prog 17 #[.int .i64 op] w fun e w' => e = .returned (opRowV op) ∧ Below w.heap.size w w' := by
  by_cases h0 : op < 0
  · have HR : Hid (opRowV op = .agg #[.string ⟨#[]⟩, .string ⟨#[]⟩, .string ⟨#[]⟩]) := Lib.hid (by unfold opRowV; rw [opTxt_neg 0 h0, opTxt_neg 1 h0, opTxt_neg 2 h0])
    rw [HR.out]
    clear hO
    go_enter Tryd.func17, Tryd.ntmps17
    go_wp2
    exact bodyPost_ret (v := .agg #[.string ⟨#[]⟩, .string ⟨#[]⟩, .string ⟨#[]⟩]) (by simp [results, Tryd.results17, go_sem]) rfl ⟨rfl, by first | exact (((Below.refl _ _).alloc (Nat.le_refl _) _).set _ _ (by simp)) | exact ((Below.refl _ _).alloc (Nat.le_refl _) _)⟩
  · by_cases h9 : 9 ≤ op
    · have HR : Hid (opRowV op = .agg #[.string ⟨#[]⟩, .string ⟨#[]⟩, .string ⟨#[]⟩]) := Lib.hid (by unfold opRowV; rw [opTxt_out 0 (by omega), opTxt_out 1 (by omega), opTxt_out 2 (by omega)])
      rw [HR.out]
      clear hO
      go_enter Tryd.func17, Tryd.ntmps17
      go_wp2
      exact bodyPost_ret (v := .agg #[.string ⟨#[]⟩, .string ⟨#[]⟩, .string ⟨#[]⟩]) (by simp [results, Tryd.results17, go_sem]) rfl ⟨rfl, ((Below.refl _ _).alloc (Nat.le_refl _) _)⟩
    · obtain ⟨i, rfl⟩ := Int.eq_ofNat_of_zero_le (show 0 ≤ op by omega)
      have HR : Hid (opRowV (i : Int) = .agg #[.string ⟨(opB 0 i).toArray⟩, .string ⟨(opB 1 i).toArray⟩, .string ⟨(opB 2 i).toArray⟩]) := Lib.hid (by unfold opRowV; rw [opTxt_nat, opTxt_nat, opTxt_nat])
      rw [HR.out]
      have hlt := hO.lt
      have c0 := hO i 0 (by omega) (by omega)
      have c1 := hO i 1 (by omega) (by omega)
      have c2 := hO i 2 (by omega) (by omega)
      rw [Nat.add_zero] at c0
      have g0 : 0 ≤ (i : Int) := by omega
      have g1 : (i : Int) < 9 := by omega
      clear hO h9 h0
      go_enter Tryd.func17, Tryd.ntmps17
      go_wp2
      exact bodyPost_ret (v := .agg #[.string ⟨(opB 0 i).toArray⟩, .string ⟨(opB 1 i).toArray⟩, .string ⟨(opB 2 i).toArray⟩]) (by simp [results, Tryd.results17, go_sem]) rfl ⟨rfl, ((Below.refl _ _).alloc (Nat.le_refl _) _)⟩
set_option maxRecDepth 100000 in
theorem opRow_f0 (a b c : ByteArray) (w : World) : (Instr.field 29 (.agg #[.string a, .string b, .string c]) 0).run Tryd.prog w = .ok (.string a) w := by rfl
set_option maxRecDepth 100000 in
theorem opRow_f1 (a b c : ByteArray) (w : World) : (Instr.field 29 (.agg #[.string a, .string b, .string c]) 1).run Tryd.prog w = .ok (.string b) w := by rfl
set_option maxRecDepth 100000 in
theorem opRow_f2 (a b c : ByteArray) (w : World) : (Instr.field 29 (.agg #[.string a, .string b, .string c]) 2).run Tryd.prog w = .ok (.string c) w := by rfl
set_option maxRecDepth 100000 in
theorem implOpMti_any (op : Int) (w : World) (hO : opsIn w) : Calls Tryd.prog 8 #[.int .i64 op] w fun e w' => e = .returned (.string (opTxt 0 op)) ∧ Below w.heap.size w w' := by
  go_enter Tryd.func8, Tryd.ntmps8
  go_wp2_with fail
  refine (opAt_any op _ hO).mono ?_
  rintro e w1 ⟨rfl, hb⟩
  unfold opRowV
  have hf := opRow_f0 (opTxt 0 op) (opTxt 1 op) (opTxt 2 op)
  go_wp2
  go_ret
  exact ⟨rfl, hb⟩
set_option maxRecDepth 100000 in
theorem implOpCode_any (op : Int) (w : World) (hO : opsIn w) : Calls Tryd.prog 10 #[.int .i64 op] w fun e w' => e = .returned (.string (opTxt 1 op)) ∧ Below w.heap.size w w' := by
  go_enter Tryd.func10, Tryd.ntmps10
  go_wp2_with fail
  refine (opAt_any op _ hO).mono ?_
  rintro e w1 ⟨rfl, hb⟩
  unfold opRowV
  have hf := opRow_f1 (opTxt 0 op) (opTxt 1 op) (opTxt 2 op)
  go_wp2
  go_ret
  exact ⟨rfl, hb⟩
set_option maxRecDepth 100000 in
theorem implOpName_any (op : Int) (w : World) (hO : opsIn w) : Calls Tryd.prog 12 #[.int .i64 op] w fun e w' => e = .returned (.string (opTxt 2 op)) ∧ Below w.heap.size w w' := by
  go_enter Tryd.func12, Tryd.ntmps12
  go_wp2_with fail
  refine (opAt_any op _ hO).mono ?_
  rintro e w1 ⟨rfl, hb⟩
  unfold opRowV
  have hf := opRow_f2 (opTxt 0 op) (opTxt 1 op) (opTxt 2 op)
  go_wp2
  go_ret
  exact ⟨rfl, hb⟩
end Go.Proofs.YtmojpiofdfmdgaaDoor
