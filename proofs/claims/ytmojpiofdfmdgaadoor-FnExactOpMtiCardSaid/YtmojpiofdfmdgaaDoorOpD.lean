/- The operations' table: types, codes and names by number; the reference's OpMti, OpCode, OpName, NameOp; no conditions. -/
import Derived.Test.YtmojpiofdfmdgaaDoorReplyS
set_option linter.unusedVariables false
namespace Go.Proofs.YtmojpiofdfmdgaaDoor
open Go.ChangeShapes Go.WideShapes Go.ChangeAt Go.RowKit

/-- row by row: type, code, name -/
def opRows : List (List (List UInt8)) := [[[], [], []], [[48, 49, 48, 48], [48, 48], [97, 117, 116, 104]], [[48, 49, 48, 48], [48, 50], [109, 111, 114, 101]], [[48, 50, 50, 48], [48, 49], [112, 97, 114, 116]], [[48, 50, 50, 48], [48, 48], [102, 105, 110, 97, 108]], [[48, 50, 50, 48], [50, 48], [102, 114, 101, 101]], [[48, 50, 48, 48], [52, 48], [109, 111, 118, 101]], [[48, 49, 48, 48], [51, 49], [97, 115, 107]], [[48, 50, 48, 48], [57, 48], [115, 119, 101, 101, 112]]]
def opB (k i : Nat) : List UInt8 := (opRows.getD i []).getD k []
/-- text k of operation op, or the empty one -/
def opTxt (k : Nat) (op : Int) : ByteArray := if 0 ≤ op then ⟨(opB k op.toNat).toArray⟩ else ⟨#[]⟩
def isOp (op : Int) : Bool := decide (1 ≤ op ∧ op ≤ 8)
set_option maxRecDepth 100000 in
theorem opTxt_nat (k i : Nat) : opTxt k (i : Int) = ⟨(opB k i).toArray⟩ := by simp [opTxt]
set_option maxRecDepth 100000 in
theorem opTxt_neg (k : Nat) {op : Int} (h : op < 0) : opTxt k op = ⟨#[]⟩ := by simp [opTxt]; omega
set_option maxRecDepth 100000 in
theorem opTxt_out (k : Nat) {op : Int} (h : ¬ (1 ≤ op ∧ op ≤ 8)) : opTxt k op = ⟨#[]⟩ := by
  by_cases h0 : op < 0
  · exact opTxt_neg k h0
  · obtain ⟨i, rfl⟩ := Int.eq_ofNat_of_zero_le (show 0 ≤ op by omega)
    rw [opTxt_nat]
    by_cases hi : i = 0
    · subst hi
      unfold opB
      match k with
      | 0 => rfl
      | 1 => rfl
      | 2 => rfl
      | k + 3 => rfl
    · have h9 : 9 ≤ i := by omega
      have e : opRows.getD i [] = [] := by rw [List.getD_eq_getElem?_getD, List.getElem?_eq_none (show opRows.length ≤ i from h9)]; rfl
      unfold opB
      rw [e]
      simp
set_option maxRecDepth 100000 in
theorem op_cases {op : Int} (h : 1 ≤ op ∧ op ≤ 8) : op = 1 ∨ op = 2 ∨ op = 3 ∨ op = 4 ∨ op = 5 ∨ op = 6 ∨ op = 7 ∨ op = 8 := by omega

def nameOp (s : ByteArray) : Int := if opTxt 2 1 = s then 1 else if opTxt 2 2 = s then 2 else if opTxt 2 3 = s then 3 else if opTxt 2 4 = s then 4 else if opTxt 2 5 = s then 5 else if opTxt 2 6 = s then 6 else if opTxt 2 7 = s then 7 else if opTxt 2 8 = s then 8 else 0
set_option maxRecDepth 100000 in
theorem nameOp_hit {op : Int} (h : 1 ≤ op ∧ op ≤ 8) : nameOp (opTxt 2 op) = op := by
  rcases op_cases h with rfl | rfl | rfl | rfl | rfl | rfl | rfl | rfl <;> decide +kernel
set_option maxRecDepth 100000 in
theorem nameOp_none {s : ByteArray} (h : ∀ op : Int, 1 ≤ op → op < 9 → opTxt 2 op ≠ s) : nameOp s = 0 := by
  unfold nameOp
  simp [h 1 (by omega) (by omega), h 2 (by omega) (by omega), h 3 (by omega) (by omega), h 4 (by omega) (by omega), h 5 (by omega) (by omega), h 6 (by omega) (by omega), h 7 (by omega) (by omega), h 8 (by omega) (by omega)]
set_option maxRecDepth 100000 in
theorem nameOp_nil : nameOp ⟨#[]⟩ = 0 := by decide +kernel

set_option maxRecDepth 100000 in
theorem l11Op_any (op : Int) (w : World) : Calls Tryd.prog 15 #[.int .i64 op] w fun e w' => e = .returned (.bool (isOp op)) ∧ w = w' := by
  have HI := Lib.hid (specIn_any op 1 8)
  go_enter Tryd.func15, Tryd.ntmps15
  go_wp2_with fail
  refine (HI.out _).mono ?_
  rintro e w1 ⟨rfl, rfl⟩
  go_wp2
  go_ret
  exact ⟨congrArg (fun b => Ending.returned (.bool b)) (by simp [isOp]), rfl⟩
def opCol (k : Nat) : List (List UInt8) := opRows.map fun r => r.getD k []
set_option maxRecDepth 100000 in
theorem opCol_at (k : Nat) {op : Int} (h : 1 ≤ op ∧ op ≤ 8) : (opCol k)[op.toNat]? = some (opB k op.toNat) := by
  have hl : op.toNat < opRows.length := by show op.toNat < 9; omega
  simp [opCol, opB, List.getElem?_eq_getElem hl]
set_option maxRecDepth 100000 in
theorem specMtis_any (w : World) : Calls Tryd.prog 16 #[] w fun e w' => e = .returned (.slice (some ⟨w.heap.size, 0, none⟩) 9 9) ∧ strsAt w' w.heap.size (opCol 0) ∧ Below w.heap.size w w' ∧ w.heap.size < w'.heap.size := by
  go_enter Tryd.func16, Tryd.ntmps16
  go_wp2
  go_ret
  exact ⟨rfl, strs_at _ _ (opCol 0) _ (by rfl), (Below.refl _ _).alloc (Nat.le_refl _) _, by simp⟩
set_option maxRecDepth 100000 in
theorem specCodes_any (w : World) : Calls Tryd.prog 18 #[] w fun e w' => e = .returned (.slice (some ⟨w.heap.size, 0, none⟩) 9 9) ∧ strsAt w' w.heap.size (opCol 1) ∧ Below w.heap.size w w' ∧ w.heap.size < w'.heap.size := by
  go_enter Tryd.func18, Tryd.ntmps18
  go_wp2
  go_ret
  exact ⟨rfl, strs_at _ _ (opCol 1) _ (by rfl), (Below.refl _ _).alloc (Nat.le_refl _) _, by simp⟩
set_option maxRecDepth 100000 in
theorem specOpMti_any (op : Int) (w : World) : Calls Tryd.prog 7 #[.int .i64 op] w fun e w' => e = .returned (.string (opTxt 0 op)) ∧ Below w.heap.size w w' := by
  have HI := Lib.hid (l11Op_any op)
  by_cases h : 1 ≤ op ∧ op ≤ 8
  · obtain ⟨i, rfl⟩ := Int.eq_ofNat_of_zero_le (show 0 ≤ op by omega)
    have hI : isOp (i : Int) = true := decide_eq_true h
    rw [hI] at HI
    rw [opTxt_nat]
    have HX := Lib.hid (opCol_at 0 h)
    have g0 : 0 ≤ (i : Int) := by omega
    have g1 : (i : Int) < 9 := by omega
    clear h hI
    go_enter Tryd.func7, Tryd.ntmps7
    go_wp2_with fail
    refine (HI.out _).mono ?_
    rintro e w1 ⟨rfl, rfl⟩
    go_wp2_with fail
    refine (specMtis_any _).mono ?_
    rintro e w2 ⟨rfl, hst, hb, hz⟩
    have hc := hst i _ HX.out
    clear hst
    go_wp2
    go_ret
    exact ⟨rfl, hb⟩
  · have hI : isOp op = false := decide_eq_false h
    rw [opTxt_out 0 h]
    rw [hI] at HI
    clear h hI
    go_enter Tryd.func7, Tryd.ntmps7
    go_wp2_with fail
    refine (HI.out _).mono ?_
    rintro e w1 ⟨rfl, rfl⟩
    go_wp2
    go_ret
    exact ⟨rfl, Below.refl _ _⟩
set_option maxRecDepth 100000 in
theorem specOpCode_any (op : Int) (w : World) : Calls Tryd.prog 9 #[.int .i64 op] w fun e w' => e = .returned (.string (opTxt 1 op)) ∧ Below w.heap.size w w' := by
  have HI := Lib.hid (l11Op_any op)
  by_cases h : 1 ≤ op ∧ op ≤ 8
  · obtain ⟨i, rfl⟩ := Int.eq_ofNat_of_zero_le (show 0 ≤ op by omega)
    have hI : isOp (i : Int) = true := decide_eq_true h
    rw [hI] at HI
    rw [opTxt_nat]
    have HX := Lib.hid (opCol_at 1 h)
    have g0 : 0 ≤ (i : Int) := by omega
    have g1 : (i : Int) < 9 := by omega
    clear h hI
    go_enter Tryd.func9, Tryd.ntmps9
    go_wp2_with fail
    refine (HI.out _).mono ?_
    rintro e w1 ⟨rfl, rfl⟩
    go_wp2_with fail
    refine (specCodes_any _).mono ?_
    rintro e w2 ⟨rfl, hst, hb, hz⟩
    have hc := hst i _ HX.out
    clear hst
    go_wp2
    go_ret
    exact ⟨rfl, hb⟩
  · have hI : isOp op = false := decide_eq_false h
    rw [opTxt_out 1 h]
    rw [hI] at HI
    clear h hI
    go_enter Tryd.func9, Tryd.ntmps9
    go_wp2_with fail
    refine (HI.out _).mono ?_
    rintro e w1 ⟨rfl, rfl⟩
    go_wp2
    go_ret
    exact ⟨rfl, Below.refl _ _⟩
end Go.Proofs.YtmojpiofdfmdgaaDoor
