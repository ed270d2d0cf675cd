/- textIn, numberIn of the program; its variable errNotDigits holds an error. -/
import Derived.Test.YtmojpiofdfmdgabGreatDoorMrgReqP
import Derived.Test.YtmojpiofdfmdgabGreatDoorMrg5
set_option linter.unusedVariables false
namespace Go.Proofs.YtmojpiofdfmdgabGreatDoor
open Go.ChangeShapes Go.WideShapes Go.ChangeAt Go.RowKit

set_option maxRecDepth 100000 in
theorem textIn_any (hi : Nat) (v : Value) (m : MsgD) (no : Int) (w : World) (hn : m.2.length ≤ 1048576) (h : FieldsR.rd hi w [v] m.2) (hh : hi ≤ w.heap.size) :
    Calls Tryz.prog 54 #[.agg #[.string m.1, v], .int .i64 no] w fun e w' => e = .returned (.string (fldTxt m.2 no)) ∧ Below w.heap.size w w' := by
  obtain ⟨A, c, rfl, hc, h'⟩ := fields_rd h
  have HF := Lib.hid (fun V (hV : Below w.heap.size w V) => implFieldOf_any hi (.slice A m.2.length c) m no V hn (Rep.below (R := FieldsR) h hV hh) (Nat.le_trans hh hV.size))
  have HB0 : Hid (∀ o, Below w.heap.size w (w.alloc o)) := Lib.hid fun o => (Below.refl _ _).alloc (Nat.le_refl _) o
  clear h h'
  go_enter Tryz.func54, Tryz.ntmps54
  go_wp2_with fail
  refine (HF.out _ (HB0.out _)).mono ?_
  rintro e w1 ⟨rfl, hb⟩
  have HB1 : Hid (Below w.heap.size w w1) := Lib.hid ((HB0.out _).trans (hb.mono (by simp)))
  clear hb
  go_wp2
  go_ret
  exact ⟨rfl, HB1.out⟩
set_option maxRecDepth 100000 in
theorem numberIn_any (hi : Nat) (v : Value) (m : MsgD) (no : Int) (w : World) (p : Addr) (hg : 1 < w.heap.size) (hce : w.cell? ⟨1, 0, none⟩ = some (.iface 200 (.pointer (some p)))) (hn : m.2.length ≤ 1048576) (h : FieldsR.rd hi w [v] m.2) (hh : hi ≤ w.heap.size) :
    Calls Tryz.prog 56 #[.agg #[.string m.1, v], .int .i64 no] w fun e w' => e = .returned (.int .i64 (numIn (fldTxt m.2 no))) ∧ Below w.heap.size w w' := by
  obtain ⟨A, c, rfl, hc, h'⟩ := fields_rd h
  have HF := Lib.hid (fun V (hV : Below w.heap.size w V) => textIn_any hi (.slice A m.2.length c) m no V hn (Rep.below (R := FieldsR) h hV hh) (Nat.le_trans hh hV.size))
  have HN := Lib.hid (fun V (hV : Below w.heap.size w V) => implNarrow_any (fldTxt m.2 no) V p (Nat.lt_of_lt_of_le hg hV.size) ((hV.cell (p := ⟨_, 0, none⟩) hg).trans hce))
  have HB0 : Hid (∀ o, Below w.heap.size w (w.alloc o)) := Lib.hid fun o => (Below.refl _ _).alloc (Nat.le_refl _) o
  have HV : Hid (numIn (fldTxt m.2 no) = if narOk (fldTxt m.2 no) = true then narVal (fldTxt m.2 no) else -1) := Lib.hid rfl
  clear h h' hce hg
  generalize numIn (fldTxt m.2 no) = r at HV ⊢
  generalize fldTxt m.2 no = s at HF HN HV
  generalize narOk s = b at HN HV
  rw [HV.out]
  cases b
  all_goals go_enter Tryz.func56, Tryz.ntmps56
  all_goals go_wp2_with fail
  all_goals refine (HF.out _ (HB0.out _)).mono ?_
  all_goals rintro e w1 ⟨rfl, hb⟩
  all_goals have HB1 : Hid (Below w.heap.size w w1) := Lib.hid ((HB0.out _).trans (hb.mono (by simp)))
  all_goals have z1 := HB1.out.size
  all_goals clear hb
  all_goals go_wp2_with fail
  all_goals refine (HN.out _ HB1.out).mono ?_
  all_goals rintro e w2 ⟨rfl, hb⟩
  all_goals have HB2 : Hid (Below w.heap.size w w2) := Lib.hid (HB1.out.trans (hb.mono z1))
  all_goals clear hb
  all_goals go_wp2
  all_goals go_ret
  all_goals exact ⟨rfl, HB2.out⟩
end Go.Proofs.YtmojpiofdfmdgabGreatDoor
