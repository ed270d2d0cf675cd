/- FnExactReqOf: for every argument the law answers true: the program's function returns what the reference returns; the listed package variables hold what the program's text lays (tied). -/
import Derived.Test.YtmojpiofdfmdgabGreatDoorMrg1
import Derived.Test.YtmojpiofdfmdgabGreatDoorMrg2
import Derived.Test.YtmojpiofdfmdgabGreatDoorCards
import Derived.Test.YtmojpiofdfmdgabGreatDoorTie
import Derived.Stop.LaidErr
import Derived.LaidMore
import Derived.Stop.Joined
import Derived.SevenTiedAt
import Derived.WalkSmall
import Derived.Deep.DeepHandedRow
import Derived.Lay
import Derived.Test.YtmojpiofdfmdgabGreatDoorShelf
import Derived.Test.YtmojpiofdfmdgabGreatDoorMrgReqH
import Derived.Test.YtmojpiofdfmdgabGreatDoorMrgReqG
import Derived.Test.YtmojpiofdfmdgabGreatDoorMrgEqReq
import Derived.Deep.RegionHeld3
namespace Go.Proofs.YtmojpiofdfmdgabGreatDoor.fnExactReqOf
open Go.ChangeShapes Go.WideShapes Go.ChangeAt Go.RowKit
open Go.WideMaps Go.WideElems
open Go.ChangeMaps (open_string shut_string)
set_option linter.unusedVariables false

set_option maxRecDepth 100000 in
theorem own : ownKnob Tryz.prog.godebug = none := by kernel_rfl

set_option maxRecDepth 100000 in
set_option maxHeartbeats 8000000 in
theorem walk (w : World) (p0 : Addr) (hc0 : w.cell? ⟨1, 0, none⟩ = some (.iface 200 (.pointer (some p0)))) (hops : opsIn w) (m0 : MsgD) (u0 : Value) (w0 : FieldsR.rd w.heap.size w [u0] m0.2) (z0 : m0.1.size ≤ maxLen) (n0 : m0.2.length ≤ maxLen) (y0 : ∀ x ∈ m0.2, (Lit.int .i64 x.1).wf = true ∧ x.2.size ≤ maxLen) :
    Calls Tryz.prog 3 #[.agg #[.string m0.1, u0]] w fun e w' => e = .returned (.bool true) ∧ Below w.heap.size w w' := by
  obtain ⟨AM0, cM0, rfl, -⟩ := Rep.slice_form w0
  have HM0 := Lib.hid w0
  have HN0 := Lib.hid n0
  have HZ0 := Lib.hid z0
  have HY0 : Hid (∀ x ∈ m0.2, x.2.size ≤ maxLen) := Lib.hid (fun x hx => (y0 x hx).2)
  have HI0 : Hid (∀ x ∈ m0.2, (Lit.int .i64 x.1).wf = true) := Lib.hid (fun x hx => (y0 x hx).1)
  have HB0 : Hid (Below w.heap.size w (w.alloc (.cells #[.string m0.1, .slice AM0 m0.2.length cM0] 24))) := Lib.hid ((Below.refl w.heap.size w).alloc (Nat.le_refl _) (.cells #[.string m0.1, .slice AM0 m0.2.length cM0] 24))
  have HX : Hid (∀ wr, Below (w.heap.size + 1) (w.alloc (.cells #[.string m0.1, .slice AM0 m0.2.length cM0] 24)) wr → wr.cell? ⟨w.heap.size, 0, none⟩ = some (.string m0.1) ∧ wr.cell? ⟨w.heap.size, 1, none⟩ = some (.slice AM0 m0.2.length cM0)) := Lib.hid fun wr hw => ⟨(hw.cell (p := ⟨w.heap.size, 0, none⟩) (show w.heap.size < _ by omega)).trans (by simp), (hw.cell (p := ⟨w.heap.size, 1, none⟩) (show w.heap.size < _ by omega)).trans (by simp)⟩
  clear w0 z0 n0 y0
  have HOP := Lib.hid hops
  have HCE := Lib.hid hc0
  have hgl : 1 < w.heap.size := by
    rcases Nat.lt_or_ge 1 w.heap.size with h | h
    · exact h
    · simp [World.cell?, Array.getElem?_eq_none h] at hc0
  have HGL := Lib.hid hgl
  clear hops hc0 hgl
  go_enter Tryz.func3, Tryz.ntmps3
  go_wp2_with fail
  replace HM0 := Lib.hid (Rep.below (R := FieldsR) HM0.out HB0.out (Nat.le_refl _))
  refine (szMsg_any w.heap.size _ m0 1048576 _ HN0.out HZ0.out HY0.out HM0.out (by first | omega | (simp <;> omega)) (by omega) (by omega)).mono ?_
  rintro e w1 ⟨r0, rfl, hr0, hb1⟩
  have z1 : w.heap.size + 1 ≤ w1.heap.size := by have := hb1.size; simp at this; omega
  have hB1 : Below (w.heap.size + 1) (w.alloc (.cells #[.string m0.1, .slice AM0 m0.2.length cM0] 24)) w1 := hb1.mono (by simp <;> omega)
  rcases hr0 with rfl | ⟨hr0, hp0⟩
  · go_wp2
    go_ret
    exact ⟨rfl, (HB0.out.trans (hB1.mono (by omega)))⟩
  have hsz0 : msgSz m0 ≤ 1048576 := by omega
  have hl0 : m0.2.length ≤ 1048576 := by unfold msgSz fieldsSz at hsz0; omega
  have ht0 : m0.1.size ≤ 1048576 := by unfold msgSz at hsz0; omega
  have HS0 : Hid (∀ x ∈ m0.2, x.2.size ≤ 1048576) := Lib.hid (fun x hx => by have := le_sum (fun y : FieldD => y.2.size) hx; unfold msgSz fieldsSz at hsz0; omega)
  have hq0 : r0 ≤ 1048576 := by omega
  replace HM0 := Lib.hid (Rep.below (R := FieldsR) HM0.out (hB1.mono (by omega)) (Nat.le_refl _))
  obtain ⟨x0, x1⟩ := HX.out w1 hB1
  have HR0 := Lib.hid hr0
  clear hr0 hsz0 hb1
  have hSM : m0.1.size ≤ maxLen := HZ0.out
  obtain ⟨⟨⟨op, acct, other, hold, trace, mti, amount, ttl⟩, code⟩, hres⟩ : ∃ r, r = reqL m0 := ⟨_, rfl⟩
  have HSP := Lib.hid (fun hi v V hr hh => specReqOf_any hi v m0 V hl0 hr hh hSM HS0.out)
  have HIM := Lib.hid (fun hi v V (hV : Below w.heap.size w V) hr hh => implReqOf_any hi v m0 V _ (HOP.out.below hV) (Nat.lt_of_lt_of_le HGL.out hV.size) ((hV.cell (p := ⟨_, 0, none⟩) HGL.out).trans HCE.out) hl0 hr hh hSM HS0.out)
  rw [← hres] at HSP HIM
  simp only [qRes, qV, qCells] at HSP HIM
  clear hres HOP HCE HGL
  go_wp2_with fail
  refine (toMsg_any w.heap.size m0 _ w1 hl0 HM0.out (by omega)).mono ?_
  rintro e w2 ⟨u2, rfl, hu2, hb2⟩
  obtain ⟨A2, c2, rfl, -⟩ := Rep.slice_form hu2.rd
  have z2 : w1.heap.size ≤ w2.heap.size := hb2.size
  have hB2 := hB1.trans (hb2.mono (show w.heap.size + 1 ≤ _ by omega))
  replace HM0 := Lib.hid (Rep.below (R := FieldsR) HM0.out hb2 (by omega))
  have H2 := Lib.hid hu2
  clear x0 x1
  obtain ⟨x0, x1⟩ := HX.out w2 hB2
  go_wp2_with fail
  refine (HSP.out _ _ w2 H2.out.rd (by omega)).mono ?_
  rintro e w3 ⟨rfl, hb3⟩
  have z3 : w2.heap.size ≤ w3.heap.size := hb3.size
  have hB3 := hB2.trans (hb3.mono (show w.heap.size + 1 ≤ _ by omega))
  replace HM0 := Lib.hid (Rep.below (R := FieldsR) HM0.out hb3 (by omega))
  replace H2 := Lib.hid (H2.out.below hb3 (by omega))
  clear x0 x1
  obtain ⟨x0, x1⟩ := HX.out w3 hB3
  clear H2
  have yy3_0 : w.heap.size < w3.heap.size := by omega
  go_wp2_with fail
  have hb4 := (Below.refl w3.heap.size w3).alloc (Nat.le_refl _) (.cells #[.int .i64 op, .string acct, .string other, .string hold, .string trace, .string mti, .int .i64 amount, .int .i64 ttl] 27)
  have hXW := heap_alloc_new w3 (.cells #[.int .i64 op, .string acct, .string other, .string hold, .string trace, .string mti, .int .i64 amount, .int .i64 ttl] 27)
  generalize w3.alloc (.cells #[.int .i64 op, .string acct, .string other, .string hold, .string trace, .string mti, .int .i64 amount, .int .i64 ttl] 27) = w4 at hb4 hXW ⊢
  have z4 : w3.heap.size ≤ w4.heap.size := hb4.size
  have zl4 : w3.heap.size < w4.heap.size := lt_of_block hXW
  have hB4 := hB3.trans (hb4.mono (show w.heap.size + 1 ≤ _ by omega))
  replace HM0 := Lib.hid (Rep.below (R := FieldsR) HM0.out hb4 (by omega))
  have XW := Lib.hid hXW
  clear hXW
  clear x0 x1
  obtain ⟨x0, x1⟩ := HX.out w4 hB4
  have XWc0 := cell_of_row _ _ 0 _ _ (0, 0) XW.out
  have XWc1 := cell_of_row _ _ 1 _ _ (0, 0) XW.out
  have XWc2 := cell_of_row _ _ 2 _ _ (0, 0) XW.out
  have XWc3 := cell_of_row _ _ 3 _ _ (0, 0) XW.out
  have XWc4 := cell_of_row _ _ 4 _ _ (0, 0) XW.out
  have XWc5 := cell_of_row _ _ 5 _ _ (0, 0) XW.out
  have XWc6 := cell_of_row _ _ 6 _ _ (0, 0) XW.out
  have XWc7 := cell_of_row _ _ 7 _ _ (0, 0) XW.out
  simp only [List.getElem?_toArray, List.getElem?_cons_zero, List.getElem?_cons_succ] at XWc0 XWc1 XWc2 XWc3 XWc4 XWc5 XWc6 XWc7
  go_wp2_with fail
  refine (toMsg_any w.heap.size m0 _ w4 hl0 HM0.out (by omega)).mono ?_
  rintro e w5 ⟨u5, rfl, hu5, hb5⟩
  obtain ⟨A5, c5, rfl, -⟩ := Rep.slice_form hu5.rd
  have z5 : w4.heap.size ≤ w5.heap.size := hb5.size
  have hB5 := hB4.trans (hb5.mono (show w.heap.size + 1 ≤ _ by omega))
  replace HM0 := Lib.hid (Rep.below (R := FieldsR) HM0.out hb5 (by omega))
  replace XW := Lib.hid ((hb5.block _ (by omega)).trans XW.out)
  have H4 := Lib.hid hu5
  clear x0 x1
  obtain ⟨x0, x1⟩ := HX.out w5 hB5
  clear XWc0 XWc1 XWc2 XWc3 XWc4 XWc5 XWc6 XWc7
  have XWc0 := cell_of_row _ _ 0 _ _ (0, 0) XW.out
  have XWc1 := cell_of_row _ _ 1 _ _ (0, 0) XW.out
  have XWc2 := cell_of_row _ _ 2 _ _ (0, 0) XW.out
  have XWc3 := cell_of_row _ _ 3 _ _ (0, 0) XW.out
  have XWc4 := cell_of_row _ _ 4 _ _ (0, 0) XW.out
  have XWc5 := cell_of_row _ _ 5 _ _ (0, 0) XW.out
  have XWc6 := cell_of_row _ _ 6 _ _ (0, 0) XW.out
  have XWc7 := cell_of_row _ _ 7 _ _ (0, 0) XW.out
  simp only [List.getElem?_toArray, List.getElem?_cons_zero, List.getElem?_cons_succ] at XWc0 XWc1 XWc2 XWc3 XWc4 XWc5 XWc6 XWc7
  have yy5_0 : w.heap.size < w5.heap.size := by omega
  have yy5XW : w3.heap.size < w5.heap.size := by omega
  go_wp2_with fail
  have hb6 := (Below.refl w5.heap.size w5).alloc (Nat.le_refl _) (.cells #[.string m0.1, .slice A5 m0.2.length c5] 32)
  have hX4 := heap_alloc_new w5 (.cells #[.string m0.1, .slice A5 m0.2.length c5] 32)
  generalize w5.alloc (.cells #[.string m0.1, .slice A5 m0.2.length c5] 32) = w6 at hb6 hX4 ⊢
  have z6 : w5.heap.size ≤ w6.heap.size := hb6.size
  have zl6 : w5.heap.size < w6.heap.size := lt_of_block hX4
  have hB6 := hB5.trans (hb6.mono (show w.heap.size + 1 ≤ _ by omega))
  replace HM0 := Lib.hid (Rep.below (R := FieldsR) HM0.out hb6 (by omega))
  replace XW := Lib.hid ((hb6.block _ (by omega)).trans XW.out)
  replace H4 := Lib.hid (H4.out.below hb6 (by omega))
  have X4 := Lib.hid hX4
  clear hX4
  clear x0 x1
  obtain ⟨x0, x1⟩ := HX.out w6 hB6
  clear XWc0 XWc1 XWc2 XWc3 XWc4 XWc5 XWc6 XWc7
  have XWc0 := cell_of_row _ _ 0 _ _ (0, 0) XW.out
  have XWc1 := cell_of_row _ _ 1 _ _ (0, 0) XW.out
  have XWc2 := cell_of_row _ _ 2 _ _ (0, 0) XW.out
  have XWc3 := cell_of_row _ _ 3 _ _ (0, 0) XW.out
  have XWc4 := cell_of_row _ _ 4 _ _ (0, 0) XW.out
  have XWc5 := cell_of_row _ _ 5 _ _ (0, 0) XW.out
  have XWc6 := cell_of_row _ _ 6 _ _ (0, 0) XW.out
  have XWc7 := cell_of_row _ _ 7 _ _ (0, 0) XW.out
  simp only [List.getElem?_toArray, List.getElem?_cons_zero, List.getElem?_cons_succ] at XWc0 XWc1 XWc2 XWc3 XWc4 XWc5 XWc6 XWc7
  have X4c0 := cell_of_row _ _ 0 _ _ (0, 0) X4.out
  have X4c1 := cell_of_row _ _ 1 _ _ (0, 0) X4.out
  simp only [List.getElem?_toArray, List.getElem?_cons_zero, List.getElem?_cons_succ] at X4c0 X4c1
  go_wp2_with fail
  refine (HIM.out _ _ w6 (HB0.out.trans (hB6.mono (by omega))) H4.out.rd (by omega)).mono ?_
  rintro e w7 ⟨rfl, hb7⟩
  have z7 : w6.heap.size ≤ w7.heap.size := hb7.size
  have hB7 := hB6.trans (hb7.mono (show w.heap.size + 1 ≤ _ by omega))
  replace HM0 := Lib.hid (Rep.below (R := FieldsR) HM0.out hb7 (by omega))
  replace XW := Lib.hid ((hb7.block _ (by omega)).trans XW.out)
  replace H4 := Lib.hid (H4.out.below hb7 (by omega))
  replace X4 := Lib.hid ((hb7.block _ (by omega)).trans X4.out)
  clear x0 x1
  obtain ⟨x0, x1⟩ := HX.out w7 hB7
  clear XWc0 XWc1 XWc2 XWc3 XWc4 XWc5 XWc6 XWc7
  clear X4c0 X4c1
  have XWc0 := cell_of_row _ _ 0 _ _ (0, 0) XW.out
  have XWc1 := cell_of_row _ _ 1 _ _ (0, 0) XW.out
  have XWc2 := cell_of_row _ _ 2 _ _ (0, 0) XW.out
  have XWc3 := cell_of_row _ _ 3 _ _ (0, 0) XW.out
  have XWc4 := cell_of_row _ _ 4 _ _ (0, 0) XW.out
  have XWc5 := cell_of_row _ _ 5 _ _ (0, 0) XW.out
  have XWc6 := cell_of_row _ _ 6 _ _ (0, 0) XW.out
  have XWc7 := cell_of_row _ _ 7 _ _ (0, 0) XW.out
  simp only [List.getElem?_toArray, List.getElem?_cons_zero, List.getElem?_cons_succ] at XWc0 XWc1 XWc2 XWc3 XWc4 XWc5 XWc6 XWc7
  have X4c0 := cell_of_row _ _ 0 _ _ (0, 0) X4.out
  have X4c1 := cell_of_row _ _ 1 _ _ (0, 0) X4.out
  simp only [List.getElem?_toArray, List.getElem?_cons_zero, List.getElem?_cons_succ] at X4c0 X4c1
  have yy7_0 : w.heap.size < w7.heap.size := by omega
  have yy7XW : w3.heap.size < w7.heap.size := by omega
  have yy7X4 : w5.heap.size < w7.heap.size := by omega
  go_wp2_with fail
  have hb8 := (Below.refl w7.heap.size w7).alloc (Nat.le_refl _) (.cells #[.int .i64 op, .string acct, .string other, .string hold, .string trace, .string mti, .int .i64 amount, .int .i64 ttl] 27)
  have hXG := heap_alloc_new w7 (.cells #[.int .i64 op, .string acct, .string other, .string hold, .string trace, .string mti, .int .i64 amount, .int .i64 ttl] 27)
  generalize w7.alloc (.cells #[.int .i64 op, .string acct, .string other, .string hold, .string trace, .string mti, .int .i64 amount, .int .i64 ttl] 27) = w8 at hb8 hXG ⊢
  have z8 : w7.heap.size ≤ w8.heap.size := hb8.size
  have zl8 : w7.heap.size < w8.heap.size := lt_of_block hXG
  have hB8 := hB7.trans (hb8.mono (show w.heap.size + 1 ≤ _ by omega))
  replace HM0 := Lib.hid (Rep.below (R := FieldsR) HM0.out hb8 (by omega))
  replace XW := Lib.hid ((hb8.block _ (by omega)).trans XW.out)
  replace H4 := Lib.hid (H4.out.below hb8 (by omega))
  replace X4 := Lib.hid ((hb8.block _ (by omega)).trans X4.out)
  have XG := Lib.hid hXG
  clear hXG
  clear x0 x1
  obtain ⟨x0, x1⟩ := HX.out w8 hB8
  clear XWc0 XWc1 XWc2 XWc3 XWc4 XWc5 XWc6 XWc7
  clear X4c0 X4c1
  have XWc0 := cell_of_row _ _ 0 _ _ (0, 0) XW.out
  have XWc1 := cell_of_row _ _ 1 _ _ (0, 0) XW.out
  have XWc2 := cell_of_row _ _ 2 _ _ (0, 0) XW.out
  have XWc3 := cell_of_row _ _ 3 _ _ (0, 0) XW.out
  have XWc4 := cell_of_row _ _ 4 _ _ (0, 0) XW.out
  have XWc5 := cell_of_row _ _ 5 _ _ (0, 0) XW.out
  have XWc6 := cell_of_row _ _ 6 _ _ (0, 0) XW.out
  have XWc7 := cell_of_row _ _ 7 _ _ (0, 0) XW.out
  simp only [List.getElem?_toArray, List.getElem?_cons_zero, List.getElem?_cons_succ] at XWc0 XWc1 XWc2 XWc3 XWc4 XWc5 XWc6 XWc7
  have X4c0 := cell_of_row _ _ 0 _ _ (0, 0) X4.out
  have X4c1 := cell_of_row _ _ 1 _ _ (0, 0) X4.out
  simp only [List.getElem?_toArray, List.getElem?_cons_zero, List.getElem?_cons_succ] at X4c0 X4c1
  have XGc0 := cell_of_row _ _ 0 _ _ (0, 0) XG.out
  have XGc1 := cell_of_row _ _ 1 _ _ (0, 0) XG.out
  have XGc2 := cell_of_row _ _ 2 _ _ (0, 0) XG.out
  have XGc3 := cell_of_row _ _ 3 _ _ (0, 0) XG.out
  have XGc4 := cell_of_row _ _ 4 _ _ (0, 0) XG.out
  have XGc5 := cell_of_row _ _ 5 _ _ (0, 0) XG.out
  have XGc6 := cell_of_row _ _ 6 _ _ (0, 0) XG.out
  have XGc7 := cell_of_row _ _ 7 _ _ (0, 0) XG.out
  simp only [List.getElem?_toArray, List.getElem?_cons_zero, List.getElem?_cons_succ] at XGc0 XGc1 XGc2 XGc3 XGc4 XGc5 XGc6 XGc7
  go_wp2_with fail
  refine (eqReq_any op acct other hold trace mti amount ttl w8).mono ?_
  rintro e w9 ⟨rfl, hb9⟩
  have z9 : w8.heap.size ≤ w9.heap.size := hb9.size
  have hB9 := hB8.trans (hb9.mono (show w.heap.size + 1 ≤ _ by omega))
  replace HM0 := Lib.hid (Rep.below (R := FieldsR) HM0.out hb9 (by omega))
  replace XW := Lib.hid ((hb9.block _ (by omega)).trans XW.out)
  replace H4 := Lib.hid (H4.out.below hb9 (by omega))
  replace X4 := Lib.hid ((hb9.block _ (by omega)).trans X4.out)
  replace XG := Lib.hid ((hb9.block _ (by omega)).trans XG.out)
  clear x0 x1
  obtain ⟨x0, x1⟩ := HX.out w9 hB9
  clear XWc0 XWc1 XWc2 XWc3 XWc4 XWc5 XWc6 XWc7
  clear X4c0 X4c1
  clear XGc0 XGc1 XGc2 XGc3 XGc4 XGc5 XGc6 XGc7
  have XWc0 := cell_of_row _ _ 0 _ _ (0, 0) XW.out
  have XWc1 := cell_of_row _ _ 1 _ _ (0, 0) XW.out
  have XWc2 := cell_of_row _ _ 2 _ _ (0, 0) XW.out
  have XWc3 := cell_of_row _ _ 3 _ _ (0, 0) XW.out
  have XWc4 := cell_of_row _ _ 4 _ _ (0, 0) XW.out
  have XWc5 := cell_of_row _ _ 5 _ _ (0, 0) XW.out
  have XWc6 := cell_of_row _ _ 6 _ _ (0, 0) XW.out
  have XWc7 := cell_of_row _ _ 7 _ _ (0, 0) XW.out
  simp only [List.getElem?_toArray, List.getElem?_cons_zero, List.getElem?_cons_succ] at XWc0 XWc1 XWc2 XWc3 XWc4 XWc5 XWc6 XWc7
  have X4c0 := cell_of_row _ _ 0 _ _ (0, 0) X4.out
  have X4c1 := cell_of_row _ _ 1 _ _ (0, 0) X4.out
  simp only [List.getElem?_toArray, List.getElem?_cons_zero, List.getElem?_cons_succ] at X4c0 X4c1
  have XGc0 := cell_of_row _ _ 0 _ _ (0, 0) XG.out
  have XGc1 := cell_of_row _ _ 1 _ _ (0, 0) XG.out
  have XGc2 := cell_of_row _ _ 2 _ _ (0, 0) XG.out
  have XGc3 := cell_of_row _ _ 3 _ _ (0, 0) XG.out
  have XGc4 := cell_of_row _ _ 4 _ _ (0, 0) XG.out
  have XGc5 := cell_of_row _ _ 5 _ _ (0, 0) XG.out
  have XGc6 := cell_of_row _ _ 6 _ _ (0, 0) XG.out
  have XGc7 := cell_of_row _ _ 7 _ _ (0, 0) XG.out
  simp only [List.getElem?_toArray, List.getElem?_cons_zero, List.getElem?_cons_succ] at XGc0 XGc1 XGc2 XGc3 XGc4 XGc5 XGc6 XGc7
  clear XWc0 XWc1 XWc2 XWc3 XWc4 XWc5 XWc6 XWc7
  clear XW
  clear XGc0 XGc1 XGc2 XGc3 XGc4 XGc5 XGc6 XGc7
  clear XG
  go_wp2
  have hD : Below w9.heap.size w9 w9.drew := below_drew w9 _
  have zD : w9.drew.heap.size = w9.heap.size := rfl
  go_region_held3 (fun V => V.cell? ⟨w5.heap.size, 0, none⟩ = some (.string m0.1) ∧ V.cell? ⟨w5.heap.size, 1, none⟩ = some (.slice A5 m0.2.length c5) ∧ V.cell? ⟨w.heap.size, 0, none⟩ = some (.string m0.1) ∧ V.cell? ⟨w.heap.size, 1, none⟩ = some (.slice AM0 m0.2.length cM0)) (go_keep) (first | (go_at_call 7; refine (toMsg_any w.heap.size m0 _ w9.drew hl0 (Rep.below (R := FieldsR) HM0.out hD (by omega)) (show w.heap.size ≤ w9.heap.size by omega)).mono ?_; rintro e w10 ⟨uq, rfl, huq, hbq⟩; have hbq : Below w9.heap.size w9.drew w10 := hbq; have huq : FieldsR.mine w9.heap.size w10.heap.size w10 [uq] m0.2 := huq; have zq : w9.heap.size ≤ w10.heap.size := hbq.size; have qa0 := (hbq.cell (p := ⟨w5.heap.size, 0, none⟩) (show w5.heap.size < _ by omega)).trans X4c0; have qa1 := (hbq.cell (p := ⟨w5.heap.size, 1, none⟩) (show w5.heap.size < _ by omega)).trans X4c1; have qa2 := (hbq.cell (p := ⟨w.heap.size, 0, none⟩) (show w.heap.size < _ by omega)).trans x0; have qa3 := (hbq.cell (p := ⟨w.heap.size, 1, none⟩) (show w.heap.size < _ by omega)).trans x1) | (go_at_call 10; refine (eqMsg_any _ _ _ _ m0 w10 ht0 (by omega) (H4.out.below (hD.trans hbq) (by omega)).rd huq.rd (by omega) (Nat.le_refl _)).mono ?_; rintro e w11 ⟨rfl, hbr⟩; have zr : w10.heap.size ≤ w11.heap.size := hbr.size; have qb0 := (hbr.cell (p := ⟨w5.heap.size, 0, none⟩) (show w5.heap.size < _ by omega)).trans qa0; have qb1 := (hbr.cell (p := ⟨w5.heap.size, 1, none⟩) (show w5.heap.size < _ by omega)).trans qa1; have qb2 := (hbr.cell (p := ⟨w.heap.size, 0, none⟩) (show w.heap.size < _ by omega)).trans qa2; have qb3 := (hbr.cell (p := ⟨w.heap.size, 1, none⟩) (show w.heap.size < _ by omega)).trans qa3))
  have hb11 : Below w9.heap.size w9 w11 := (hD.trans (hbq.mono (show w9.heap.size ≤ _ by omega))).trans (hbr.mono (show w9.heap.size ≤ _ by omega))
  have hB11 := hB9.trans (hb11.mono (show w.heap.size + 1 ≤ _ by omega))
  have z11 : w9.heap.size ≤ w11.heap.size := hb11.size
  clear hbq hbr huq qa0 qa1 qa2 qa3 qb0 qb1 qb2 qb3 hD zD
  replace HM0 := Lib.hid (Rep.below (R := FieldsR) HM0.out hb11 (by omega))
  replace H4 := Lib.hid (H4.out.below hb11 (by omega))
  replace X4 := Lib.hid ((hb11.block _ (by omega)).trans X4.out)
  clear x0 x1
  obtain ⟨x0, x1⟩ := HX.out w11 hB11
  clear X4c0 X4c1
  have X4c0 := cell_of_row _ _ 0 _ _ (0, 0) X4.out
  have X4c1 := cell_of_row _ _ 1 _ _ (0, 0) X4.out
  simp only [List.getElem?_toArray, List.getElem?_cons_zero, List.getElem?_cons_succ] at X4c0 X4c1
  go_wp2
  go_ret
  exact ⟨rfl, (HB0.out.trans (hB11.mono (by omega)))⟩

set_option maxRecDepth 100000 in
theorem t0 : (Tryz.prog.globals[1]?).map (·.type) = some 126 := by kernel_rfl
set_option maxRecDepth 100000 in
theorem g0 : Tryz.prog.globalNamed "loop.example/g00735/impl.errNotDigits" = some 1 := by kernel_rfl
set_option maxRecDepth 100000 in
theorem cellsE : Tryz.prog.cellsOf 214 = 1 := by kernel_rfl
set_option maxRecDepth 100000 in
theorem cellsS : Tryz.prog.cellsOf 9 = 1 := by kernel_rfl
set_option maxRecDepth 100000 in
theorem star : "*" ++ "errors.errorString" = "*errors.errorString" := by decide
set_option maxRecDepth 100000 in
theorem rowE (u : TypeId) (h : Tryz.prog.typeName? 3 u = some "*errors.errorString") : u = 200 :=
  typeName_ptr_named (nm := "errors.errorString") (by rw [star]; kernel_rfl) (by kernel_rfl) (by decide) u (by rw [star]; exact h)
set_option maxRecDepth 100000 in
theorem datO : (Rows.laid_loop_example_g00735_impl_opTable : DataW Unit) = opDat := by kernel_rfl

set_option maxRecDepth 100000 in
theorem laidOut : laidOutB Tryz.prog = true := by kernel_rfl
set_option maxRecDepth 100000 in
theorem rowed : allRowed Tryz.prog Tryz.f3.params.toList = true := by kernel_rfl
set_option maxRecDepth 100000 in
theorem resT : Tryz.f3.resultTypes = #[4] := by kernel_rfl
set_option maxRecDepth 100000 in
theorem door_met (os : Os) (args : Array Value) : laidMetH Tryz.prog Rows.fnExactReqOfRow.laid ((World.laidAll Tryz.prog os Rows.fnExactReqOfRow.laid).forCall (fun _ _ => 0) ⟨#[], args, []⟩).memory :=
  by rw [MakeChecks.laidMetH_plain _ _ _ (by kernel_rfl)]; exact laidMet_laidAll _ (by kernel_rfl) (by kernel_rfl)

set_option maxRecDepth 100000 in
theorem lifted (os : Os) (started : os.Started) (H : Type) (enc : TypeId × Value → H) (F : Stop.Interp) :
    ReturnsInHanded {} Tryz.checked os 3 .any ((OpenSpec.ofChange Rows.fnExactReqOfSpec).preRow enc Tryz.prog Tryz.f3 Rows.fnExactReqOfRow.domain false Rows.fnExactReqOfRow.laid)
      (((OpenSpec.ofChange Rows.fnExactReqOfSpec).at F).post enc Tryz.prog Tryz.f3 false true false false) := by
  refine returnsInHanded_of_row (C := Tryz.checked) (s := OpenSpec.ofChange Rows.fnExactReqOfSpec) own started (by kernel_rfl) Tryz.func3
    (ChangeSpec.witness_shaped (s := Rows.fnExactReqOfSpec) (enc := enc) (C := Tryz.checked) (os := os) (X := fun w _ => laidMetH Tryz.prog Rows.fnExactReqOfRow.laid w) false (World.laidAll Tryz.prog os Rows.fnExactReqOfRow.laid) #[.agg #[.string ByteArray.empty, .slice none 0 0]] 8 rfl (World.shaped_of_ZipB (by kernel_rfl) (by kernel_rfl)) (by kernel_rfl) (by kernel_rfl) (by kernel_rfl) (door_met os _)) ?_
  intro W base args ds gs before hval0 hW _ _ _ hL0 hsh _
  have hval : ∀ (j : Nat) t v, Tryz.f3.params[j]? = some t → args[j]? = some v → Value.okWide Tryz.prog W .any base t v := hval0
  have hW' := hW
  obtain ⟨p, q, hA0, hV, rfl, hfz, hnd⟩ := hW
  have hA : DataW.TrodAll enc Tryz.prog W 0 (fun _ => true) true Tryz.f3.params.toList args.toList ds p := hA0
  rw [Tryz.params3] at hA hval
  have hL := hL0
  rw [MakeChecks.laidMetH_plain _ _ _ (by kernel_rfl)] at hL
  obtain ⟨b0, s0, hv0, _, _, _⟩ := laid_sentinel hL.tail.tail.tail.tail g0 t0 Tryz.underlying126 rowE Tryz.underlying200 Tryz.underlying214 rfl rfl Tryz.underlying9 cellsE cellsS
  have hc0 : W.cell? ⟨1, 0, none⟩ = some (.iface 200 (.pointer (some b0))) := by simpa using World.var?_cell g0 hv0 0
  have hlt0 : 1 < W.heap.size := by
    rcases Nat.lt_or_ge 1 W.heap.size with h | h
    · exact h
    · simp [World.cell?, Array.getElem?_eq_none h] at hc0
  have hvO := ops_var (rest := _) (W := W) (by rw [← datO]; exact hL.tail.tail.tail.tail.tail)
  have hops : opsIn W := ops_in hvO
  have hltO := hops.lt
  obtain ⟨v0, vs0, d0, ds0, p0, q0, hargs, rfl, rfl, h0, r0⟩ := trodAll_cons hA
  obtain ⟨rfl, rfl, rfl⟩ := trodAll_nil r0
  obtain rfl : args = #[v0] := by cases args; simp_all
  obtain ⟨rfl, rfl⟩ := hV.unique (ops_err enc g0 t0 Tryz.underlying126 hv0 trivial (vars_ops enc _ hvO (ops_nil enc _)))
  obtain ⟨m0, u0, rfl, w0, z0, n0, y0⟩ := open_msg (hval 0 24 v0 rfl rfl) h0
  clear hA0 hval0
  refine (walk W _ hc0 hops _ _ w0 z0 n0 y0).mono fun e W' ⟨he, hg⟩ => ?_
  subst he
  exact ⟨_, rfl, post_true laidOut rowed hW' rfl resT Tryz.underlying4 hg (ops_err enc g0 t0 Tryz.underlying126 (var?_below hg g0 hlt0 hv0) trivial (vars_ops enc _ (var?_below hg gOps hltO hvO) (ops_nil enc _)))⟩

set_option maxRecDepth 100000 in
theorem over : Rows.fnExactReqOfRow.holds Tryz.pinned (OpenSpec.ofChange Rows.fnExactReqOfSpec) :=
  OpenClaim.holds_of_cond 3 Tryz.f3 rfl rfl rfl rfl rfl rfl rfl ⟨rfl, rfl, rfl, rfl, rfl⟩ rfl rfl rfl rfl rfl (by kernel_rfl) Tryz.func3 (by kernel_rfl)
    (of_decide_eq_true (by kernel_rfl)) (by unfold Func.isWrapper; first | (rw [if_pos (by decide +kernel)]; kernel_rfl) | (rw [if_neg (by decide +kernel)]; exact ⟨rfl, rfl⟩))
    (fun os started H enc _ F => by rw [OpenClaim.pre_eq_preRow]; exact lifted os started H enc F)

set_option maxRecDepth 100000 in
theorem said : Rows.FnExactReqOfSaid :=
  over

set_option maxRecDepth 100000 in
theorem plain (f : FuncId) (fn : Func) (hf : Tryz.pinned.checked.prog.funcNamed "loop.example/g00735/laws.FnExactReqOf" = some f) (hfn : Tryz.pinned.checked.prog.funcs[f]? = some fn) :
    Rows.fnExactReqOfCard.stood.looks = Tryz.pinned.checked.prog.looks [] ∧ ∀ (j : Nat) t, fn.params[j]? = some t → Tryz.pinned.checked.prog.wantsStandIn t = false := by
  obtain rfl : f = 3 := Option.some.inj ((show Tryz.prog.funcNamed "loop.example/g00735/laws.FnExactReqOf" = some 3 by kernel_rfl).symm.trans hf) |>.symm
  obtain rfl : fn = Tryz.f3 := (Option.some.inj (Tryz.func3.symm.trans hfn)).symm
  refine ⟨by kernel_rfl, fun j t ht => ?_⟩
  rw [Tryz.params3] at ht
  have hm : t ∈ [24] := by simpa using Array.mem_of_getElem? ht
  have hall : ([24].all fun u => !Tryz.prog.wantsStandIn u) = true := by kernel_rfl
  exact (show Tryz.prog.wantsStandIn t = false by simpa using List.all_eq_true.1 hall t hm)

set_option maxRecDepth 100000 in
theorem proved : Rows.FnExactReqOfCardSaid :=
  Claim7.holds_tied_plain_at .later [] _ _ _ _ said (fun _ h => by cases h) (by kernel_rfl) (fun _ h => by cases h) fnExactReqOf_row_tie rfl ⟨rfl, rfl⟩ (by kernel_rfl) rfl plain (by kernel_rfl)
#print axioms proved
end Go.Proofs.YtmojpiofdfmdgabGreatDoor.fnExactReqOf
