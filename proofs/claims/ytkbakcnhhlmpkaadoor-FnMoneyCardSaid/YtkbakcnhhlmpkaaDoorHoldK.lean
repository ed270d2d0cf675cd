/- HoldsOk of the reference; no conditions. -/
import Derived.Test.YtkbakcnhhlmpkaaDoorHoldS
import Derived.Test.YtkbakcnhhlmpkaaDoorQuiet
import Derived.Deep.DeepCutAuto
set_option linter.unusedVariables false
namespace Go.Proofs.YtkbakcnhhlmpkaaDoor
open Go.ChangeShapes Go.WideShapes Go.ChangeAt Go.RowKit

set_option maxRecDepth 100000 in
theorem holds_ok_not {l : List HoldD} {i : Nat} (hi : i < l.length) (h : holdAtOk l i = false) : holdsOk l = false := by
  unfold holdsOk
  have : (List.range l.length).all (holdAtOk l) = false := by
    rw [List.all_eq_false]
    exact ⟨i, List.mem_range.2 hi, by rw [h]; exact Bool.false_ne_true⟩
  rw [this]; rfl
set_option maxRecDepth 100000 in
theorem holds_ok_end {l : List HoldD} (h : (List.range l.length).all (holdAtOk l) = true) : holdsOk l = decide (l.length ≤ 4) := by
  unfold holdsOk; rw [h]; rfl
set_option maxRecDepth 100000 in
theorem range_snoc {l : List HoldD} {i : Nat} (h : (List.range i).all (holdAtOk l) = true) (h1 : holdAtOk l i = true) : (List.range (i + 1)).all (holdAtOk l) = true := by
  rw [List.range_succ, List.all_append, h]
  simp [h1]
set_option maxRecDepth 100000 in
set_option maxHeartbeats 1600000 in
theorem specHoldsOk_any (hi : Nat) (v : Value) (l : List HoldD) (w : World) (hn : l.length ≤ 1048576) (hs : ∀ x ∈ l, x.1.size ≤ maxLen) (h : HoldsR.rd hi w [v] l) (hh : hi ≤ w.heap.size) :
    Calls Tryd.prog 52 #[v] w fun e w' => e = .returned (.bool (holdsOk l)) ∧ Below w.heap.size w w' := by
  obtain ⟨A, c, rfl, hc, h⟩ := holds_rd h
  have HR := Lib.hid h
  have HS := Lib.hid hs
  clear h hs
  go_enter Tryd.func52, Tryd.ntmps52
  go_wp2
  go_loopw [7] (fun iv wr => ∃ i : Nat, i ≤ l.length ∧ iv = .int .i64 i ∧ Hid ((List.range i).all (holdAtOk l) = true) ∧ Hid (Below w.heap.size w wr) ∧ w.heap.size ≤ wr.heap.size) (fun iv _ => l.length - (intOf iv).toNat)
  case atStart => exact ⟨0, Nat.zero_le _, rfl, Lib.hid rfl, Lib.hid (Below.refl _ _), Nat.le_refl _⟩
  case round =>
    obtain ⟨i, hi', rfl, HN, HB, hz⟩ := hrel
    by_cases hin : i < l.length
    · obtain ⟨x, hx⟩ : ∃ x, l[i]? = some x := ⟨_, List.getElem?_eq_getElem hin⟩
      obtain ⟨p, hp⟩ : ∃ p, l[i - 1]? = some p := ⟨_, List.getElem?_eq_getElem (by omega : i - 1 < l.length)⟩
      have HXD : Hid (holdAtOk l i = (holdOk x && (decide (i = 0) || Op.bytesLess p.1.toList x.1.toList))) := Lib.hid (by
        unfold holdAtOk strLt
        rw [getD_of hx, getD_of hp])
      obtain ⟨b, off, rfl, hbl, c0, c1, c2⟩ := HR.out i x hx
      obtain ⟨b', off', e', -, d0, -, -⟩ := HR.out (i - 1) p hp
      simp only [Option.some.injEq, Addr.mk.injEq, and_true] at e'
      obtain ⟨rfl, rfl⟩ := e'
      have c0 := (HB.out.cell (p := ⟨b, off + i * 3, none⟩) (show b < w.heap.size by omega)).trans c0
      have c1 := (HB.out.cell (p := ⟨b, off + i * 3 + 1, none⟩) (show b < w.heap.size by omega)).trans c1
      have c2 := (HB.out.cell (p := ⟨b, off + i * 3 + 2, none⟩) (show b < w.heap.size by omega)).trans c2
      have d0 := (HB.out.cell (p := ⟨b, off + (i - 1) * 3, none⟩) (show b < w.heap.size by omega)).trans d0
      have g1 : (i : Int) < (l.length : Int) := by omega
      have g2 : 0 ≤ (i : Int) := by omega
      have hxs := HS.out x (List.mem_of_getElem? hx)
      have HOK := Lib.hid (fun W => specHoldOk_any x W hxs)
      obtain ⟨d, hd⟩ : ∃ d : Nat, d = i - 1 := ⟨_, rfl⟩
      rw [← hd] at d0
      have HDI := Lib.hid hd
      clear hx hp hd
      go_upto_region 4 with fail
      obtain ⟨W3, hW3⟩ : ∃ W3, W3 = wr.alloc (.cells #[.string x.1, .int .i64 x.2.1, .int .i64 x.2.2] 87) := ⟨_, rfl⟩
      have b3 := heap_alloc_new wr (.cells #[.string x.1, .int .i64 x.2.1, .int .i64 x.2.2] 87)
      have hb3 := (Below.refl wr.heap.size wr).alloc (Nat.le_refl _) (.cells #[.string x.1, .int .i64 x.2.1, .int .i64 x.2.2] 87)
      rw [← hW3] at b3 hb3 ⊢
      clear hW3
      have z3 : wr.heap.size < W3.heap.size := lt_of_block b3
      have HB3 : Hid (Below w.heap.size w W3) := Lib.hid (HB.out.trans (hb3.mono hz))
      have P0 := Lib.hid (cell_of_row _ _ 0 _ _ (0, 0) b3)
      have P1 := Lib.hid (cell_of_row _ _ 1 _ _ (0, 0) b3)
      have P2 := Lib.hid (cell_of_row _ _ 2 _ _ (0, 0) b3)
      simp only [List.getElem?_toArray, List.getElem?_cons_zero, List.getElem?_cons_succ] at P0 P1 P2
      have D0 := Lib.hid ((hb3.cell (p := ⟨b, off + d * 3, none⟩) (show b < wr.heap.size by omega)).trans d0)
      clear b3 hb3 c0 c1 c2 d0
      obtain ⟨ok, hok⟩ : ∃ ok, ok = holdAtOk l i := ⟨_, rfl⟩
      rw [← hok] at HXD
      have HOKI : Hid (holdAtOk l i = ok) := Lib.hid hok.symm
      clear hok
      generalize holdOk x = hk at HOK HXD
      go_cut [29] (fun cv wx => cv = .bool (!(hk && (decide (i = 0) || Op.bytesLess p.1.toList x.1.toList))) ∧ Below W3.heap.size W3 wx)
      case first =>
        have HX : Hid (Ext W3 W3.drew) := Lib.hid (Ext.refl W3).drew
        cases hk
        · refine quiet_region (C := Ext W3) (by kernel_rfl) (by kernel_rfl) HX.out ?_
          repeat (first
            | go_big_quiet_skip
            | (go_big_quiet_want; go_big_quiet_op; go_big_quiet_on)
            | (go_big_quiet_want; go_big_quiet_op; apply Exists.intro; refine ⟨fun _ _ => rfl, ?_⟩; go_big_quiet_on)
            | (go_big_quiet_want
               apply Exists.intro
               refine ⟨fun W hW => ?_, ?_⟩
               (have q0 := hW.cell P0.out z3
                have q1 := hW.cell P1.out z3
                have q2 := hW.cell P2.out z3
                have q3 := hW.cell D0.out (by omega)
                unfold Oper.quietAt
                go_simp
                rfl)
               simp only [Act.put, List.setIfInBounds_toArray, List.set_cons_zero, List.set_cons_succ]
               go_big_quiet_on)
            | (go_big_quiet_want
               apply Exists.intro
               refine ⟨fun W hW => ?_, ?_⟩
               (unfold Oper.quietAt
                go_simp
                go_at_call 66
                refine (HOK.out W).mono ?_
                rintro e w4 ⟨rfl, hb4⟩
                exact ⟨rfl, hW.step hb4⟩)
               simp only [Act.put, List.setIfInBounds_toArray, List.set_cons_zero, List.set_cons_succ]
               go_big_quiet_on))
          refine wpQuiet_nil ?_
          intro W4 hW4
          go_wp2
          go_meet
          exact ⟨rfl, hW4⟩
        by_cases hi0 : i = 0
        · have HI0 : Hid (decide (0 < i) = false) := Lib.hid (decide_eq_false (by omega))
          have HV : Hid (decide (i = 0) = true) := Lib.hid (decide_eq_true hi0)
          clear hi0
          refine quiet_region (C := Ext W3) (by kernel_rfl) (by kernel_rfl) HX.out ?_
          repeat (first
            | go_big_quiet_skip
            | (go_big_quiet_want; go_big_quiet_op; go_big_quiet_on)
            | (go_big_quiet_want; go_big_quiet_op; apply Exists.intro; refine ⟨fun _ _ => rfl, ?_⟩; go_big_quiet_on)
            | (go_big_quiet_want
               apply Exists.intro
               refine ⟨fun W hW => ?_, ?_⟩
               (have q0 := hW.cell P0.out z3
                have q1 := hW.cell P1.out z3
                have q2 := hW.cell P2.out z3
                have q3 := hW.cell D0.out (by omega)
                unfold Oper.quietAt
                go_simp
                rfl)
               simp only [Act.put, List.setIfInBounds_toArray, List.set_cons_zero, List.set_cons_succ]
               go_big_quiet_on)
            | (go_big_quiet_want
               apply Exists.intro
               refine ⟨fun W hW => ?_, ?_⟩
               (unfold Oper.quietAt
                go_simp
                go_at_call 66
                refine (HOK.out W).mono ?_
                rintro e w4 ⟨rfl, hb4⟩
                exact ⟨rfl, hW.step hb4⟩)
               simp only [Act.put, List.setIfInBounds_toArray, List.set_cons_zero, List.set_cons_succ]
               go_big_quiet_on))
          rw [HI0.out]
          repeat (first
            | go_big_quiet_skip
            | (go_big_quiet_want; go_big_quiet_op; go_big_quiet_on)
            | (go_big_quiet_want; go_big_quiet_op; apply Exists.intro; refine ⟨fun _ _ => rfl, ?_⟩; go_big_quiet_on))
          refine wpQuiet_nil ?_
          intro W4 hW4
          go_wp2
          go_meet
          exact ⟨by rw [HV.out]; rfl, hW4⟩
        have hi1 : decide (0 < i) = true := decide_eq_true (by omega)
        have HV : Hid (decide (i = 0) = false) := Lib.hid (decide_eq_false hi0)
        have gw : IntKind.i64.wrap ((i : Int) - 1) = (d : Int) := by have := HDI.out; rw [IntKind.wrap_i64]; omega
        have gw2 : wrap64 ((i : Int) - 1) = (d : Int) := by have := HDI.out; unfold wrap64; omega
        have gd : (d : Int) < (l.length : Int) := by have := HDI.out; omega
        have gd0 : 0 ≤ (d : Int) := by omega
        clear hi0
        cases hbl : Op.bytesLess p.1.toList x.1.toList
        · refine quiet_region (C := Ext W3) (by kernel_rfl) (by kernel_rfl) HX.out ?_
          repeat (first
            | go_big_quiet_skip
            | (go_big_quiet_want; go_big_quiet_op; go_big_quiet_on)
            | (go_big_quiet_want; go_big_quiet_op; apply Exists.intro; refine ⟨fun _ _ => rfl, ?_⟩; go_big_quiet_on)
            | (go_big_quiet_want
               apply Exists.intro
               refine ⟨fun W hW => ?_, ?_⟩
               (have q0 := hW.cell P0.out z3
                have q1 := hW.cell P1.out z3
                have q2 := hW.cell P2.out z3
                have q3 := hW.cell D0.out (by omega)
                unfold Oper.quietAt
                go_simp
                rfl)
               simp only [Act.put, List.setIfInBounds_toArray, List.set_cons_zero, List.set_cons_succ]
               go_big_quiet_on)
            | (go_big_quiet_want
               apply Exists.intro
               refine ⟨fun W hW => ?_, ?_⟩
               (unfold Oper.quietAt
                go_simp
                go_at_call 66
                refine (HOK.out W).mono ?_
                rintro e w4 ⟨rfl, hb4⟩
                exact ⟨rfl, hW.step hb4⟩)
               simp only [Act.put, List.setIfInBounds_toArray, List.set_cons_zero, List.set_cons_succ]
               go_big_quiet_on))
          refine wpQuiet_nil ?_
          intro W4 hW4
          go_wp2
          go_meet
          exact ⟨by rw [HV.out, hbl]; rfl, hW4⟩
        · refine quiet_region (C := Ext W3) (by kernel_rfl) (by kernel_rfl) HX.out ?_
          repeat (first
            | go_big_quiet_skip
            | (go_big_quiet_want; go_big_quiet_op; go_big_quiet_on)
            | (go_big_quiet_want; go_big_quiet_op; apply Exists.intro; refine ⟨fun _ _ => rfl, ?_⟩; go_big_quiet_on)
            | (go_big_quiet_want
               apply Exists.intro
               refine ⟨fun W hW => ?_, ?_⟩
               (have q0 := hW.cell P0.out z3
                have q1 := hW.cell P1.out z3
                have q2 := hW.cell P2.out z3
                have q3 := hW.cell D0.out (by omega)
                unfold Oper.quietAt
                go_simp
                rfl)
               simp only [Act.put, List.setIfInBounds_toArray, List.set_cons_zero, List.set_cons_succ]
               go_big_quiet_on)
            | (go_big_quiet_want
               apply Exists.intro
               refine ⟨fun W hW => ?_, ?_⟩
               (unfold Oper.quietAt
                go_simp
                go_at_call 66
                refine (HOK.out W).mono ?_
                rintro e w4 ⟨rfl, hb4⟩
                exact ⟨rfl, hW.step hb4⟩)
               simp only [Act.put, List.setIfInBounds_toArray, List.set_cons_zero, List.set_cons_succ]
               go_big_quiet_on))
          refine wpQuiet_nil ?_
          intro W4 hW4
          go_wp2
          go_meet
          exact ⟨by rw [HV.out, hbl]; rfl, hW4⟩
      case rest =>
        obtain ⟨rfl, hbc⟩ := hcut
        have HBC : Hid (Below w.heap.size w wc) := Lib.hid (HB3.out.trans (hbc.mono (by omega)))
        have zc : w.heap.size ≤ wc.heap.size := HBC.out.size
        rw [← HXD.out]
        cases ok
        · have HV : Hid (holdsOk l = false) := Lib.hid (holds_ok_not hin HOKI.out)
          go_wp2
          go_ret
          exact ⟨ret_bool HV.out.symm, HBC.out⟩
        · go_wp2
          go_roundw
          case rel => exact ⟨i + 1, by omega, by go_num, Lib.hid (range_snoc HN.out HOKI.out), HBC, zc⟩
          case measure => simp [intOf] <;> omega
    · obtain rfl : i = l.length := by omega
      have HV : Hid (holdsOk l = decide (l.length ≤ 4)) := Lib.hid (holds_ok_end HN.out)
      go_wp2
      go_ret
      exact ⟨ret_bool (by rw [HV.out]; simp; omega), HB.out⟩
end Go.Proofs.YtkbakcnhhlmpkaaDoor
