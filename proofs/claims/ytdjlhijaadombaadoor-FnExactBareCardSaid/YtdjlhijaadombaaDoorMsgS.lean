/- The reference's messages: is one valid; no conditions. -/
import Derived.Test.YtdjlhijaadombaaDoorField
import Derived.Test.YtdjlhijaadombaaDoorFieldOk
import Derived.Test.YtdjlhijaadombaaDoorMti
import Derived.IntWalk
set_option linter.unusedVariables false
namespace Go.Proofs.YtdjlhijaadombaaDoor
open Go.ChangeShapes Go.WideShapes Go.ChangeAt Go.RowKit

set_option maxRecDepth 100000 in
theorem flip_w {P : Program} {f : FuncId} {args : Array Value} {w : World} {v : Ending} (h : Calls P f args w fun e w' => e = v ∧ w = w') : Calls P f args w fun e w' => e = v ∧ w' = w := h.mono fun _ _ ⟨h1, h2⟩ => ⟨h1, h2.symm⟩
/-- is element j a right field, behind the one before it -/
def stepOk (l : List FieldD) (j : Nat) : Bool := fOk (l.getD j noF).1 (l.getD j noF).2 && (decide (j = 0) || decide ((l.getD (j - 1) noF).1 < (l.getD j noF).1))
def listOk (l : List FieldD) : Bool := (List.range l.length).all (stepOk l)
def msgOk (m : MsgD) : Bool := mtiOk m.1 && listOk m.2
set_option maxRecDepth 100000 in
theorem listOk_yes {l : List FieldD} (h : ∀ j, j < l.length → stepOk l j = true) : listOk l = true := by
  unfold listOk; rw [List.all_eq_true]; intro j hj; exact h j (by simpa using hj)
set_option maxRecDepth 100000 in
theorem listOk_no {l : List FieldD} {j : Nat} (hj : j < l.length) (h : stepOk l j = false) : listOk l = false := by
  unfold listOk; rw [List.all_eq_false]; exact ⟨j, by simpa using hj, by simp [h]⟩
set_option maxRecDepth 100000 in
theorem listOk_at {l : List FieldD} (h : listOk l = true) (j : Nat) (hj : j < l.length) : stepOk l j = true := by
  unfold listOk at h; rw [List.all_eq_true] at h; exact h j (by simpa using hj)

set_option maxRecDepth 100000 in
set_option maxHeartbeats 4000000 in
theorem specMsgOk_any (hi : Nat) (v : Value) (m : MsgD) (w : World) (hm : m.1.size ≤ maxLen) (hn : m.2.length ≤ 1048576) (hs : ∀ x ∈ m.2, x.2.size ≤ maxLen) (h : FieldsR.rd hi w [v] m.2) (hh : hi ≤ w.heap.size) :
    Calls Tryd.prog 18 #[.agg #[.string m.1, v]] w fun e w' => e = .returned (.bool (msgOk m)) ∧ Below w.heap.size w w' := by
  obtain ⟨A, c, rfl, hc, h'⟩ := fields_rd h
  have HR := Lib.hid h'
  have HS := Lib.hid hs
  clear h' hs h
  have HD := Lib.hid (fun w' => specDigits_any m.1 w' hm)
  unfold maxLen at hm
  cases hd : digs m.1
  · have HM : Hid (msgOk m = false) := Lib.hid (by simp [msgOk, mtiOk, hd])
    rw [HM.out]
    have HDD := Lib.hid hd
    clear hd
    go_enter Tryd.func18, Tryd.ntmps18
    go_wp2_with fail
    refine (HD.out _).mono ?_
    rw [HDD.out]
    rintro e w1 ⟨rfl, rfl⟩
    go_wp2
    go_ret
    exact ⟨rfl, (Below.refl _ _).alloc (Nat.le_refl _) _⟩
  by_cases h4 : m.1.size = 4
  · have HM : Hid (msgOk m = listOk m.2) := Lib.hid (by simp [msgOk, mtiOk, hd, h4])
    rw [HM.out]
    have HDD := Lib.hid hd
    clear hd
    have h4' : ((m.1.size : Int) != 4) = false := by simp [h4]
    have H4 := Lib.hid h4
    clear h4 HM
    go_enter Tryd.func18, Tryd.ntmps18
    go_wp2_with fail
    refine (HD.out _).mono ?_
    rw [HDD.out]
    rintro e w1 ⟨rfl, rfl⟩
    go_wp2
    have hbx := ((Below.refl w.heap.size w).alloc (Nat.le_refl _) (.cells #[.string m.1, .slice A m.2.length c] 29))
    have HBX := Lib.hid hbx
    have hbox : (w.alloc (.cells #[.string m.1, .slice A m.2.length c] 29)).cell? ⟨w.heap.size, 1, none⟩ = some (.slice A m.2.length c) := cell_of_row _ _ 1 _ _ (0, 0) (heap_alloc_new _ _)
    have HBO := Lib.hid hbox
    clear hbx hbox
    go_loopw [18] (fun iv wr => ∃ i : Nat, i ≤ m.2.length ∧ iv = .int .i64 i ∧ Hid (∀ j, j < i → stepOk m.2 j = true) ∧ Hid (Below (w.heap.size + 1) (w.alloc (.cells #[.string m.1, .slice A m.2.length c] 29)) wr) ∧ w.heap.size < wr.heap.size) (fun iv _ => m.2.length - (intOf iv).toNat)
    case atStart => exact ⟨0, Nat.zero_le _, rfl, Lib.hid (fun j hj => absurd hj (by omega)), Lib.hid (Below.refl _ _), by simp⟩
    case round =>
      obtain ⟨i, hi', rfl, HG, HB, hz⟩ := hrel
      by_cases hin : i < m.2.length
      · obtain ⟨x, hx⟩ : ∃ x, m.2[i]? = some x := ⟨_, List.getElem?_eq_getElem hin⟩
        obtain ⟨b, off, rfl, hbl, c0, c1⟩ := HR.out i x hx
        have hxs := HS.out x (List.mem_of_getElem? hx)
        have HX : Hid (m.2.getD i noF = x) := Lib.hid (getD_of hx)
        have c0 := (HB.out.cell (p := ⟨b, off + i * 2, none⟩) (show b < w.heap.size + 1 by omega)).trans ((HBX.out.cell (p := ⟨b, off + i * 2, none⟩) (show b < w.heap.size by omega)).trans c0)
        have c1 := (HB.out.cell (p := ⟨b, off + i * 2 + 1, none⟩) (show b < w.heap.size + 1 by omega)).trans ((HBX.out.cell (p := ⟨b, off + i * 2 + 1, none⟩) (show b < w.heap.size by omega)).trans c1)
        have hbox := (HB.out.cell (p := ⟨w.heap.size, 1, none⟩) (show w.heap.size < w.heap.size + 1 by omega)).trans HBO.out
        have g1 : (i : Int) < (m.2.length : Int) := by omega
        have g2 : 0 ≤ (i : Int) := by omega
        have HQ := Lib.hid (fun w' => flip_w (specFieldOk_any x.1 x.2 w' hxs))
        have HBW : Hid (Below w.heap.size w wr) := Lib.hid (HBX.out.trans (HB.out.mono (by omega)))
        have HBN : Hid (∀ o q, Below (w.heap.size + 1) (w.alloc (.cells #[.string m.1, .slice (some ⟨b, off, none⟩) m.2.length c] 29)) ((wr.alloc o).drewN q)) := Lib.hid fun o q => below_drewN (HB.out.alloc (by omega) o) q
        clear hx
        cases hf : fOk x.1 x.2
        · have HF : Hid (listOk m.2 = false) := Lib.hid (listOk_no hin (by unfold stepOk; rw [HX.out, hf]; rfl))
          rw [hf] at HQ
          clear hf
          go_wp2
          go_quiet ((go_at_call 25; exact Calls.quiet_of_same (HQ.out _)))
          go_wp2
          go_ret
          exact ⟨ret_bool HF.out.symm, below_drewN (HBW.out.alloc (by omega) _) _⟩
        rcases Nat.eq_zero_or_pos i with rfl | hpos
        · have HF : Hid (stepOk m.2 0 = true) := Lib.hid (by unfold stepOk; rw [HX.out, hf]; rfl)
          rw [hf] at HQ
          clear hf
          simp only [Nat.zero_mul, Nat.add_zero] at c0 c1
          go_wp2
          go_quiet ((go_at_call 25; exact Calls.quiet_of_same (HQ.out _)))
          go_wp2
          go_roundw
          case rel => exact ⟨1, by omega, rfl, Lib.hid (fun j hj => (show j = 0 by omega) ▸ HF.out), Lib.hid (HBN.out _ _), by simp <;> omega⟩
          case measure => simp [intOf] <;> omega
        · obtain ⟨p, rfl⟩ : ∃ p, i = p + 1 := ⟨i - 1, by omega⟩
          obtain ⟨y, hy⟩ : ∃ y, m.2[p]? = some y := ⟨_, List.getElem?_eq_getElem (by omega)⟩
          obtain ⟨b', off', hA, hbl', d0, d1⟩ := HR.out p y hy
          simp only [Option.some.injEq, Addr.mk.injEq, and_true] at hA
          obtain ⟨rfl, rfl⟩ := hA
          have HY : Hid (m.2.getD p noF = y) := Lib.hid (getD_of hy)
          have d0 := (HB.out.cell (p := ⟨b, off + p * 2, none⟩) (show b < w.heap.size + 1 by omega)).trans ((HBX.out.cell (p := ⟨b, off + p * 2, none⟩) (show b < w.heap.size by omega)).trans d0)
          clear hy d1
          have g3 : (0 : Int) < (p : Int) + 1 := by omega
          have g4 : (0 : Int) ≤ (p : Int) := by omega
          have g5 : (p : Int) < (m.2.length : Int) := by omega
          have hbz : b < wr.heap.size := by omega
          have hwp : IntKind.i64.wrap (p : Int) = p := IntWalk.i64_in _ (by omega)
          by_cases hlt : y.1 < x.1
          · have HF : Hid (stepOk m.2 (p + 1) = true) := Lib.hid (by unfold stepOk; rw [HX.out, hf, show p + 1 - 1 = p by omega, HY.out]; simp [hlt])
            rw [hf] at HQ
            clear hf
            go_wp2
            go_quiet ((go_at_call 25; exact Calls.quiet_of_same (HQ.out _)))
            clear hwp
            go_wp2
            go_roundw
            case rel => exact ⟨p + 1 + 1, by omega, by go_num, Lib.hid (fun j hj => by
              by_cases e : j = p + 1
              · rw [e]; exact HF.out
              · exact HG.out j (by omega)), Lib.hid (HBN.out _ _), by simp; omega⟩
            case measure => simp [intOf] <;> omega
          · have HF : Hid (listOk m.2 = false) := Lib.hid (listOk_no hin (by unfold stepOk; rw [HX.out, hf, show p + 1 - 1 = p by omega, HY.out]; simp [hlt]))
            rw [hf] at HQ
            have hge : x.1 ≤ y.1 := by omega
            clear hf hlt
            go_wp2
            go_quiet ((go_at_call 25; exact Calls.quiet_of_same (HQ.out _)))
            go_wp2
            go_ret
            exact ⟨ret_bool HF.out.symm, below_drewN (HBW.out.alloc (by omega) _) _⟩
      · obtain rfl : i = m.2.length := by omega
        have HF : Hid (listOk m.2 = true) := Lib.hid (listOk_yes HG.out)
        go_wp2
        go_ret
        exact ⟨ret_bool HF.out.symm, HBX.out.trans (HB.out.mono (by omega))⟩
  · have HM : Hid (msgOk m = false) := Lib.hid (by simp [msgOk, mtiOk, h4])
    rw [HM.out]
    have HDD := Lib.hid hd
    clear hd
    have h4' : ((m.1.size : Int) != 4) = true := by simp; omega
    go_enter Tryd.func18, Tryd.ntmps18
    go_wp2_with fail
    refine (HD.out _).mono ?_
    rw [HDD.out]
    rintro e w1 ⟨rfl, rfl⟩
    go_wp2
    go_ret
    exact ⟨rfl, (Below.refl _ _).alloc (Nat.le_refl _) _⟩
end Go.Proofs.YtdjlhijaadombaaDoor
