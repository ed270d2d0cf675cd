/- MsgSame of the program, with slices.Equal of two rows of fields; no conditions. -/
import Derived.Test.YtkkbhlaakhkjnaaMsgF
set_option linter.unusedVariables false
namespace Go.Proofs.Ytkkbhlaakhkjnaa
open Go.ChangeShapes Go.WideShapes Go.ChangeAt Go.RowKit

set_option maxRecDepth 100000 in
theorem rows_no {a b : List FieldD} {i : Nat} {x y : FieldD} (hx : a[i]? = some x) (hy : b[i]? = some y) (h : x ≠ y) : decide (a = b) = false := by
  rw [decide_eq_false_iff_not]
  rintro rfl
  exact h (Option.some.inj (hx.symm.trans hy))
set_option maxRecDepth 100000 in
theorem rows_yes {a b : List FieldD} (hl : a.length = b.length) (h : ∀ j x, j < a.length → a[j]? = some x → b[j]? = some x) : decide (a = b) = true := by
  rw [decide_eq_true_eq]
  refine List.ext_getElem hl fun j hj1 hj2 => ?_
  have := h j _ hj1 (List.getElem?_eq_getElem hj1)
  rw [List.getElem?_eq_getElem hj2] at this
  exact (Option.some.inj this).symm
set_option maxRecDepth 100000 in
set_option maxHeartbeats 3200000 in
theorem equalRows_any (hi1 hi2 : Nat) (va vb : Value) (a b : List FieldD) (w : World) (hna : a.length ≤ 1048576) (hnb : b.length ≤ 1048576) (h1 : FieldsR.rd hi1 w [va] a) (h2 : FieldsR.rd hi2 w [vb] b) (hh1 : hi1 ≤ w.heap.size) (hh2 : hi2 ≤ w.heap.size) :
    Calls Try.prog 22 #[va, vb] w fun e w' => e = .returned (.bool (decide (a = b))) ∧ Below w.heap.size w w' := by
  obtain ⟨A1, c1, rfl, hc1, h1'⟩ := fields_rd h1
  obtain ⟨A2, c2, rfl, hc2, h2'⟩ := fields_rd h2
  have H1 := Lib.hid h1'
  have H2 := Lib.hid h2'
  clear h1' h2' h1 h2
  by_cases hl : a.length = b.length
  · have HL := Lib.hid hl
    have hln : b.length = a.length := hl.symm
    rw [hln] at hnb hc2 ⊢
    clear hl hln
    go_enter Try.func22, Try.ntmps22
    go_wp2
    go_loopw [5, 13] (fun _ iv wr => ∃ i : Nat, i ≤ a.length ∧ iv = .int .i64 i ∧ Hid (∀ j x, j < i → a[j]? = some x → b[j]? = some x) ∧ Hid (Below w.heap.size w wr) ∧ w.heap.size ≤ wr.heap.size) (fun _ iv _ => a.length - (intOf iv).toNat)
    case atStart => exact ⟨0, Nat.zero_le _, rfl, Lib.hid (fun j x hj => absurd hj (by omega)), Lib.hid (Below.refl _ _), Nat.le_refl _⟩
    case round =>
      obtain ⟨i, hi', rfl, HE, HB, hz⟩ := hrel
      by_cases hin : i < a.length
      · obtain ⟨x, hx⟩ : ∃ x, a[i]? = some x := ⟨_, List.getElem?_eq_getElem hin⟩
        obtain ⟨y, hy⟩ : ∃ y, b[i]? = some y := ⟨_, List.getElem?_eq_getElem (by have := HL.out; omega)⟩
        obtain ⟨p, o, rfl, hp, d0, d1⟩ := H1.out i x hx
        obtain ⟨q, r, rfl, hq, e0, e1⟩ := H2.out i y hy
        have d0 := (HB.out.cell (p := ⟨p, _, none⟩) (show p < w.heap.size by omega)).trans d0
        have d1 := (HB.out.cell (p := ⟨p, _, none⟩) (show p < w.heap.size by omega)).trans d1
        have e0 := (HB.out.cell (p := ⟨q, _, none⟩) (show q < w.heap.size by omega)).trans e0
        have e1 := (HB.out.cell (p := ⟨q, _, none⟩) (show q < w.heap.size by omega)).trans e1
        have hqz : q < wr.heap.size := by omega
        have HX := Lib.hid hx
        have HY := Lib.hid hy
        have g1 : (i : Int) < (a.length : Int) := by omega
        have g2 : 0 ≤ (i : Int) := by omega
        clear hx hy
        by_cases h1 : x.1 = y.1
        · by_cases h2 : x.2 = y.2
          · have hxy : x = y := Prod.ext h1 h2
            subst hxy
            clear h1 h2
            go_wp2
            go_quiet (fail)
            go_wp2
            go_roundw
            case rel => exact ⟨i + 1, by omega, by go_num, Lib.hid (fun j z hj hz' => by
              by_cases e : j = i
              · subst e; rw [HX.out] at hz'; cases hz'; exact HY.out
              · exact HE.out j z (by omega) hz'), Lib.hid (below_drewN HB.out _), by simp; omega⟩
            case measure => simp [intOf] <;> omega
          · have h2' := str_ne h2
            have HK : Hid (decide (a = b) = false) := Lib.hid (rows_no HX.out HY.out (fun e => h2 (by rw [e])))
            have h1' : (x.1 == y.1) = true := by simpa using h1
            clear h1 h2
            go_wp2
            go_quiet (fail)
            go_wp2
            go_ret
            exact ⟨ret_bool HK.out.symm, below_drewN HB.out _⟩
        · have HK : Hid (decide (a = b) = false) := Lib.hid (rows_no HX.out HY.out (fun e => h1 (by rw [e])))
          have h1' : (x.1 == y.1) = false := by simpa using h1
          clear h1
          go_wp2
          go_quiet (fail)
          go_wp2
          go_ret
          exact ⟨ret_bool HK.out.symm, below_drewN HB.out _⟩
      · obtain rfl : i = a.length := by omega
        have HK : Hid (decide (a = b) = true) := Lib.hid (rows_yes HL.out HE.out)
        go_wp2
        go_ret
        exact ⟨ret_bool HK.out.symm, HB.out⟩
  · have HK : Hid (decide (a = b) = false) := Lib.hid (by rw [decide_eq_false_iff_not]; rintro rfl; exact hl rfl)
    have hl' : ((a.length : Int) != (b.length : Int)) = true := by rw [bne_iff_ne]; omega
    clear hl
    rw [HK.out]
    go_enter Try.func22, Try.ntmps22
    go_wp2
    go_ret
    exact ⟨rfl, Below.refl _ _⟩
set_option maxRecDepth 100000 in
theorem implMsgSame_any (hi1 hi2 : Nat) (va vb : Value) (a b : MsgD) (w : World) (hna : a.2.length ≤ 1048576) (hnb : b.2.length ≤ 1048576) (h1 : FieldsR.rd hi1 w [va] a.2) (h2 : FieldsR.rd hi2 w [vb] b.2) (hh1 : hi1 ≤ w.heap.size) (hh2 : hi2 ≤ w.heap.size) :
    Calls Try.prog 16 #[.agg #[.string a.1, va], .agg #[.string b.1, vb]] w fun e w' => e = .returned (.bool (decide (a = b))) ∧ Below w.heap.size w w' := by
  obtain ⟨A1, c1, rfl, -⟩ := Rep.slice_form h1
  obtain ⟨A2, c2, rfl, -⟩ := Rep.slice_form h2
  have H1 := Lib.hid h1
  have H2 := Lib.hid h2
  clear h1 h2
  have HB0 : Hid (∀ o1 o2, Below w.heap.size w ((w.alloc o1).alloc o2)) := Lib.hid fun o1 o2 => ((Below.refl _ _).alloc (Nat.le_refl _) o1).alloc (by simp) o2
  by_cases hm : a.1 = b.1
  · have HK : Hid (decide (a = b) = decide (a.2 = b.2)) := Lib.hid (by
      rw [decide_eq_decide]
      exact ⟨fun h => by rw [h], fun h => Prod.ext hm h⟩)
    rw [HK.out, ← hm]
    have HE := Lib.hid (fun (W : World) (hW : Below w.heap.size w W) => equalRows_any hi1 hi2 _ _ a.2 b.2 W hna hnb (Rep.below (R := FieldsR) H1.out hW hh1) (Rep.below (R := FieldsR) H2.out hW hh2) (Nat.le_trans hh1 hW.size) (Nat.le_trans hh2 hW.size))
    clear hm
    go_enter Try.func16, Try.ntmps16
    go_wp2_with fail
    refine (HE.out _ (HB0.out _ _)).mono ?_
    rintro e w1 ⟨rfl, hb⟩
    have HB : Hid (Below w.heap.size w w1) := Lib.hid ((HB0.out _ _).trans (hb.mono (by simp; omega)))
    clear hb
    go_wp2
    go_ret
    exact ⟨rfl, HB.out⟩
  · have HK : Hid (decide (a = b) = false) := Lib.hid (by rw [decide_eq_false_iff_not]; rintro rfl; exact hm rfl)
    have hm' := str_ne hm
    clear hm
    rw [HK.out]
    go_enter Try.func16, Try.ntmps16
    go_wp2
    go_ret
    exact ⟨rfl, HB0.out _ _⟩
end Go.Proofs.Ytkkbhlaakhkjnaa
