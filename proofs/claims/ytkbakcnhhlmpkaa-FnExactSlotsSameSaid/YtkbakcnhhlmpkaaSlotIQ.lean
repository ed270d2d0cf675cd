/- bytes.Equal, sameSlot, slices.EqualFunc over slots, SlotsSame of the program; no conditions. -/
import Derived.Test.YtkbakcnhhlmpkaaSlotIK
import Derived.Test.YtkbakcnhhlmpkaaSlotQ
import Derived.Test.YtkbakcnhhlmpkaaQuiet
set_option linter.unusedVariables false
namespace Go.Proofs.Ytkbakcnhhlmpkaa
open Go.ChangeShapes Go.WideShapes Go.ChangeAt Go.RowKit

set_option maxRecDepth 100000 in
theorem bytesEqual_any (h1 h2 : Nat) (u v : Value) (a b : List Int) (w : World) (hu : rd .u8 h1 w u a) (hv : rd .u8 h2 w v b) :
    Calls Try.prog 47 #[u, v] w fun e w' => e = .returned (.bool (decide (strOf a = strOf b))) ∧ w = w' := by
  obtain ⟨A, c, rfl, -⟩ := hu.form
  obtain ⟨B, d, rfl, -⟩ := hv.form
  have hcv1 : (convert 22 9 (.slice A a.length c)).run Try.prog w = .ok (.string (strOf a)) w := str_of_rd hu
  have hcv2 : (convert 22 9 (.slice B b.length d)).run Try.prog w = .ok (.string (strOf b)) w := str_of_rd hv
  clear hu hv
  generalize strOf a = s at hcv1 ⊢
  generalize strOf b = t at hcv2 ⊢
  go_enter Try.func47, Try.ntmps47
  go_wp2
  go_ret
  exact ⟨by rw [str_beq]; rfl, rfl⟩
set_option maxRecDepth 100000 in
set_option maxHeartbeats 1600000 in
theorem sameSlot_any (h1 h2 : Nat) (u v : Value) (x y : SlotD) (w : World) (hu : rd .u8 h1 w u x.2.2) (hv : rd .u8 h2 w v y.2.2) (hh1 : h1 ≤ w.heap.size) (hh2 : h2 ≤ w.heap.size) :
    Calls Try.prog 43 #[.agg #[.string x.1, .string x.2.1, u], .agg #[.string y.1, .string y.2.1, v]] w fun e w' => e = .returned (.bool (slotEq x y)) ∧ Below w.heap.size w w' := by
  obtain ⟨A, c, rfl, -⟩ := hu.form
  obtain ⟨B, d, rfl, -⟩ := hv.form
  have HU := Lib.hid hu
  have HV := Lib.hid hv
  clear hu hv
  have HEQ : Hid (∀ V, Below w.heap.size w V → Calls Try.prog 47 #[.slice A x.2.2.length c, .slice B y.2.2.length d] V fun e w' => e = .returned (.bool (decide (strOf x.2.2 = strOf y.2.2))) ∧ V = w') := Lib.hid fun V hV => bytesEqual_any h1 h2 _ _ x.2.2 y.2.2 V (HU.out.below hV hh1) (HV.out.below hV hh2)
  have HSE : Hid (slotEq x y = ((decide (x.1 = y.1) && decide (x.2.1 = y.2.1)) && decide (strOf x.2.2 = strOf y.2.2))) := Lib.hid (by unfold slotEq; rw [Bool.and_assoc])
  have hkq : ∀ V : World, (binOp .eql 54 (.agg #[.string x.1, .string x.2.1]) (.agg #[.string y.1, .string y.2.1])).run Try.prog V = .ok (.bool (decide (x.1 = y.1) && decide (x.2.1 = y.2.1))) V := fun V => keyEql x.1 x.2.1 y.1 y.2.1 V
  rw [HSE.out]
  generalize decide (strOf x.2.2 = strOf y.2.2) = eb at HEQ ⊢
  generalize (decide (x.1 = y.1) && decide (x.2.1 = y.2.1)) = ek at hkq ⊢
  clear HSE HU HV
  go_enter Try.func43, Try.ntmps43
  go_upto_region 1 with fail
  obtain ⟨W, hW⟩ : ∃ W, W = (w.alloc (.cells #[.string x.1, .string x.2.1, .slice A x.2.2.length c] 27)).alloc (.cells #[.string y.1, .string y.2.1, .slice B y.2.2.length d] 27) := ⟨_, rfl⟩
  have b0 : bk W w.heap.size 27 [.string x.1, .string x.2.1, .slice A x.2.2.length c] := by rw [hW]; exact (bk.new w _ _).alloc _
  have b1 : bk W (w.heap.size + 1) 27 [.string y.1, .string y.2.1, .slice B y.2.2.length d] := by rw [hW]; have := bk.new (w.alloc (.cells #[.string x.1, .string x.2.1, .slice A x.2.2.length c] 27)) 27 [.string y.1, .string y.2.1, .slice B y.2.2.length d]; simpa using this
  have HB0 : Hid (Below w.heap.size w W) := Lib.hid (by rw [hW]; exact ((Below.refl _ _).alloc (Nat.le_refl _) _).alloc (by simp) _)
  have z0 : w.heap.size + 2 = W.heap.size := by rw [hW]; simp
  rw [← hW]
  clear hW
  obtain ⟨p0, p1, p2⟩ := b0.cells3
  obtain ⟨q0, q1, q2⟩ := b1.cells3
  have P0 := Lib.hid p0
  have P1 := Lib.hid p1
  have P2 := Lib.hid p2
  have Q0 := Lib.hid q0
  have Q1 := Lib.hid q1
  have Q2 := Lib.hid q2
  clear p0 p1 p2 q0 q1 q2 b0 b1
  have HBX : Hid (∀ V, Ext W V → Below w.heap.size w V) := Lib.hid fun V hV => HB0.out.trans (hV.below.mono (by omega))
  have HX : Hid (Ext W W.drew) := Lib.hid (Ext.refl W).drew
  cases ek
  all_goals
    refine quiet_region (C := Ext W) (by kernel_rfl) (by kernel_rfl) HX.out ?_
    repeat (first
      | go_big_quiet_skip
      | (go_big_quiet_want; go_big_quiet_op; go_big_quiet_on)
      | (go_big_quiet_want; go_big_quiet_op; apply Exists.intro; refine ⟨fun _ _ => rfl, ?_⟩; go_big_quiet_on)
      | (go_big_quiet_want
         apply Exists.intro
         refine ⟨fun V hV => ?_, ?_⟩
         (have p0 := hV.cell P0.out (by omega)
          have p1 := hV.cell P1.out (by omega)
          have p2 := hV.cell P2.out (by omega)
          have q0 := hV.cell Q0.out (by omega)
          have q1 := hV.cell Q1.out (by omega)
          have q2 := hV.cell Q2.out (by omega)
          unfold Oper.quietAt
          go_simp
          rfl)
         simp only [Act.put, List.setIfInBounds_toArray, List.set_cons_zero, List.set_cons_succ]
         go_big_quiet_on)
      | (go_big_quiet_want
         apply Exists.intro
         refine ⟨fun V hV => ?_, ?_⟩
         (unfold Oper.quietAt
          go_simp
          go_at_call 36
          (with_reducible refine (implKeyOf_any _ _ _ _ _ V).mono ?_)
          rintro e w4 ⟨rfl, hb4⟩
          exact ⟨rfl, hV.step hb4⟩)
         simp only [Act.put, List.setIfInBounds_toArray, List.set_cons_zero, List.set_cons_succ]
         go_big_quiet_on)
      | (go_big_quiet_want
         apply Exists.intro
         refine ⟨fun V hV => ?_, ?_⟩
         (unfold Oper.quietAt
          go_simp
          go_at_call 47
          refine (HEQ.out V (HBX.out V hV)).mono ?_
          rintro e w4 ⟨rfl, rfl⟩
          exact ⟨rfl, hV⟩)
         simp only [Act.put, List.setIfInBounds_toArray, List.set_cons_zero, List.set_cons_succ]
         go_big_quiet_on)
      | fail)
    refine wpQuiet_nil ?_
    intro W4 hW4
    go_wp2
    go_ret
    exact ⟨rfl, HB0.out.trans (hW4.below.mono (by omega))⟩
set_option maxRecDepth 100000 in
set_option maxHeartbeats 1600000 in
theorem equalSlots_any (hi : Nat) (va vb : Value) (a b : List SlotD) (w : World) (hn : a.length ≤ 1048576) (h1 : SlotsR.rd hi w [va] a) (h2 : SlotsR.rd hi w [vb] b) (hh : hi ≤ w.heap.size) :
    Calls Try.prog 42 #[va, vb, .func (.func 43) #[] #[]] w fun e w' => e = .returned (.bool (slotsSame a b)) ∧ Below w.heap.size w w' := by
  obtain ⟨A1, c1, rfl, -, h1⟩ := slots_rd h1
  obtain ⟨A2, c2, rfl, -, h2⟩ := slots_rd h2
  have H1 := Lib.hid h1
  have H2 := Lib.hid h2
  clear h1 h2
  by_cases hl : a.length = b.length
  · have HL := Lib.hid hl
    have hne : ((a.length : Int) != (b.length : Int)) = false := by simp [hl]
    clear hl
    go_enter Try.func42, Try.ntmps42
    go_wp2
    go_loopw [17] (fun iv wr => ∃ i : Nat, i ≤ a.length ∧ iv = .int .i64 i ∧ Hid (∀ (j : Nat) (x y : SlotD), j < i → a[j]? = some x → b[j]? = some y → slotEq x y = true) ∧ Hid (Below w.heap.size w wr) ∧ w.heap.size ≤ wr.heap.size) (fun iv _ => a.length - (intOf iv).toNat)
    case atStart => exact ⟨0, Nat.zero_le _, rfl, Lib.hid fun j x y hj => absurd hj (by omega), Lib.hid (Below.refl _ _), Nat.le_refl _⟩
    case round =>
      obtain ⟨i, hi', rfl, HN, HB, hz⟩ := hrel
      by_cases hin : i < a.length
      · obtain ⟨x, hx⟩ : ∃ x, a[i]? = some x := ⟨_, List.getElem?_eq_getElem hin⟩
        obtain ⟨y, hy⟩ : ∃ y, b[i]? = some y := ⟨_, List.getElem?_eq_getElem (by rw [← HL.out]; exact hin)⟩
        obtain ⟨b1, o1, B1, d1, rfl, hb1, x1, y1, v1, r1⟩ := H1.out i x hx
        obtain ⟨b2, o2, B2, d2, rfl, hb2, x2, y2, v2, r2⟩ := H2.out i y hy
        have x1 := (HB.out.cell (p := ⟨b1, _, none⟩) (show b1 < w.heap.size by omega)).trans x1
        have y1 := (HB.out.cell (p := ⟨b1, _, none⟩) (show b1 < w.heap.size by omega)).trans y1
        have v1 := (HB.out.cell (p := ⟨b1, _, none⟩) (show b1 < w.heap.size by omega)).trans v1
        have g1 : (i : Int) < (a.length : Int) := by omega
        have g2 : 0 ≤ (i : Int) := by omega
        have g3 : (i : Int) < (b.length : Int) := by rw [← HL.out]; exact g1
        have HX := Lib.hid hx
        have HY := Lib.hid hy
        have HR1 := Lib.hid r1
        have HR2 := Lib.hid r2
        have HC2 := Lib.hid (And.intro x2 (And.intro y2 v2))
        clear hx hy r1 r2 x2 y2 v2
        go_upto_region 6 with fail
        obtain ⟨W3, hW3⟩ : ∃ W3, W3 = wr.alloc (.cells #[.string x.1, .string x.2.1, .slice B1 x.2.2.length d1] 27) := ⟨_, rfl⟩
        have b3 : bk W3 wr.heap.size 27 [.string x.1, .string x.2.1, .slice B1 x.2.2.length d1] := by rw [hW3]; exact bk.new wr _ _
        have hb3 : Below wr.heap.size wr W3 := by rw [hW3]; exact (Below.refl _ _).alloc (Nat.le_refl _) _
        rw [← hW3]
        clear hW3 x1 y1 v1
        have z3 := b3.lt
        have HB3 : Hid (Below w.heap.size w W3) := Lib.hid (HB.out.trans (hb3.mono hz))
        have x2 := (HB3.out.cell (p := ⟨b2, _, none⟩) (show b2 < w.heap.size by omega)).trans HC2.out.1
        have y2 := (HB3.out.cell (p := ⟨b2, _, none⟩) (show b2 < w.heap.size by omega)).trans HC2.out.2.1
        have v2 := (HB3.out.cell (p := ⟨b2, _, none⟩) (show b2 < w.heap.size by omega)).trans HC2.out.2.2
        have HX3 := Lib.hid b3
        clear hb3 HB HC2 b3
        go_upto_region 7 with fail
        obtain ⟨W4, hW4⟩ : ∃ W4, W4 = W3.alloc (.cells #[.string y.1, .string y.2.1, .slice B2 y.2.2.length d2] 27) := ⟨_, rfl⟩
        have b4 : bk W4 W3.heap.size 27 [.string y.1, .string y.2.1, .slice B2 y.2.2.length d2] := by rw [hW4]; exact bk.new W3 _ _
        have hb4 : Below W3.heap.size W3 W4 := by rw [hW4]; exact (Below.refl _ _).alloc (Nat.le_refl _) _
        rw [← hW4]
        clear hW4 x2 y2 v2
        have z4 := b4.lt
        have HB4 : Hid (Below w.heap.size w W4) := Lib.hid (HB3.out.trans (hb4.mono (by omega)))
        have HX4 := Lib.hid (HX3.out.below hb4 z3)
        clear hb4 HX3 HB3
        obtain ⟨p0, p1, p2⟩ := HX4.out.cells3
        obtain ⟨q0, q1, q2⟩ := b4.cells3
        clear b4
        have HSM := Lib.hid (sameSlot_any hi hi _ _ x y W4 (HR1.out.below HB4.out hh) (HR2.out.below HB4.out hh) (by omega) (by omega))
        have HN2 : Hid (slotEq x y = true → ∀ (j : Nat) (x y : SlotD), j < i + 1 → a[j]? = some x → b[j]? = some y → slotEq x y = true) := Lib.hid fun he j x' y' hj hx' hy' => by
          by_cases e : j = i
          · subst e
            rw [HX.out] at hx'
            rw [HY.out] at hy'
            cases hx'
            cases hy'
            exact he
          · exact HN.out j x' y' (by omega) hx' hy'
        have HF := Lib.hid (fun he => same_not HX.out HY.out he)
        generalize slotEq x y = eq at HSM HN2 HF
        go_wp2_with fail
        refine HSM.out.mono ?_
        rintro e w5 ⟨rfl, hb5⟩
        have z5 := hb5.size
        have HB5 : Hid (Below w.heap.size w w5) := Lib.hid (HB4.out.trans (hb5.mono (by omega)))
        clear hb5 p0 p1 p2 q0 q1 q2
        cases eq
        · have HV := Lib.hid (HF.out rfl)
          go_wp2
          go_ret
          exact ⟨ret_bool HV.out.symm, HB5.out⟩
        · have HN3 := Lib.hid (HN2.out rfl)
          go_wp2
          go_roundw
          case rel => exact ⟨i + 1, by omega, by go_num, HN3, HB5, by omega⟩
          case measure => simp [intOf] <;> omega
      · obtain rfl : i = a.length := by omega
        have HV : Hid (slotsSame a b = true) := Lib.hid (same_all HL.out fun j x y hx hy => HN.out j x y (List.getElem?_eq_some_iff.1 hx).1 hx hy)
        go_wp2
        go_ret
        exact ⟨ret_bool HV.out.symm, HB.out⟩
  · have HV : Hid (slotsSame a b = false) := Lib.hid (same_len hl)
    have hne : ((a.length : Int) != (b.length : Int)) = true := by simp; omega
    clear hl
    go_enter Try.func42, Try.ntmps42
    go_wp2
    go_ret
    exact ⟨ret_bool HV.out.symm, Below.refl _ _⟩
set_option maxRecDepth 100000 in
theorem implSlotsSame_any (hi : Nat) (va vb : Value) (a b : List SlotD) (w : World) (hn : a.length ≤ 1048576) (h1 : SlotsR.rd hi w [va] a) (h2 : SlotsR.rd hi w [vb] b) (hh : hi ≤ w.heap.size) :
    Calls Try.prog 29 #[va, vb] w fun e w' => e = .returned (.bool (slotsSame a b)) ∧ Below w.heap.size w w' := by
  have HC := Lib.hid (equalSlots_any hi va vb a b w hn h1 h2 hh)
  clear h1 h2
  go_enter Try.func29, Try.ntmps29
  go_wp2_with fail
  refine HC.out.mono ?_
  rintro e w1 ⟨rfl, hb1⟩
  go_wp2
  go_ret
  exact ⟨rfl, hb1⟩
end Go.Proofs.Ytkbakcnhhlmpkaa
