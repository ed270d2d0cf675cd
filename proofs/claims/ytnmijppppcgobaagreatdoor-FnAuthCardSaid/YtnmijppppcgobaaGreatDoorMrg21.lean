/- MakeHold of the reference: an id, an amount, a time to live and a time, in their ranges; no conditions. -/
import Derived.Test.YtnmijppppcgobaaGreatDoorMrg20
import Derived.Test.YtnmijppppcgobaaGreatDoorMrg6
import Derived.Test.YtnmijppppcgobaaGreatDoorMrg5
import Derived.Test.YtnmijppppcgobaaGreatDoorMrg2
set_option linter.unusedVariables false
namespace Go.Proofs.YtnmijppppcgobaaGreatDoor
open Go.ChangeShapes Go.WideShapes Go.ChangeAt Go.RowKit

/-- an id and three numbers as they are made -/
def holdMade (w : World) (e : Ending) (w' : World) : Prop := ∃ (x : ByteArray) (n t m : Int), e = .returned (.tuple #[.string x, .int .i64 n, .int .i64 t, .int .i64 m]) ∧ (idOk x = true ∧ x.size ≤ 2 ∧ (1 ≤ n ∧ n ≤ 40) ∧ (1 ≤ t ∧ t ≤ 20) ∧ 0 ≤ m ∧ m ≤ 19) ∧ Below w.heap.size w w'
set_option maxRecDepth 100000 in
set_option maxHeartbeats 3200000 in
theorem makeHold_any (sv : Value) (w : World) (hr : readable w w.heap.size sv) (hlen : lenOf sv ≤ 1048576) :
    Calls Tryz.prog 26 #[sv] w (holdMade w) := by
  go_enter Tryz.func26, Tryz.ntmps26
  go_wp2_with fail
  refine (new_any sv w hr hlen).mono ?_
  rintro e w1 ⟨h, rfl, rfl⟩
  obtain ⟨w1, hW1⟩ : ∃ w1, w1 = w.alloc (.cells #[sv, .int .i64 0, .int .i64 h] 76) := ⟨_, rfl⟩
  have HC1 : Hid (curAt w1 w.heap.size sv 0 h) := Lib.hid (by rw [hW1]; exact made_cur sv w h)
  have HR1 : Hid (readable w1 w.heap.size sv) := Lib.hid (by rw [hW1]; exact hr.alloc _)
  have HB1 : Hid (Below w.heap.size w w1) := Lib.hid (by rw [hW1]; exact (Below.refl _ _).alloc (Nat.le_refl _) _)
  have z1 : w.heap.size + 1 = w1.heap.size := by rw [hW1]; simp
  rw [← hW1]
  have hb1 : w.heap.size < w1.heap.size := by omega
  have HR : Hid (∀ w' : World, w1.grownBy w' (some w.heap.size) → readable w' w.heap.size sv) := Lib.hid fun w' hg => HR1.out.grownAt hg (by omega)
  have c2 : w1.cell? ⟨w.heap.size, 2, none⟩ = some (.int .i64 h) := cur_cell HC1.out 2 _ rfl
  have f2 : w1.frozen? ⟨w.heap.size, 2, none⟩ = false := cur_free HC1.out 2
  clear hW1 hr HR1
  obtain ⟨b, hbe⟩ : ∃ b, b = w.heap.size := ⟨_, rfl⟩
  rw [← hbe] at HC1 HR c2 f2 hb1 ⊢
  have HBE := Lib.hid hbe
  clear hbe
  go_upto_region 3 with fail
  obtain ⟨w2, hW2⟩ : ∃ w2, w2 = w1.setCell ⟨b, 2, none⟩ (.int .i64 (wrap64 (h + 3))) := ⟨_, rfl⟩
  have HC2 : Hid (curAt w2 b sv 0 (wrap64 (h + 3))) := Lib.hid (by rw [hW2]; exact cur_h HC1.out _)
  have HO2 : Hid (curOn b sv w1 w2) := Lib.hid ⟨0, _, Nat.zero_le _, HC2.out, by rw [hW2]; exact ((onlyAt.refl b w1).set 2 _).grown⟩
  rw [← hW2]
  clear hW2 c2 f2 HC1
  generalize wrap64 (h + 3) = h' at HC2
  go_wp2_with fail
  refine (idDraw_any b sv 0 h' w2 HC2.out (Nat.zero_le _) (HR.out _ HO2.out.grown)).mono ?_
  rintro e w3 ⟨x, rfl, hxs, hxi, ho3⟩
  have HX := Lib.hid (And.intro hxi hxs)
  have HO3 := Lib.hid (HO2.out.then ho3)
  clear ho3 hxs hxi HO2 HC2
  obtain ⟨i3, h3, hi3, hc3, hg3⟩ := HO3.out
  go_wp2_with fail
  refine (below_any b sv i3 h3 40 w3 hc3 hi3 (HR.out _ hg3) (by decide) (by decide)).mono ?_
  rintro e w4 ⟨n, i4, h4, rfl, n0, n1, hi4, hc4, ho4⟩
  have HO4 : Hid (curOn b sv w1 w4) := Lib.hid (HO3.out.only hi4 hc4 ho4)
  have en : IntKind.i64.wrap (1 + n) = 1 + n := IntWalk.i64_in _ (by omega)
  clear hc3 hg3 hi3 ho4 HO3
  go_wp2_with fail
  refine (below_any b sv i4 h4 20 w4 hc4 hi4 (HR.out _ HO4.out.grown) (by decide) (by decide)).mono ?_
  rintro e w5 ⟨t, i5, h5, rfl, t0, t1, hi5, hc5, ho5⟩
  have HO5 : Hid (curOn b sv w1 w5) := Lib.hid (HO4.out.only hi5 hc5 ho5)
  have et : IntKind.i64.wrap (1 + t) = 1 + t := IntWalk.i64_in _ (by omega)
  clear hc4 hi4 ho5 HO4
  go_wp2_with fail
  refine (below_any b sv i5 h5 20 w5 hc5 hi5 (HR.out _ HO5.out.grown) (by decide) (by decide)).mono ?_
  rintro e w6 ⟨m, i6, h6, rfl, m0, m1, hi6, hc6, ho6⟩
  have HO6 : Hid (curOn b sv w1 w6) := Lib.hid (HO5.out.only hi6 hc6 ho6)
  clear hc5 hi5 ho6 HO5 en et
  go_wp2
  refine bodyPost_ret (v := .tuple #[.string x, .int .i64 (1 + n), .int .i64 (1 + t), .int .i64 m]) (by simp [results, Tryz.results26, go_sem]) rfl ?_
  have hbe := HBE.out
  exact ⟨x, 1 + n, 1 + t, m, rfl, ⟨HX.out.1, HX.out.2, by omega, by omega, m0, by omega⟩, HB1.out.trans ((turned_of_grown HO6.out.grown).below (by omega) (by omega))⟩
end Go.Proofs.YtnmijppppcgobaaGreatDoor
set_option linter.unusedVariables false
namespace Go.Proofs.YtnmijppppcgobaaGreatDoor
open Go.ChangeShapes Go.WideShapes Go.ChangeAt Go.RowKit

set_option maxRecDepth 100000 in
theorem bytesEqual_any (h1 h2 : Nat) (u v : Value) (a b : List Int) (w : World) (hu : rd .u8 h1 w u a) (hv : rd .u8 h2 w v b) :
    Calls Tryz.prog 240 #[u, v] w fun e w' => e = .returned (.bool (decide (byteStr a = byteStr b))) ∧ w = w' := by
  obtain ⟨A, c, rfl, -⟩ := hu.form
  obtain ⟨B, d, rfl, -⟩ := hv.form
  have hcv1 : (convert 22 9 (.slice A a.length c)).run Tryz.prog w = .ok (.string (byteStr a)) w := str_of_rd hu
  have hcv2 : (convert 22 9 (.slice B b.length d)).run Tryz.prog w = .ok (.string (byteStr b)) w := str_of_rd hv
  clear hu hv
  generalize byteStr a = s at hcv1 ⊢
  generalize byteStr b = t at hcv2 ⊢
  go_enter Tryz.func240, Tryz.ntmps240
  go_wp2
  go_ret
  exact ⟨by rw [str_beq]; rfl, rfl⟩
set_option maxRecDepth 100000 in
set_option maxHeartbeats 1600000 in
theorem sameSlot_any (h1 h2 : Nat) (u v : Value) (x y : SlotD) (w : World) (hu : rd .u8 h1 w u x.2.2) (hv : rd .u8 h2 w v y.2.2) (hh1 : h1 ≤ w.heap.size) (hh2 : h2 ≤ w.heap.size) :
    Calls Tryz.prog 211 #[.agg #[.string x.1, .string x.2.1, u], .agg #[.string y.1, .string y.2.1, v]] w fun e w' => e = .returned (.bool (slotEq x y)) ∧ Below w.heap.size w w' := by
  obtain ⟨A, c, rfl, -⟩ := hu.form
  obtain ⟨B, d, rfl, -⟩ := hv.form
  have HU := Lib.hid hu
  have HV := Lib.hid hv
  clear hu hv
  have HEQ : Hid (∀ V, Below w.heap.size w V → Calls Tryz.prog 240 #[.slice A x.2.2.length c, .slice B y.2.2.length d] V fun e w' => e = .returned (.bool (decide (byteStr x.2.2 = byteStr y.2.2))) ∧ V = w') := Lib.hid fun V hV => bytesEqual_any h1 h2 _ _ x.2.2 y.2.2 V (HU.out.below hV hh1) (HV.out.below hV hh2)
  have HSE : Hid (slotEq x y = ((decide (x.1 = y.1) && decide (x.2.1 = y.2.1)) && decide (byteStr x.2.2 = byteStr y.2.2))) := Lib.hid (by unfold slotEq; rw [Bool.and_assoc])
  have hkq : ∀ V : World, (binOp .eql 215 (.agg #[.string x.1, .string x.2.1]) (.agg #[.string y.1, .string y.2.1])).run Tryz.prog V = .ok (.bool (decide (x.1 = y.1) && decide (x.2.1 = y.2.1))) V := fun V => keyEql x.1 x.2.1 y.1 y.2.1 V
  rw [HSE.out]
  generalize decide (byteStr x.2.2 = byteStr y.2.2) = eb at HEQ ⊢
  generalize (decide (x.1 = y.1) && decide (x.2.1 = y.2.1)) = ek at hkq ⊢
  clear HSE HU HV
  go_enter Tryz.func211, Tryz.ntmps211
  go_upto_region 1 with fail
  obtain ⟨W, hW⟩ : ∃ W, W = (w.alloc (.cells #[.string x.1, .string x.2.1, .slice A x.2.2.length c] 176)).alloc (.cells #[.string y.1, .string y.2.1, .slice B y.2.2.length d] 176) := ⟨_, rfl⟩
  have b0 : bk W w.heap.size 176 [.string x.1, .string x.2.1, .slice A x.2.2.length c] := by rw [hW]; exact (bk.new w _ _).alloc _
  have b1 : bk W (w.heap.size + 1) 176 [.string y.1, .string y.2.1, .slice B y.2.2.length d] := by rw [hW]; have := bk.new (w.alloc (.cells #[.string x.1, .string x.2.1, .slice A x.2.2.length c] 176)) 176 [.string y.1, .string y.2.1, .slice B y.2.2.length d]; simpa using this
  have HB0 : Hid (Below w.heap.size w W) := Lib.hid (by rw [hW]; exact ((Below.refl _ _).alloc (Nat.le_refl _) _).alloc (by simp) _)
  have z0 : w.heap.size + 2 = W.heap.size := by rw [hW]; simp
  rw [← hW]
  clear hW
  obtain ⟨p0, p1, p2⟩ := b0.cells3
  obtain ⟨q0, q1, q2⟩ := b1.cells3
  have P0 := Lib.hid p0
  have P1 := Lib.hid p1
  have P2 := Lib.hid p2
  have Q0 := Lib.hid q0
  have Q1 := Lib.hid q1
  have Q2 := Lib.hid q2
  clear p0 p1 p2 q0 q1 q2 b0 b1
  have HBX : Hid (∀ V, Ext W V → Below w.heap.size w V) := Lib.hid fun V hV => HB0.out.trans (hV.below.mono (by omega))
  have HX : Hid (Ext W W.drew) := Lib.hid (Ext.refl W).drew
  cases ek
  all_goals
    refine quiet_region (C := Ext W) (by kernel_rfl) (by kernel_rfl) HX.out ?_
    repeat (first
      | go_big_quiet_skip
      | (go_big_quiet_want; go_big_quiet_op; go_big_quiet_on)
      | (go_big_quiet_want; go_big_quiet_op; apply Exists.intro; refine ⟨fun _ _ => rfl, ?_⟩; go_big_quiet_on)
      | (go_big_quiet_want
         apply Exists.intro
         refine ⟨fun V hV => ?_, ?_⟩
         (have p0 := hV.cell P0.out (by omega)
          have p1 := hV.cell P1.out (by omega)
          have p2 := hV.cell P2.out (by omega)
          have q0 := hV.cell Q0.out (by omega)
          have q1 := hV.cell Q1.out (by omega)
          have q2 := hV.cell Q2.out (by omega)
          unfold Oper.quietAt
          go_simp
          rfl)
         simp only [Act.put, List.setIfInBounds_toArray, List.set_cons_zero, List.set_cons_succ]
         go_big_quiet_on)
      | (go_big_quiet_want
         apply Exists.intro
         refine ⟨fun V hV => ?_, ?_⟩
         (unfold Oper.quietAt
          go_simp
          go_at_call 220
          (with_reducible refine (implKeyOf_any _ _ _ _ _ V).mono ?_)
          rintro e w4 ⟨rfl, hb4⟩
          exact ⟨rfl, hV.step hb4⟩)
         simp only [Act.put, List.setIfInBounds_toArray, List.set_cons_zero, List.set_cons_succ]
         go_big_quiet_on)
      | (go_big_quiet_want
         apply Exists.intro
         refine ⟨fun V hV => ?_, ?_⟩
         (unfold Oper.quietAt
          go_simp
          go_at_call 240
          refine (HEQ.out V (HBX.out V hV)).mono ?_
          rintro e w4 ⟨rfl, rfl⟩
          exact ⟨rfl, hV⟩)
         simp only [Act.put, List.setIfInBounds_toArray, List.set_cons_zero, List.set_cons_succ]
         go_big_quiet_on)
      | fail)
    refine wpQuiet_nil ?_
    intro W4 hW4
    go_wp2
    go_ret
    exact ⟨rfl, HB0.out.trans (hW4.below.mono (by omega))⟩
set_option maxRecDepth 100000 in
set_option maxHeartbeats 1600000 in
theorem equalSlots_any (hi : Nat) (va vb : Value) (a b : List SlotD) (w : World) (hn : a.length ≤ 1048576) (h1 : SlotsR.rd hi w [va] a) (h2 : SlotsR.rd hi w [vb] b) (hh : hi ≤ w.heap.size) :
    Calls Tryz.prog 210 #[va, vb, .func (.func 211) #[] #[]] w fun e w' => e = .returned (.bool (slotsSame a b)) ∧ Below w.heap.size w w' := by
  obtain ⟨A1, c1, rfl, -, h1⟩ := slots_rd h1
  obtain ⟨A2, c2, rfl, -, h2⟩ := slots_rd h2
  have H1 := Lib.hid h1
  have H2 := Lib.hid h2
  clear h1 h2
  by_cases hl : a.length = b.length
  · have HL := Lib.hid hl
    have hne : ((a.length : Int) != (b.length : Int)) = false := by simp [hl]
    clear hl
    go_enter Tryz.func210, Tryz.ntmps210
    go_wp2
    go_loopw [17] (fun iv wr => ∃ i : Nat, i ≤ a.length ∧ iv = .int .i64 i ∧ Hid (∀ (j : Nat) (x y : SlotD), j < i → a[j]? = some x → b[j]? = some y → slotEq x y = true) ∧ Hid (Below w.heap.size w wr) ∧ w.heap.size ≤ wr.heap.size) (fun iv _ => a.length - (intOf iv).toNat)
    case atStart => exact ⟨0, Nat.zero_le _, rfl, Lib.hid fun j x y hj => absurd hj (by omega), Lib.hid (Below.refl _ _), Nat.le_refl _⟩
    case round =>
      obtain ⟨i, hi', rfl, HN, HB, hz⟩ := hrel
      by_cases hin : i < a.length
      · obtain ⟨x, hx⟩ : ∃ x, a[i]? = some x := ⟨_, List.getElem?_eq_getElem hin⟩
        obtain ⟨y, hy⟩ : ∃ y, b[i]? = some y := ⟨_, List.getElem?_eq_getElem (by rw [← HL.out]; exact hin)⟩
        obtain ⟨b1, o1, B1, d1, rfl, hb1, x1, y1, v1, r1⟩ := H1.out i x hx
        obtain ⟨b2, o2, B2, d2, rfl, hb2, x2, y2, v2, r2⟩ := H2.out i y hy
        have x1 := (HB.out.cell (p := ⟨b1, _, none⟩) (show b1 < w.heap.size by omega)).trans x1
        have y1 := (HB.out.cell (p := ⟨b1, _, none⟩) (show b1 < w.heap.size by omega)).trans y1
        have v1 := (HB.out.cell (p := ⟨b1, _, none⟩) (show b1 < w.heap.size by omega)).trans v1
        have g1 : (i : Int) < (a.length : Int) := by omega
        have g2 : 0 ≤ (i : Int) := by omega
        have g3 : (i : Int) < (b.length : Int) := by rw [← HL.out]; exact g1
        have HX := Lib.hid hx
        have HY := Lib.hid hy
        have HR1 := Lib.hid r1
        have HR2 := Lib.hid r2
        have HC2 := Lib.hid (And.intro x2 (And.intro y2 v2))
        clear hx hy r1 r2 x2 y2 v2
        go_upto_region 6 with fail
        obtain ⟨W3, hW3⟩ : ∃ W3, W3 = wr.alloc (.cells #[.string x.1, .string x.2.1, .slice B1 x.2.2.length d1] 176) := ⟨_, rfl⟩
        have b3 : bk W3 wr.heap.size 176 [.string x.1, .string x.2.1, .slice B1 x.2.2.length d1] := by rw [hW3]; exact bk.new wr _ _
        have hb3 : Below wr.heap.size wr W3 := by rw [hW3]; exact (Below.refl _ _).alloc (Nat.le_refl _) _
        rw [← hW3]
        clear hW3 x1 y1 v1
        have z3 := b3.lt
        have HB3 : Hid (Below w.heap.size w W3) := Lib.hid (HB.out.trans (hb3.mono hz))
        have x2 := (HB3.out.cell (p := ⟨b2, _, none⟩) (show b2 < w.heap.size by omega)).trans HC2.out.1
        have y2 := (HB3.out.cell (p := ⟨b2, _, none⟩) (show b2 < w.heap.size by omega)).trans HC2.out.2.1
        have v2 := (HB3.out.cell (p := ⟨b2, _, none⟩) (show b2 < w.heap.size by omega)).trans HC2.out.2.2
        have HX3 := Lib.hid b3
        clear hb3 HB HC2 b3
        go_upto_region 7 with fail
        obtain ⟨W4, hW4⟩ : ∃ W4, W4 = W3.alloc (.cells #[.string y.1, .string y.2.1, .slice B2 y.2.2.length d2] 176) := ⟨_, rfl⟩
        have b4 : bk W4 W3.heap.size 176 [.string y.1, .string y.2.1, .slice B2 y.2.2.length d2] := by rw [hW4]; exact bk.new W3 _ _
        have hb4 : Below W3.heap.size W3 W4 := by rw [hW4]; exact (Below.refl _ _).alloc (Nat.le_refl _) _
        rw [← hW4]
        clear hW4 x2 y2 v2
        have z4 := b4.lt
        have HB4 : Hid (Below w.heap.size w W4) := Lib.hid (HB3.out.trans (hb4.mono (by omega)))
        have HX4 := Lib.hid (HX3.out.below hb4 z3)
        clear hb4 HX3 HB3
        obtain ⟨p0, p1, p2⟩ := HX4.out.cells3
        obtain ⟨q0, q1, q2⟩ := b4.cells3
        clear b4
        have HSM := Lib.hid (sameSlot_any hi hi _ _ x y W4 (HR1.out.below HB4.out hh) (HR2.out.below HB4.out hh) (by omega) (by omega))
        have HN2 : Hid (slotEq x y = true → ∀ (j : Nat) (x y : SlotD), j < i + 1 → a[j]? = some x → b[j]? = some y → slotEq x y = true) := Lib.hid fun he j x' y' hj hx' hy' => by
          by_cases e : j = i
          · subst e
            rw [HX.out] at hx'
            rw [HY.out] at hy'
            cases hx'
            cases hy'
            exact he
          · exact HN.out j x' y' (by omega) hx' hy'
        have HF := Lib.hid (fun he => same_not HX.out HY.out he)
        generalize slotEq x y = eq at HSM HN2 HF
        go_wp2_with fail
        refine HSM.out.mono ?_
        rintro e w5 ⟨rfl, hb5⟩
        have z5 := hb5.size
        have HB5 : Hid (Below w.heap.size w w5) := Lib.hid (HB4.out.trans (hb5.mono (by omega)))
        clear hb5 p0 p1 p2 q0 q1 q2
        cases eq
        · have HV := Lib.hid (HF.out rfl)
          go_wp2
          go_ret
          exact ⟨ret_bool HV.out.symm, HB5.out⟩
        · have HN3 := Lib.hid (HN2.out rfl)
          go_wp2
          go_roundw
          case rel => exact ⟨i + 1, by omega, by go_num, HN3, HB5, by omega⟩
          case measure => simp [intOf] <;> omega
      · obtain rfl : i = a.length := by omega
        have HV : Hid (slotsSame a b = true) := Lib.hid (same_all HL.out fun j x y hx hy => HN.out j x y (List.getElem?_eq_some_iff.1 hx).1 hx hy)
        go_wp2
        go_ret
        exact ⟨ret_bool HV.out.symm, HB.out⟩
  · have HV : Hid (slotsSame a b = false) := Lib.hid (same_len hl)
    have hne : ((a.length : Int) != (b.length : Int)) = true := by simp; omega
    clear hl
    go_enter Tryz.func210, Tryz.ntmps210
    go_wp2
    go_ret
    exact ⟨ret_bool HV.out.symm, Below.refl _ _⟩
set_option maxRecDepth 100000 in
theorem implSlotsSame_any (hi : Nat) (va vb : Value) (a b : List SlotD) (w : World) (hn : a.length ≤ 1048576) (h1 : SlotsR.rd hi w [va] a) (h2 : SlotsR.rd hi w [vb] b) (hh : hi ≤ w.heap.size) :
    Calls Tryz.prog 145 #[va, vb] w fun e w' => e = .returned (.bool (slotsSame a b)) ∧ Below w.heap.size w w' := by
  have HC := Lib.hid (equalSlots_any hi va vb a b w hn h1 h2 hh)
  clear h1 h2
  go_enter Tryz.func145, Tryz.ntmps145
  go_wp2_with fail
  refine HC.out.mono ?_
  rintro e w1 ⟨rfl, hb1⟩
  go_wp2
  go_ret
  exact ⟨rfl, hb1⟩
end Go.Proofs.YtnmijppppcgobaaGreatDoor
set_option linter.unusedVariables false
namespace Go.Proofs.YtnmijppppcgobaaGreatDoor
open Go.ChangeShapes Go.WideShapes Go.ChangeAt Go.RowKit

set_option maxRecDepth 100000 in
theorem take_nextI {l m : List Int} {i : Nat} {x : Int} (h1 : l[i]? = some x) (h2 : m[i]? = some x) (h : l.take i = m.take i) : l.take (i + 1) = m.take (i + 1) := by
  obtain ⟨a1, a2⟩ := List.getElem?_eq_some_iff.1 h1
  obtain ⟨b1, b2⟩ := List.getElem?_eq_some_iff.1 h2
  rw [List.take_succ_eq_append_getElem a1, List.take_succ_eq_append_getElem b1, h, a2, b2]
set_option maxRecDepth 100000 in
set_option maxHeartbeats 4000000 in
theorem equalInts_any (hi : Nat) (v v' : Value) (l m : List Int) (w : World) (hn : l.length ≤ 1048576) (h1 : rd .i64 hi w v l) (h2 : rd .i64 hi w v' m) (hh : hi ≤ w.heap.size) :
    Calls Tryz.prog 209 #[v, v'] w fun e w' => e = .returned (.bool (decide (l = m))) ∧ Below w.heap.size w w' := by
  obtain ⟨A1, c1, rfl, -⟩ := h1.form
  obtain ⟨A2, c2, rfl, -⟩ := h2.form
  have H1 := Lib.hid h1
  have H2 := Lib.hid h2
  clear h1 h2
  by_cases hl : l.length = m.length
  rotate_left
  · have HV : Hid (decide (l = m) = false) := Lib.hid (decide_eq_false fun e => hl (by rw [e]))
    have hne : ((l.length : Int) != (m.length : Int)) = true := by simp; omega
    clear hl
    rw [HV.out]
    go_enter Tryz.func209, Tryz.ntmps209
    go_wp2
    go_ret
    exact ⟨rfl, Below.refl _ _⟩
  have HL := Lib.hid hl
  have hne : ((l.length : Int) != (m.length : Int)) = false := by simp [hl]
  have HD : Hid (∀ (i : Nat) (x y : Int), l[i]? = some x → m[i]? = some y → ¬ x = y → decide (l = m) = false) := Lib.hid fun i x y hx hy he => decide_eq_false fun e => by
    subst e
    rw [hx] at hy
    exact he (Option.some.inj hy)
  have HT0 : Hid (l.take l.length = m.take l.length → decide (l = m) = true) := Lib.hid fun h => decide_eq_true (by rwa [List.take_length, HL.out, List.take_length] at h)
  clear hl
  generalize decide (l = m) = res at HD HT0 ⊢
  go_enter Tryz.func209, Tryz.ntmps209
  go_wp2
  go_loopw [13] (fun iv wr => ∃ i k : Nat, i ≤ l.length ∧ iv = .int .i64 i ∧ Hid (l.take i = m.take i) ∧ wr = w.drewN k) (fun iv _ => l.length - (intOf iv).toNat)
  case atStart => exact ⟨0, 0, Nat.zero_le _, rfl, Lib.hid rfl, rfl⟩
  case round =>
    obtain ⟨i, k, hi', rfl, HT, rfl⟩ := hrel
    by_cases hin : i < l.length
    · obtain ⟨x, hx⟩ : ∃ x, l[i]? = some x := ⟨_, List.getElem?_eq_getElem hin⟩
      obtain ⟨y, hy⟩ : ∃ y, m[i]? = some y := ⟨_, List.getElem?_eq_getElem (by rw [← HL.out]; exact hin)⟩
      obtain ⟨a1, o1, rfl, -, d1⟩ := ring_at H1.out hx
      obtain ⟨a3, o3, rfl, -, d3⟩ := ring_at H2.out hy
      have g1 : (i : Int) < (l.length : Int) := by omega
      have g3 : (i : Int) < (m.length : Int) := by rw [← HL.out]; exact g1
      have g2 : 0 ≤ (i : Int) := by omega
      have HX := Lib.hid hx
      have HY := Lib.hid hy
      clear hx hy
      by_cases e : x = y
      · subst e
        have HN := Lib.hid (take_nextI HX.out HY.out HT.out)
        go_upto_region 6 with fail
        go_quiet (fail)
        go_wp2
        go_roundw
        case rel => exact ⟨i + 1, k + nq, by omega, by go_num, HN, by simp [World.drewN]⟩
        case measure => simp [intOf] <;> omega
      · have n1 : (x != y) = true := by simpa using e
        have HN := Lib.hid (HD.out i x y HX.out HY.out e)
        clear e
        go_upto_region 6 with fail
        go_quiet (fail)
        go_wp2
        go_ret
        exact ⟨by rw [HN.out]; rfl, below_drew' (below_drew' (Below.refl _ _) _) _⟩
    · obtain rfl : i = l.length := by omega
      have HN := Lib.hid (HT0.out HT.out)
      go_wp2
      go_ret
      exact ⟨by rw [HN.out]; rfl, below_drew' (Below.refl _ _) _⟩
set_option maxRecDepth 100000 in
set_option maxHeartbeats 4000000 in
theorem equalHolds_any (hi : Nat) (v v' : Value) (l m : List HoldD) (w : World) (hn : l.length ≤ 1048576) (h1 : HoldsR.rd hi w [v] l) (h2 : HoldsR.rd hi w [v'] m) (hh : hi ≤ w.heap.size) :
    Calls Tryz.prog 143 #[v, v'] w fun e w' => e = .returned (.bool (decide (l = m))) ∧ Below w.heap.size w w' := by
  obtain ⟨A1, c1, rfl, -, hr1⟩ := holds_rd h1
  obtain ⟨A2, c2, rfl, -, hr2⟩ := holds_rd h2
  have HR1 := Lib.hid hr1
  have HR2 := Lib.hid hr2
  clear h1 h2 hr1 hr2
  by_cases hl : l.length = m.length
  rotate_left
  · have HV : Hid (decide (l = m) = false) := Lib.hid (decide_eq_false fun e => hl (by rw [e]))
    have hne : ((l.length : Int) != (m.length : Int)) = true := by simp; omega
    clear hl
    rw [HV.out]
    go_enter Tryz.func143, Tryz.ntmps143
    go_wp2
    go_ret
    exact ⟨rfl, Below.refl _ _⟩
  have HL := Lib.hid hl
  have hne : ((l.length : Int) != (m.length : Int)) = false := by simp [hl]
  have HD : Hid (∀ (i : Nat) (x y : HoldD), l[i]? = some x → m[i]? = some y → ¬ x = y → decide (l = m) = false) := Lib.hid fun i x y hx hy he => decide_eq_false fun e => by
    subst e
    rw [hx] at hy
    exact he (Option.some.inj hy)
  have HT0 : Hid (l.take l.length = m.take l.length → decide (l = m) = true) := Lib.hid fun h => decide_eq_true (by rwa [List.take_length, HL.out, List.take_length] at h)
  clear hl
  generalize decide (l = m) = res at HD HT0 ⊢
  go_enter Tryz.func143, Tryz.ntmps143
  go_wp2
  go_loopw [13] (fun iv wr => ∃ i k : Nat, i ≤ l.length ∧ iv = .int .i64 i ∧ Hid (l.take i = m.take i) ∧ wr = w.drewN k) (fun iv _ => l.length - (intOf iv).toNat)
  case atStart => exact ⟨0, 0, Nat.zero_le _, rfl, Lib.hid rfl, rfl⟩
  case round =>
    obtain ⟨i, k, hi', rfl, HT, rfl⟩ := hrel
    by_cases hin : i < l.length
    · obtain ⟨x, hx⟩ : ∃ x, l[i]? = some x := ⟨_, List.getElem?_eq_getElem hin⟩
      obtain ⟨y, hy⟩ : ∃ y, m[i]? = some y := ⟨_, List.getElem?_eq_getElem (by rw [← HL.out]; exact hin)⟩
      obtain ⟨a1, o1, rfl, -, d0, d1, d2⟩ := HR1.out i x hx
      obtain ⟨a3, o3, rfl, -, d3, d4, d5⟩ := HR2.out i y hy
      have g1 : (i : Int) < (l.length : Int) := by omega
      have g3 : (i : Int) < (m.length : Int) := by rw [← HL.out]; exact g1
      have g2 : 0 ≤ (i : Int) := by omega
      have HX := Lib.hid hx
      have HY := Lib.hid hy
      clear hx hy
      have hneq := holdNeq x y
      have HXY : Hid (decide (x = y) = true → x = y) := Lib.hid of_decide_eq_true
      have HNE : Hid (decide (x = y) = false → ¬ x = y) := Lib.hid of_decide_eq_false
      generalize decide (x = y) = eb at hneq HXY HNE
      cases eb
      · have HN := Lib.hid (HD.out i x y HX.out HY.out (HNE.out rfl))
        go_upto_region 6 with fail
        go_quiet (fail)
        go_wp2
        go_ret
        exact ⟨by rw [HN.out]; rfl, below_drew' (Below.refl _ _) _⟩
      · have HN := Lib.hid (take_nextH HX.out (by rw [HXY.out rfl]; exact HY.out) HT.out)
        go_upto_region 6 with fail
        go_quiet (fail)
        go_wp2
        go_roundw
        case rel => exact ⟨i + 1, k + nq, by omega, by go_num, HN, by simp [World.drewN]⟩
        case measure => simp [intOf] <;> omega
    · obtain rfl : i = l.length := by omega
      have HN := Lib.hid (HT0.out HT.out)
      go_wp2
      go_ret
      exact ⟨by rw [HN.out]; rfl, below_drew' (Below.refl _ _) _⟩
set_option maxRecDepth 100000 in
set_option maxHeartbeats 4000000 in
theorem ringsSame_any (hi : Nat) (vc vs vc' vs' : Value) (r q : RingD) (w : World) (h1 : rd .i64 hi w vc r.2.2.1) (h2 : rd .i64 hi w vs r.2.2.2) (h3 : rd .i64 hi w vc' q.2.2.1) (h4 : rd .i64 hi w vs' q.2.2.2) (hh : hi ≤ w.heap.size) (hc : r.2.2.1.length ≤ 1048576) (hs : r.2.2.2.length ≤ 1048576) :
    Calls Tryz.prog 144 #[.agg #[.int .i64 r.1, .int .i64 r.2.1, vc, vs], .agg #[.int .i64 q.1, .int .i64 q.2.1, vc', vs']] w fun e w' => e = .returned (.bool (decide (r = q))) ∧ Below w.heap.size w w' := by
  obtain ⟨sp, hd, cs, ss⟩ := r
  obtain ⟨sp', hd', cs', ss'⟩ := q
  simp only at h1 h2 h3 h4 hc hs ⊢
  obtain ⟨A1, c1, rfl, -⟩ := h1.form
  obtain ⟨A2, c2, rfl, -⟩ := h2.form
  obtain ⟨A3, c3, rfl, -⟩ := h3.form
  obtain ⟨A4, c4, rfl, -⟩ := h4.form
  have HQ1 := Lib.hid (fun V (hV : Below w.heap.size w V) => equalInts_any hi _ _ cs cs' V hc (h1.below hV hh) (h3.below hV hh) (Nat.le_trans hh hV.size))
  have HQ2 := Lib.hid (fun V (hV : Below w.heap.size w V) => equalInts_any hi _ _ ss ss' V hs (h2.below hV hh) (h4.below hV hh) (Nat.le_trans hh hV.size))
  have HE : Hid (decide ((sp, hd, cs, ss) = (sp', hd', cs', ss')) = (decide (sp = sp') && (decide (hd = hd') && (decide (cs = cs') && decide (ss = ss'))))) := Lib.hid (by simp only [Prod.mk.injEq, Bool.decide_and])
  clear h1 h2 h3 h4
  generalize decide ((sp, hd, cs, ss) = (sp', hd', cs', ss')) = res at HE ⊢
  generalize decide (cs = cs') = t3 at HE HQ1
  generalize decide (ss = ss') = t4 at HE HQ2
  go_enter Tryz.func144, Tryz.ntmps144
  go_upto_region 1 with fail
  obtain ⟨W, hW⟩ : ∃ W, W = (w.alloc (.cells #[.int .i64 sp, .int .i64 hd, .slice A1 cs.length c1, .slice A2 ss.length c2] 26)).alloc (.cells #[.int .i64 sp', .int .i64 hd', .slice A3 cs'.length c3, .slice A4 ss'.length c4] 26) := ⟨_, rfl⟩
  have b0 : bk W w.heap.size 26 [.int .i64 sp, .int .i64 hd, .slice A1 cs.length c1, .slice A2 ss.length c2] := by rw [hW]; exact (bk.new w _ _).alloc _
  have b1 : bk W (w.heap.size + 1) 26 [.int .i64 sp', .int .i64 hd', .slice A3 cs'.length c3, .slice A4 ss'.length c4] := by rw [hW]; simpa using bk.new (w.alloc _) 26 [.int .i64 sp', .int .i64 hd', .slice A3 cs'.length c3, .slice A4 ss'.length c4]
  have HB : Hid (Below w.heap.size w W) := Lib.hid (by rw [hW]; exact ((Below.refl _ _).alloc (Nat.le_refl _) _).alloc (by simp) _)
  have y0 : w.heap.size + 2 ≤ W.heap.size := by rw [hW]; simp
  rw [← hW]
  clear hW

  obtain ⟨⟨p0, p1, p2, p3⟩, -⟩ := b0.cells
  obtain ⟨⟨q0, q1, q2, q3⟩, -⟩ := b1.cells
  by_cases e1 : sp = sp'
  rotate_left
  · have n1 : (sp == sp') = false := by simpa using e1
    have HN := Lib.hid (HE.out.trans (show _ = false by rw [decide_eq_false e1]; rfl))
    clear e1
    go_wp2
    go_ret
    exact ⟨by rw [HN.out]; rfl, HB.out⟩
  subst e1
  by_cases e2 : hd = hd'
  rotate_left
  · have n1 : (hd == hd') = false := by simpa using e2
    have HN := Lib.hid (HE.out.trans (show _ = false by rw [decide_eq_false e2]; simp))
    clear e2
    go_wp2
    go_ret
    exact ⟨by rw [HN.out]; rfl, HB.out⟩
  subst e2
  have HN : Hid (res = (t3 && t4)) := Lib.hid (HE.out.trans (by simp))
  clear HE
  have B0 := Lib.hid b0
  have B1 := Lib.hid b1
  clear b0 b1
  go_wp2_with fail
  refine (HQ1.out W HB.out).mono ?_
  rintro e w2 ⟨rfl, hb2⟩
  have z2 := hb2.size
  have HB2 : Hid (Below w.heap.size w w2) := Lib.hid (HB.out.trans (hb2.mono (by omega)))
  have HC0 := Lib.hid (B0.out.below hb2 (by omega))
  have HC1 := Lib.hid (B1.out.below hb2 (by omega))
  clear hb2 p0 p1 p2 p3 q0 q1 q2 q3
  cases t3
  · go_wp2
    go_ret
    exact ⟨by rw [HN.out]; rfl, HB2.out⟩
  obtain ⟨⟨p0, p1, p2, p3⟩, -⟩ := HC0.out.cells
  obtain ⟨⟨q0, q1, q2, q3⟩, -⟩ := HC1.out.cells
  go_wp2_with fail
  refine (HQ2.out w2 HB2.out).mono ?_
  rintro e w4 ⟨rfl, hb4⟩
  have HB4 : Hid (Below w.heap.size w w4) := Lib.hid (HB2.out.trans (hb4.mono (by omega)))
  clear hb4
  go_wp2
  go_ret
  exact ⟨by rw [HN.out]; rfl, HB4.out⟩
set_option maxRecDepth 100000 in
theorem amtUnder : Tryz.prog.underlying 95 = some (.struct (Tryz.prog.fieldsOf 95)) := by kernel_rfl
set_option maxRecDepth 100000 in
theorem amtFields : (Tryz.prog.fieldsOf 95).toList.map (fun f => (f.type, f.offset, decide (f.name ≠ "_"))) = [(3, 0, true), (3, 1, true), (3, 2, true), (3, 3, true)] := by kernel_rfl
set_option maxRecDepth 100000 in
theorem amtEql (a b c d a' b' c' d' : Int) (w : World) : (binOp .eql 95 (.agg #[.int .i64 a, .int .i64 b, .int .i64 c, .int .i64 d]) (.agg #[.int .i64 a', .int .i64 b', .int .i64 c', .int .i64 d'])).run Tryz.prog w = .ok (.bool (decide (a = a') && (decide (b = b') && (decide (c = c') && decide (d = d'))))) w := by
  have hs : Tryz.prog.stoodInHeld 95 = false := by kernel_rfl
  rw [run_eql_struct, run_equalIn_struct w 9999 _ _ _ amtUnder hs]
  have hf := amtFields
  generalize (Tryz.prog.fieldsOf 95).toList = fs at hf
  have hl : fs.length = 4 := by simpa using congrArg List.length hf
  match fs, hl, hf with
  | [f, g, h, k], _, hf =>
    simp only [List.map_cons, List.map_nil, List.cons.injEq, Prod.mk.injEq, and_true, decide_eq_true_eq] at hf
    obtain ⟨⟨f1, f2, f3⟩, ⟨g1, g2, g3⟩, ⟨h1, h2, h3⟩, k1, k2, k3⟩ := hf
    have p1 : ∀ u v x y : Value, (Go.part 3 #[u, v, x, y] 0).run Tryz.prog w = .ok u w := fun u v x y => by kernel_rfl
    have p2 : ∀ u v x y : Value, (Go.part 3 #[u, v, x, y] 1).run Tryz.prog w = .ok v w := fun u v x y => by kernel_rfl
    have p3 : ∀ u v x y : Value, (Go.part 3 #[u, v, x, y] 2).run Tryz.prog w = .ok x w := fun u v x y => by kernel_rfl
    have p4 : ∀ u v x y : Value, (Go.part 3 #[u, v, x, y] 3).run Tryz.prog w = .ok y w := fun u v x y => by kernel_rfl
    have s2 := fun a b => run_equalIn_int (P := Tryz.prog) w 9998 3 .i64 .i64 a b Tryz.underlying3
    simp only [Op.eqFields, f1, f2, f3, g1, g2, g3, h1, h2, h3, k1, k2, k3, if_true, Sem.run_bind, Sem.run_ite, Sem.run_pure, p1, p2, p3, p4, s2, Result.andThen_ok, ne_eq, not_false_eq_true]
    have q : ∀ x y : Int, (x == y) = decide (x = y) := fun x y => by by_cases h : x = y <;> simp [h]
    simp only [q]
    cases decide (a = a') <;> cases decide (b = b') <;> cases decide (c = c') <;> cases decide (d = d') <;> simp
set_option maxRecDepth 100000 in
set_option maxHeartbeats 8000000 in
theorem implSame_any (hi : Nat) (id : ByteArray) (lim pos most sum : Int) (hs : List HoldD) (sp hd : Int) (cs ss : List Int) (sl : List SlotD) (id' : ByteArray) (lim' pos' most' sum' : Int) (hs' : List HoldD) (sp' hd' : Int) (cs' ss' : List Int) (sl' : List SlotD) (vh vc vs vl vh' vc' vs' vl' : Value) (w : World) (z1 : hs.length ≤ 1048576) (z2 : cs.length ≤ 1048576) (z3 : ss.length ≤ 1048576) (z4 : sl.length ≤ 1048576) (r1 : HoldsR.rd hi w [vh] hs) (r2 : rd .i64 hi w vc cs) (r3 : rd .i64 hi w vs ss) (r4 : SlotsR.rd hi w [vl] sl) (r1b : HoldsR.rd hi w [vh'] hs') (r2b : rd .i64 hi w vc' cs') (r3b : rd .i64 hi w vs' ss') (r4b : SlotsR.rd hi w [vl'] sl') (hh : hi ≤ w.heap.size) :
    Calls Tryz.prog 71 #[.agg #[.int .i64 lim, .int .i64 pos, .int .i64 most, .int .i64 sum, .string id, vh, .int .i64 sp, .int .i64 hd, vc, vs, vl], .agg #[.int .i64 lim', .int .i64 pos', .int .i64 most', .int .i64 sum', .string id', vh', .int .i64 sp', .int .i64 hd', vc', vs', vl']] w fun e w' => e = .returned (.bool (acctSame (id, lim, pos, most, sum, hs, (sp, hd, cs, ss), sl) (id', lim', pos', most', sum', hs', (sp', hd', cs', ss'), sl'))) ∧ Below w.heap.size w w' := by
  have HEQ : Hid (acctSame (id, lim, pos, most, sum, hs, (sp, hd, cs, ss), sl) (id', lim', pos', most', sum', hs', (sp', hd', cs', ss'), sl') = (decide (id = id') && ((decide (lim = lim') && (decide (pos = pos') && (decide (most = most') && decide (sum = sum')))) && (decide (hs = hs') && (decide ((sp, hd, cs, ss) = (sp', hd', cs', ss')) && slotsSame sl sl'))))) := Lib.hid (by simp only [acctSame, Bool.and_assoc])
  obtain ⟨AH, cH, rfl, -⟩ := Rep.slice_form r1
  obtain ⟨AC, cC, rfl, -⟩ := r2.form
  obtain ⟨AS, cS, rfl, -⟩ := r3.form
  obtain ⟨AL, cL, rfl, -⟩ := Rep.slice_form r4
  obtain ⟨AH', cH', rfl, -⟩ := Rep.slice_form r1b
  obtain ⟨AC', cC', rfl, -⟩ := r2b.form
  obtain ⟨AS', cS', rfl, -⟩ := r3b.form
  obtain ⟨AL', cL', rfl, -⟩ := Rep.slice_form r4b
  have HQ0 := Lib.hid (fun W (hW : Below w.heap.size w W) => equalHolds_any hi _ _ hs hs' W z1 (Rep.below (R := HoldsR) r1 hW hh) (Rep.below (R := HoldsR) r1b hW hh) (Nat.le_trans hh hW.size))
  have HQ1 := Lib.hid (fun W (hW : Below w.heap.size w W) => ringsSame_any hi _ _ _ _ (sp, hd, cs, ss) (sp', hd', cs', ss') W (r2.below hW hh) (r3.below hW hh) (r2b.below hW hh) (r3b.below hW hh) (Nat.le_trans hh hW.size) z2 z3)
  have HQ2 := Lib.hid (fun W (hW : Below w.heap.size w W) => implSlotsSame_any hi _ _ sl sl' W z4 (Rep.below (R := SlotsR) r4 hW hh) (Rep.below (R := SlotsR) r4b hW hh) (Nat.le_trans hh hW.size))
  have hamt := amtEql lim pos most sum lim' pos' most' sum'
  clear r1 r2 r3 r4 r1b r2b r3b r4b z1 z2 z3 z4
  generalize acctSame (id, lim, pos, most, sum, hs, (sp, hd, cs, ss), sl) (id', lim', pos', most', sum', hs', (sp', hd', cs', ss'), sl') = am at HEQ ⊢
  generalize (decide (lim = lim') && (decide (pos = pos') && (decide (most = most') && decide (sum = sum')))) = bm at HEQ hamt
  generalize decide (hs = hs') = hm at HEQ HQ0
  generalize decide ((sp, hd, cs, ss) = (sp', hd', cs', ss')) = rm at HEQ HQ1
  generalize slotsSame sl sl' = sm at HEQ HQ2
  go_enter Tryz.func71, Tryz.ntmps71
  go_upto_region 1 with fail
  obtain ⟨W, hW⟩ : ∃ W, W = (w.alloc (.cells #[.int .i64 lim, .int .i64 pos, .int .i64 most, .int .i64 sum, .string id, .slice AH hs.length cH, .int .i64 sp, .int .i64 hd, .slice AC cs.length cC, .slice AS ss.length cS, .slice AL sl.length cL] 97)).alloc (.cells #[.int .i64 lim', .int .i64 pos', .int .i64 most', .int .i64 sum', .string id', .slice AH' hs'.length cH', .int .i64 sp', .int .i64 hd', .slice AC' cs'.length cC', .slice AS' ss'.length cS', .slice AL' sl'.length cL'] 97) := ⟨_, rfl⟩
  have b0 : bk W w.heap.size 97 [.int .i64 lim, .int .i64 pos, .int .i64 most, .int .i64 sum, .string id, .slice AH hs.length cH, .int .i64 sp, .int .i64 hd, .slice AC cs.length cC, .slice AS ss.length cS, .slice AL sl.length cL] := by rw [hW]; exact (bk.new w _ _).alloc _
  have b1 : bk W (w.heap.size + 1) 97 [.int .i64 lim', .int .i64 pos', .int .i64 most', .int .i64 sum', .string id', .slice AH' hs'.length cH', .int .i64 sp', .int .i64 hd', .slice AC' cs'.length cC', .slice AS' ss'.length cS', .slice AL' sl'.length cL'] := by rw [hW]; simpa using bk.new (w.alloc _) 97 [.int .i64 lim', .int .i64 pos', .int .i64 most', .int .i64 sum', .string id', .slice AH' hs'.length cH', .int .i64 sp', .int .i64 hd', .slice AC' cs'.length cC', .slice AS' ss'.length cS', .slice AL' sl'.length cL']
  have HB : Hid (Below w.heap.size w W) := Lib.hid (by rw [hW]; exact ((Below.refl _ _).alloc (Nat.le_refl _) _).alloc (by simp) _)
  have y0 : w.heap.size + 2 ≤ W.heap.size := by rw [hW]; simp
  rw [← hW]
  clear hW

  obtain ⟨⟨p0, p1, p2, p3, p4, p5, p6, p7, p8, p9, p10⟩, -⟩ := b0.eleven
  obtain ⟨⟨q0, q1, q2, q3, q4, q5, q6, q7, q8, q9, q10⟩, -⟩ := b1.eleven
  have B0 := Lib.hid b0
  have B1 := Lib.hid b1
  clear b0 b1
  by_cases e0 : id = id'
  rotate_left
  · have n2 : (id.toList == id'.toList) = false := by simpa using fun e => e0 (str_eq_list.1 e)
    have HN := Lib.hid (HEQ.out.trans (show _ = false by rw [decide_eq_false e0]; rfl))
    clear e0
    go_wp2
    go_ret
    exact ⟨by rw [HN.out]; rfl, HB.out⟩
  subst e0
  have HN : Hid (am = (bm && (hm && (rm && sm)))) := Lib.hid (HEQ.out.trans (by simp))
  clear HEQ
  cases bm
  · go_wp2
    go_ret
    exact ⟨by rw [HN.out]; rfl, HB.out⟩
  go_wp2_with fail
  refine (HQ0.out W HB.out).mono ?_
  rintro e w2 ⟨rfl, hb2⟩
  have z2 := hb2.size
  have HB2 : Hid (Below w.heap.size w w2) := Lib.hid (HB.out.trans (hb2.mono (by omega)))
  have HC0 := Lib.hid (B0.out.below hb2 (by omega))
  have HC1 := Lib.hid (B1.out.below hb2 (by omega))
  clear hb2 p0 p1 p2 p3 p4 p5 p6 p7 p8 p9 p10 q0 q1 q2 q3 q4 q5 q6 q7 q8 q9 q10
  cases hm
  · go_wp2
    go_ret
    exact ⟨by rw [HN.out]; rfl, HB2.out⟩
  obtain ⟨⟨p0, p1, p2, p3, p4, p5, p6, p7, p8, p9, p10⟩, -⟩ := HC0.out.eleven
  obtain ⟨⟨q0, q1, q2, q3, q4, q5, q6, q7, q8, q9, q10⟩, -⟩ := HC1.out.eleven
  go_wp2_with fail
  refine (HQ1.out w2 HB2.out).mono ?_
  rintro e w3 ⟨rfl, hb3⟩
  have z3 := hb3.size
  have HB3 : Hid (Below w.heap.size w w3) := Lib.hid (HB2.out.trans (hb3.mono (by omega)))
  have HD0 := Lib.hid (HC0.out.below hb3 (by omega))
  have HD1 := Lib.hid (HC1.out.below hb3 (by omega))
  clear hb3 p0 p1 p2 p3 p4 p5 p6 p7 p8 p9 p10 q0 q1 q2 q3 q4 q5 q6 q7 q8 q9 q10
  cases rm
  · go_wp2
    go_ret
    exact ⟨by rw [HN.out]; rfl, HB3.out⟩
  obtain ⟨⟨p0, p1, p2, p3, p4, p5, p6, p7, p8, p9, p10⟩, -⟩ := HD0.out.eleven
  obtain ⟨⟨q0, q1, q2, q3, q4, q5, q6, q7, q8, q9, q10⟩, -⟩ := HD1.out.eleven
  go_wp2_with fail
  refine (HQ2.out w3 HB3.out).mono ?_
  rintro e w4 ⟨rfl, hb4⟩
  have HB4 : Hid (Below w.heap.size w w4) := Lib.hid (HB3.out.trans (hb4.mono (by omega)))
  clear hb4
  go_wp2
  go_ret
  exact ⟨by rw [HN.out]; rfl, HB4.out⟩
set_option maxRecDepth 100000 in
set_option maxHeartbeats 8000000 in
theorem implAcctSame_any (hi : Nat) (vh vc vs vl vh' vc' vs' vl' : Value) (a b : AcctD) (w : World) (hz : acctSmall 1048576 a) (h1 : AcctR.rd hi w (aCells a vh vc vs vl) a) (h2 : AcctR.rd hi w (aCells b vh' vc' vs' vl') b) (hh : hi ≤ w.heap.size) :
    Calls Tryz.prog 25 #[.agg #[.string (aId a), .int .i64 (aLim a), .int .i64 (aPos a), .int .i64 (aMost a), .int .i64 (aSum a), vh, .int .i64 (aR a).1, .int .i64 (aR a).2.1, vc, vs, vl], .agg #[.string (aId b), .int .i64 (aLim b), .int .i64 (aPos b), .int .i64 (aMost b), .int .i64 (aSum b), vh', .int .i64 (aR b).1, .int .i64 (aR b).2.1, vc', vs', vl']] w fun e w' => e = .returned (.bool (acctSame a b)) ∧ Below w.heap.size w w' := by
  obtain ⟨vh0, vc0, vs0, vl0, hcs, r1, r2, r3, r4⟩ := acct_rd h1
  simp only [aCells, List.cons.injEq, and_true, true_and] at hcs
  obtain ⟨rfl, rfl, rfl, rfl⟩ := hcs
  clear h1
  obtain ⟨vh0, vc0, vs0, vl0, hcs, r1b, r2b, r3b, r4b⟩ := acct_rd h2
  simp only [aCells, List.cons.injEq, and_true, true_and] at hcs
  obtain ⟨rfl, rfl, rfl, rfl⟩ := hcs
  clear h2
  obtain ⟨z1, z2, z3, z4, z5⟩ := hz
  obtain ⟨id, lim, pos, most, sum, hs, ⟨sp, hd, cs, ss⟩, sl⟩ := a
  obtain ⟨id', lim', pos', most', sum', hs', ⟨sp', hd', cs', ss'⟩, sl'⟩ := b
  simp only [aId, aLim, aPos, aMost, aSum, aH, aS] at r1 r2 r3 r4 r1b r2b r3b r4b z1 z2 z3 z4 z5 ⊢
  have HQ := Lib.hid (fun W (hW : Below w.heap.size w W) => implSame_any hi id lim pos most sum hs sp hd cs ss sl id' lim' pos' most' sum' hs' sp' hd' cs' ss' sl' vh vc vs vl vh' vc' vs' vl' W z1 z2 z3 z4 (Rep.below (R := HoldsR) r1 hW hh) (r2.below hW hh) (r3.below hW hh) (Rep.below (R := SlotsR) r4 hW hh) (Rep.below (R := HoldsR) r1b hW hh) (r2b.below hW hh) (r3b.below hW hh) (Rep.below (R := SlotsR) r4b hW hh) (Nat.le_trans hh hW.size))
  obtain ⟨AH, cH, rfl, -⟩ := Rep.slice_form r1
  obtain ⟨AC, cC, rfl, -⟩ := r2.form
  obtain ⟨AS, cS, rfl, -⟩ := r3.form
  obtain ⟨AL, cL, rfl, -⟩ := Rep.slice_form r4
  obtain ⟨AH', cH', rfl, -⟩ := Rep.slice_form r1b
  obtain ⟨AC', cC', rfl, -⟩ := r2b.form
  obtain ⟨AS', cS', rfl, -⟩ := r3b.form
  obtain ⟨AL', cL', rfl, -⟩ := Rep.slice_form r4b
  have HA := Lib.hid (fun V => implAccountOf_any id lim pos most sum AH hs.length cH sp hd AC cs.length cC AS ss.length cS AL sl.length cL V)
  have HA2 := Lib.hid (fun V => implAccountOf_any id' lim' pos' most' sum' AH' hs'.length cH' sp' hd' AC' cs'.length cC' AS' ss'.length cS' AL' sl'.length cL' V)
  clear r1 r2 r3 r4 r1b r2b r3b r4b z1 z2 z3 z4 z5
  generalize acctSame (id, lim, pos, most, sum, hs, (sp, hd, cs, ss), sl) (id', lim', pos', most', sum', hs', (sp', hd', cs', ss'), sl') = am at HQ ⊢
  go_enter Tryz.func25, Tryz.ntmps25
  go_upto_region 1 with fail
  obtain ⟨W, hW⟩ : ∃ W, W = (w.alloc (.cells #[.string id, .int .i64 lim, .int .i64 pos, .int .i64 most, .int .i64 sum, .slice AH hs.length cH, .int .i64 sp, .int .i64 hd, .slice AC cs.length cC, .slice AS ss.length cS, .slice AL sl.length cL] 29)).alloc (.cells #[.string id', .int .i64 lim', .int .i64 pos', .int .i64 most', .int .i64 sum', .slice AH' hs'.length cH', .int .i64 sp', .int .i64 hd', .slice AC' cs'.length cC', .slice AS' ss'.length cS', .slice AL' sl'.length cL'] 29) := ⟨_, rfl⟩
  have b0 : bk W w.heap.size 29 [.string id, .int .i64 lim, .int .i64 pos, .int .i64 most, .int .i64 sum, .slice AH hs.length cH, .int .i64 sp, .int .i64 hd, .slice AC cs.length cC, .slice AS ss.length cS, .slice AL sl.length cL] := by rw [hW]; exact (bk.new w _ _).alloc _
  have b1 : bk W (w.heap.size + 1) 29 [.string id', .int .i64 lim', .int .i64 pos', .int .i64 most', .int .i64 sum', .slice AH' hs'.length cH', .int .i64 sp', .int .i64 hd', .slice AC' cs'.length cC', .slice AS' ss'.length cS', .slice AL' sl'.length cL'] := by rw [hW]; simpa using bk.new (w.alloc _) 29 [.string id', .int .i64 lim', .int .i64 pos', .int .i64 most', .int .i64 sum', .slice AH' hs'.length cH', .int .i64 sp', .int .i64 hd', .slice AC' cs'.length cC', .slice AS' ss'.length cS', .slice AL' sl'.length cL']
  have HB : Hid (Below w.heap.size w W) := Lib.hid (by rw [hW]; exact ((Below.refl _ _).alloc (Nat.le_refl _) _).alloc (by simp) _)
  have y0 : w.heap.size + 2 ≤ W.heap.size := by rw [hW]; simp
  rw [← hW]
  clear hW

  obtain ⟨⟨p0, p1, p2, p3, p4, p5, p6, p7, p8, p9, p10⟩, -⟩ := b0.eleven
  obtain ⟨⟨q0, q1, q2, q3, q4, q5, q6, q7, q8, q9, q10⟩, -⟩ := b1.eleven
  have P0 := Lib.hid p0
  have P1 := Lib.hid p1
  have P2 := Lib.hid p2
  have P3 := Lib.hid p3
  have P4 := Lib.hid p4
  have P5 := Lib.hid p5
  have P6 := Lib.hid p6
  have P7 := Lib.hid p7
  have P8 := Lib.hid p8
  have P9 := Lib.hid p9
  have P10 := Lib.hid p10
  have Q0 := Lib.hid q0
  have Q1 := Lib.hid q1
  have Q2 := Lib.hid q2
  have Q3 := Lib.hid q3
  have Q4 := Lib.hid q4
  have Q5 := Lib.hid q5
  have Q6 := Lib.hid q6
  have Q7 := Lib.hid q7
  have Q8 := Lib.hid q8
  have Q9 := Lib.hid q9
  have Q10 := Lib.hid q10
  clear b0 b1 p0 p1 p2 p3 p4 p5 p6 p7 p8 p9 p10 q0 q1 q2 q3 q4 q5 q6 q7 q8 q9 q10
  have HBX : Hid (∀ V, Ext W V → Below w.heap.size w V) := Lib.hid fun V hV => HB.out.trans (hV.below.mono (by omega))
  have HX : Hid (Ext W W.drew) := Lib.hid (Ext.refl W).drew
  refine quiet_region (C := Ext W) (by kernel_rfl) (by kernel_rfl) HX.out ?_
  repeat (first
    | go_big_quiet_skip
    | (go_big_quiet_want; go_big_quiet_op; go_big_quiet_on)
    | (go_big_quiet_want; go_big_quiet_op; apply Exists.intro; refine ⟨fun _ _ => rfl, ?_⟩; go_big_quiet_on)
    | (go_big_quiet_want
       apply Exists.intro
       refine ⟨fun V hV => ?_, ?_⟩
       (have l0 := hV.cell P0.out (by omega)
        have l1 := hV.cell P1.out (by omega)
        have l2 := hV.cell P2.out (by omega)
        have l3 := hV.cell P3.out (by omega)
        have l4 := hV.cell P4.out (by omega)
        have l5 := hV.cell P5.out (by omega)
        have l6 := hV.cell P6.out (by omega)
        have l7 := hV.cell P7.out (by omega)
        have l8 := hV.cell P8.out (by omega)
        have l9 := hV.cell P9.out (by omega)
        have l10 := hV.cell P10.out (by omega)
        unfold Oper.quietAt
        go_simp
        rfl)
       simp only [Act.put, List.setIfInBounds_toArray, List.set_cons_zero, List.set_cons_succ]
       go_big_quiet_on)
    | (go_big_quiet_want
       apply Exists.intro
       refine ⟨fun V hV => ?_, ?_⟩
       (have l0 := hV.cell Q0.out (by omega)
        have l1 := hV.cell Q1.out (by omega)
        have l2 := hV.cell Q2.out (by omega)
        have l3 := hV.cell Q3.out (by omega)
        have l4 := hV.cell Q4.out (by omega)
        have l5 := hV.cell Q5.out (by omega)
        have l6 := hV.cell Q6.out (by omega)
        have l7 := hV.cell Q7.out (by omega)
        have l8 := hV.cell Q8.out (by omega)
        have l9 := hV.cell Q9.out (by omega)
        have l10 := hV.cell Q10.out (by omega)
        unfold Oper.quietAt
        go_simp
        rfl)
       simp only [Act.put, List.setIfInBounds_toArray, List.set_cons_zero, List.set_cons_succ]
       go_big_quiet_on)
    | (go_big_quiet_want
       apply Exists.intro
       refine ⟨fun V hV => ?_, ?_⟩
       (unfold Oper.quietAt
        go_simp
        go_at_call 68
        (with_reducible refine (HA.out V).mono ?_)
        rintro e w4 ⟨rfl, hb4⟩
        exact ⟨rfl, hV.step hb4⟩)
       simp only [Act.put, List.setIfInBounds_toArray, List.set_cons_zero, List.set_cons_succ]
       go_big_quiet_on)
    | (go_big_quiet_want
       apply Exists.intro
       refine ⟨fun V hV => ?_, ?_⟩
       (unfold Oper.quietAt
        go_simp
        go_at_call 68
        (with_reducible refine (HA2.out V).mono ?_)
        rintro e w4 ⟨rfl, hb4⟩
        exact ⟨rfl, hV.step hb4⟩)
       simp only [Act.put, List.setIfInBounds_toArray, List.set_cons_zero, List.set_cons_succ]
       go_big_quiet_on)
    | (go_big_quiet_want
       apply Exists.intro
       refine ⟨fun V hV => ?_, ?_⟩
       (unfold Oper.quietAt
        go_simp
        go_at_call 71
        (with_reducible refine (HQ.out V (HBX.out V hV)).mono ?_)
        rintro e w4 ⟨rfl, hb4⟩
        exact ⟨rfl, hV.step hb4⟩)
       simp only [Act.put, List.setIfInBounds_toArray, List.set_cons_zero, List.set_cons_succ]
       go_big_quiet_on)
    | fail)
  refine wpQuiet_nil ?_
  intro W4 hW4
  go_wp2
  go_ret
  exact ⟨rfl, HBX.out W4 hW4⟩
end Go.Proofs.YtnmijppppcgobaaGreatDoor
