/- SlotsSame of the reference; no conditions. -/
import Derived.Test.YtkbakcnhhlmpkaaSlotF
import Derived.BigQuiet
import Derived.Deep.DeepCutAuto
set_option linter.unusedVariables false
namespace Go.Proofs.Ytkbakcnhhlmpkaa
open Go.ChangeShapes Go.WideShapes Go.ChangeAt Go.RowKit

def strOf (l : List Int) : ByteArray := ⟨(l.map byteOf).toArray⟩
def noS : SlotD := (⟨#[]⟩, ⟨#[]⟩, [])
def slotEq (x y : SlotD) : Bool := decide (x.1 = y.1) && (decide (x.2.1 = y.2.1) && decide (strOf x.2.2 = strOf y.2.2))
def slotsSame (a b : List SlotD) : Bool := decide (a.length = b.length) && (List.range a.length).all fun j => slotEq (a.getD j noS) (b.getD j noS)
set_option maxRecDepth 100000 in
theorem same_len {a b : List SlotD} (h : a.length ≠ b.length) : slotsSame a b = false := by unfold slotsSame; rw [decide_eq_false h]; rfl
set_option maxRecDepth 100000 in
theorem same_not {a b : List SlotD} {i : Nat} {x y : SlotD} (hx : a[i]? = some x) (hy : b[i]? = some y) (h : slotEq x y = false) : slotsSame a b = false := by
  have hi := (List.getElem?_eq_some_iff.1 hx).1
  unfold slotsSame
  rw [Bool.and_eq_false_iff]
  refine .inr (List.all_eq_false.2 ⟨i, List.mem_range.2 hi, ?_⟩)
  rw [List.getD_eq_getElem?_getD, List.getD_eq_getElem?_getD, hx, hy]
  simpa using h
set_option maxRecDepth 100000 in
theorem same_all {a b : List SlotD} (hl : a.length = b.length) (h : ∀ (j : Nat) (x y : SlotD), a[j]? = some x → b[j]? = some y → slotEq x y = true) : slotsSame a b = true := by
  unfold slotsSame
  rw [decide_eq_true hl, Bool.true_and, List.all_eq_true]
  intro j hj
  have hj' := List.mem_range.1 hj
  refine h j _ _ (by rw [List.getD_eq_getElem?_getD, List.getElem?_eq_getElem hj']; rfl) (by rw [List.getD_eq_getElem?_getD, List.getElem?_eq_getElem (by omega : j < b.length)]; rfl)
set_option maxRecDepth 100000 in
set_option maxHeartbeats 6400000 in
theorem specSlotsSame_any (hi : Nat) (va vb : Value) (a b : List SlotD) (w : World) (hn : a.length ≤ 1048576) (h1 : SlotsR.rd hi w [va] a) (h2 : SlotsR.rd hi w [vb] b) (hh : hi ≤ w.heap.size) :
    Calls Try.prog 28 #[va, vb] w fun e w' => e = .returned (.bool (slotsSame a b)) ∧ Below w.heap.size w w' := by
  obtain ⟨A1, c1, rfl, -, h1⟩ := slots_rd h1
  obtain ⟨A2, c2, rfl, -, h2⟩ := slots_rd h2
  have H1 := Lib.hid h1
  have H2 := Lib.hid h2
  clear h1 h2
  by_cases hl : a.length = b.length
  · have HL := Lib.hid hl
    have hne : ((a.length : Int) != (b.length : Int)) = false := by simp [hl]
    clear hl
    go_enter Try.func28, Try.ntmps28
    go_wp2
    go_loopw [14] (fun iv wr => ∃ i : Nat, i ≤ a.length ∧ iv = .int .i64 i ∧ Hid (∀ (j : Nat) (x y : SlotD), j < i → a[j]? = some x → b[j]? = some y → slotEq x y = true) ∧ Hid (Below w.heap.size w wr) ∧ w.heap.size ≤ wr.heap.size) (fun iv _ => a.length - (intOf iv).toNat)
    case atStart => exact ⟨0, Nat.zero_le _, rfl, Lib.hid fun j x y hj => absurd hj (by omega), Lib.hid (Below.refl _ _), Nat.le_refl _⟩
    case round =>
      obtain ⟨i, hi', rfl, HN, HB, hz⟩ := hrel
      by_cases hin : i < a.length
      · obtain ⟨x, hx⟩ : ∃ x, a[i]? = some x := ⟨_, List.getElem?_eq_getElem hin⟩
        obtain ⟨y, hy⟩ : ∃ y, b[i]? = some y := ⟨_, List.getElem?_eq_getElem (by rw [← HL.out]; exact hin)⟩
        obtain ⟨b1, o1, B1, d1, rfl, hb1, x1, y1, v1, r1⟩ := H1.out i x hx
        obtain ⟨b2, o2, B2, d2, rfl, hb2, x2, y2, v2, r2⟩ := H2.out i y hy
        have x1 := (HB.out.cell (p := ⟨b1, _, none⟩) (show b1 < w.heap.size by omega)).trans x1
        have y1 := (HB.out.cell (p := ⟨b1, _, none⟩) (show b1 < w.heap.size by omega)).trans y1
        have v1 := (HB.out.cell (p := ⟨b1, _, none⟩) (show b1 < w.heap.size by omega)).trans v1
        have g1 : (i : Int) < (a.length : Int) := by omega
        have g2 : 0 ≤ (i : Int) := by omega
        have HX := Lib.hid hx
        have HY := Lib.hid hy
        have HR1 := Lib.hid r1
        have HR2 := Lib.hid r2
        have HC2 := Lib.hid (And.intro x2 (And.intro y2 v2))
        clear hx hy r1 r2 x2 y2 v2
        go_upto_region 6 with fail
        obtain ⟨W3, hW3⟩ : ∃ W3, W3 = wr.alloc (.cells #[.string x.1, .string x.2.1, .slice B1 x.2.2.length d1] 27) := ⟨_, rfl⟩
        have b3 : bk W3 wr.heap.size 27 [.string x.1, .string x.2.1, .slice B1 x.2.2.length d1] := by rw [hW3]; exact bk.new wr _ _
        have hb3 : Below wr.heap.size wr W3 := by rw [hW3]; exact (Below.refl _ _).alloc (Nat.le_refl _) _
        rw [← hW3]
        clear hW3 x1 y1 v1
        have z3 := b3.lt
        have HB3 : Hid (Below w.heap.size w W3) := Lib.hid (HB.out.trans (hb3.mono hz))
        have x2 := (HB3.out.cell (p := ⟨b2, _, none⟩) (show b2 < w.heap.size by omega)).trans HC2.out.1
        have y2 := (HB3.out.cell (p := ⟨b2, _, none⟩) (show b2 < w.heap.size by omega)).trans HC2.out.2.1
        have v2 := (HB3.out.cell (p := ⟨b2, _, none⟩) (show b2 < w.heap.size by omega)).trans HC2.out.2.2
        have g3 : (i : Int) < (b.length : Int) := by rw [← HL.out]; exact g1
        have hcv1 : ∀ n, (convert 22 9 (.slice B1 x.2.2.length d1)).run Try.prog (W3.drewN n) = .ok (.string (strOf x.2.2)) (W3.drewN n) := fun n => str_of_rd (HR1.out.below (below_drew' HB3.out n) hh)
        have hcv2 : ∀ n, (convert 22 9 (.slice B2 y.2.2.length d2)).run Try.prog (W3.drewN n) = .ok (.string (strOf y.2.2)) (W3.drewN n) := fun n => str_of_rd (HR2.out.below (below_drew' HB3.out n) hh)
        clear hb3 HB HC2
        obtain ⟨q0, q1, q2⟩ := b3.cells3
        clear b3
        have HEQ : Hid (slotEq x y = (decide (x.1 = y.1) && (decide (x.2.1 = y.2.1) && decide (strOf x.2.2 = strOf y.2.2)))) := Lib.hid rfl
        generalize strOf x.2.2 = sx at hcv1 HEQ
        generalize strOf y.2.2 = sy at hcv2 HEQ
        by_cases e1 : x.1 = y.1
        · have hel1 : x.1.toList = y.1.toList := by rw [e1]
          by_cases e2 : x.2.1 = y.2.1
          · have hel2 : x.2.1.toList = y.2.1.toList := by rw [e2]
            by_cases e3 : sx = sy
            · have hel3 : sx.toList = sy.toList := by rw [e3]
              have HN2 : Hid (∀ (j : Nat) (x y : SlotD), j < i + 1 → a[j]? = some x → b[j]? = some y → slotEq x y = true) := Lib.hid fun j x' y' hj hx' hy' => by
                by_cases e : j = i
                · subst e
                  obtain rfl : x' = x := Option.some.inj (hx'.symm.trans HX.out)
                  obtain rfl : y' = y := Option.some.inj (hy'.symm.trans HY.out)
                  rw [HEQ.out, decide_eq_true e1, decide_eq_true e2, decide_eq_true e3]; rfl
                · exact HN.out j x' y' (by omega) hx' hy'
              clear e1 e2 e3
              go_quiet (fail)
              go_wp2
              go_roundw
              case rel => exact ⟨i + 1, by omega, by go_num, HN2, Lib.hid (below_drew' HB3.out nq), Nat.le_trans hz (Nat.le_of_lt z3)⟩
              case measure => simp [intOf] <;> omega
            · have hel3 : ¬ sx.toList = sy.toList := fun e => e3 (str_eq_list.1 e)
              have hel4 : (sx.toList == sy.toList) = false := by simpa using hel3
              have HV := Lib.hid (same_not HX.out HY.out (by rw [HEQ.out, decide_eq_false e3, Bool.and_false, Bool.and_false]))
              clear e1 e2 e3
              go_quiet (fail)
              go_wp2
              go_ret
              exact ⟨by rw [HV.out]; rfl, below_drew' HB3.out nq⟩
          · have hel2 : ¬ x.2.1.toList = y.2.1.toList := fun e => e2 (str_eq_list.1 e)
            have hel3 : (x.2.1.toList == y.2.1.toList) = false := by simpa using hel2
            have HV := Lib.hid (same_not HX.out HY.out (by rw [HEQ.out, decide_eq_false e2, Bool.false_and, Bool.and_false]))
            clear e1 e2
            go_quiet (fail)
            go_wp2
            go_ret
            exact ⟨by rw [HV.out]; rfl, below_drew' HB3.out nq⟩
        · have hel1 : ¬ x.1.toList = y.1.toList := fun e => e1 (str_eq_list.1 e)
          have hel2 : (x.1.toList == y.1.toList) = false := by simpa using hel1
          have HV := Lib.hid (same_not HX.out HY.out (by rw [HEQ.out, decide_eq_false e1, Bool.false_and]))
          clear e1
          go_quiet (fail)
          go_wp2
          go_ret
          exact ⟨by rw [HV.out]; rfl, below_drew' HB3.out nq⟩
      · obtain rfl : i = a.length := by omega
        have HV : Hid (slotsSame a b = true) := Lib.hid (same_all HL.out fun j x y hx hy => HN.out j x y (List.getElem?_eq_some_iff.1 hx).1 hx hy)
        go_wp2
        go_ret
        exact ⟨by rw [HV.out]; rfl, HB.out⟩
  · have HV := Lib.hid (same_len hl)
    have hne : ((a.length : Int) != (b.length : Int)) = true := by simp; omega
    have hne2 : ¬ (a.length : Int) = (b.length : Int) := by omega
    clear hl
    go_enter Try.func28, Try.ntmps28
    go_wp2
    go_ret
    exact ⟨by rw [HV.out]; rfl, Below.refl _ _⟩
end Go.Proofs.Ytkbakcnhhlmpkaa
