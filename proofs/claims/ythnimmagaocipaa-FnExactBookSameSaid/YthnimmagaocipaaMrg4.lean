/- l06Same of the reference: are two rings equal; no conditions. -/
import Derived.Test.YthnimmagaocipaaMrg1
import Derived.BigQuiet
import Derived.Deep.DeepCutAuto
import Derived.Test.YthnimmagaocipaaMrg2
import Derived.Laws.StructEq
import Derived.Deep.RegionHeld3
import Derived.DeepKeys4
import Derived.Maps.Own
import Derived.Maps.Views
import Derived.Maps.OwnOps
import Derived.Carry
import Derived.Shelf.Abstract
set_option linter.unusedVariables false
namespace Go.Proofs.Ythnimmagaocipaa
open Go.ChangeShapes Go.WideShapes Go.ChangeAt Go.RowKit

set_option maxRecDepth 100000 in
theorem take_next {l m : List Int} {i : Nat} {x : Int} (h1 : l[i]? = some x) (h2 : m[i]? = some x) (h : l.take i = m.take i) : l.take (i + 1) = m.take (i + 1) := by
  obtain ⟨a1, a2⟩ := List.getElem?_eq_some_iff.1 h1
  obtain ⟨b1, b2⟩ := List.getElem?_eq_some_iff.1 h2
  rw [List.take_succ_eq_append_getElem a1, List.take_succ_eq_append_getElem b1, h, a2, b2]
set_option maxRecDepth 100000 in
set_option maxHeartbeats 8000000 in
theorem specRingSame_any (hi : Nat) (vc vs vc' vs' : Value) (r q : RingD) (w : World) (h1 : rd .i64 hi w vc r.2.2.1) (h2 : rd .i64 hi w vs r.2.2.2) (h3 : rd .i64 hi w vc' q.2.2.1) (h4 : rd .i64 hi w vs' q.2.2.2) (hh : hi ≤ w.heap.size) (hc : r.2.2.1.length ≤ 1048576) (hs : r.2.2.2.length ≤ 1048576) :
    Calls Try.prog 23 #[.agg #[.int .i64 r.1, .int .i64 r.2.1, vc, vs], .agg #[.int .i64 q.1, .int .i64 q.2.1, vc', vs']] w fun e w' => e = .returned (.bool (decide (r = q))) ∧ Below w.heap.size w w' := by
  obtain ⟨sp, hd, cs, ss⟩ := r
  obtain ⟨sp', hd', cs', ss'⟩ := q
  simp only at h1 h2 h3 h4 hc hs ⊢
  obtain ⟨A1, c1, rfl, -⟩ := h1.form
  obtain ⟨A2, c2, rfl, -⟩ := h2.form
  obtain ⟨A3, c3, rfl, -⟩ := h3.form
  obtain ⟨A4, c4, rfl, -⟩ := h4.form
  have H1 := Lib.hid h1
  have H2 := Lib.hid h2
  have H3 := Lib.hid h3
  have H4 := Lib.hid h4
  clear h1 h2 h3 h4
  go_enter Try.func23, Try.ntmps23
  go_upto_region 1 with fail
  obtain ⟨W, hW⟩ : ∃ W, W = (w.alloc (.cells #[.int .i64 sp, .int .i64 hd, .slice A1 cs.length c1, .slice A2 ss.length c2] 38)).alloc (.cells #[.int .i64 sp', .int .i64 hd', .slice A3 cs'.length c3, .slice A4 ss'.length c4] 38) := ⟨_, rfl⟩
  have b0 : bk W w.heap.size 38 [.int .i64 sp, .int .i64 hd, .slice A1 cs.length c1, .slice A2 ss.length c2] := by rw [hW]; exact (bk.new w _ _).alloc _
  have b1 : bk W (w.heap.size + 1) 38 [.int .i64 sp', .int .i64 hd', .slice A3 cs'.length c3, .slice A4 ss'.length c4] := by rw [hW]; simpa using bk.new (w.alloc _) 38 [.int .i64 sp', .int .i64 hd', .slice A3 cs'.length c3, .slice A4 ss'.length c4]
  have HB : Hid (Below w.heap.size w W) := Lib.hid (by rw [hW]; exact ((Below.refl _ _).alloc (Nat.le_refl _) _).alloc (by simp) _)
  rw [← hW]
  clear hW
  obtain ⟨⟨p0, p1, p2, p3⟩, -⟩ := b0.cells
  obtain ⟨⟨q0, q1, q2, q3⟩, -⟩ := b1.cells
  clear b0 b1
  by_cases e1 : sp = sp'
  rotate_left
  · have n1 : (sp != sp') = true := by simpa using e1
    have HN : Hid (decide ((sp, hd, cs, ss) = (sp', hd', cs', ss')) = false) := Lib.hid (decide_eq_false fun e => by simp only [Prod.mk.injEq] at e; exact e1 e.1)
    clear e1
    go_wp2
    go_ret
    exact ⟨by rw [HN.out]; rfl, HB.out⟩
  subst e1
  by_cases e2 : hd = hd'
  rotate_left
  · have n1 : (hd != hd') = true := by simpa using e2
    have HN : Hid (decide ((sp, hd, cs, ss) = (sp, hd', cs', ss')) = false) := Lib.hid (decide_eq_false fun e => by simp only [Prod.mk.injEq] at e; exact e2 e.2.1)
    clear e2
    go_wp2
    go_ret
    exact ⟨by rw [HN.out]; rfl, HB.out⟩
  subst e2
  by_cases e3 : cs.length = cs'.length
  rotate_left
  · have n1 : ((cs.length : Int) != (cs'.length : Int)) = true := by simp; omega
    have HN : Hid (decide ((sp, hd, cs, ss) = (sp, hd, cs', ss')) = false) := Lib.hid (decide_eq_false fun e => by simp only [Prod.mk.injEq] at e; exact e3 (by rw [e.2.2.1]))
    clear e3
    go_wp2
    go_ret
    exact ⟨by rw [HN.out]; rfl, HB.out⟩
  have n3 : ((cs.length : Int) != (cs'.length : Int)) = false := by simp; omega
  have E3 := Lib.hid e3
  clear e3
  by_cases e4 : ss.length = ss'.length
  rotate_left
  · have n1 : ((ss.length : Int) != (ss'.length : Int)) = true := by simp; omega
    have HN : Hid (decide ((sp, hd, cs, ss) = (sp, hd, cs', ss')) = false) := Lib.hid (decide_eq_false fun e => by simp only [Prod.mk.injEq] at e; exact e4 (by rw [e.2.2.2]))
    clear e4
    go_wp2
    go_ret
    exact ⟨by rw [HN.out]; rfl, HB.out⟩
  have n4 : ((ss.length : Int) != (ss'.length : Int)) = false := by simp; omega
  have E4 := Lib.hid e4
  clear e4
  go_wp2
  clear n3 n4
  go_loopw [40] (fun iv wr => ∃ i k : Nat, i ≤ cs.length ∧ iv = .int .i64 i ∧ Hid (cs.take i = cs'.take i) ∧ wr = W.drewN k) (fun iv _ => cs.length - (intOf iv).toNat)
  case atStart => exact ⟨0, 0, Nat.zero_le _, rfl, Lib.hid rfl, rfl⟩
  case round =>
    obtain ⟨i, k, hi', rfl, HT, rfl⟩ := hrel
    by_cases hin : i < cs.length
    · obtain ⟨x, hx⟩ : ∃ x, cs[i]? = some x := ⟨_, List.getElem?_eq_getElem hin⟩
      obtain ⟨y, hy⟩ : ∃ y, cs'[i]? = some y := ⟨_, List.getElem?_eq_getElem (by rw [← E3.out]; exact hin)⟩
      obtain ⟨a1, o1, rfl, -, d1⟩ := ring_at (H1.out.below HB.out hh) hx
      obtain ⟨a3, o3, rfl, -, d3⟩ := ring_at (H3.out.below HB.out hh) hy
      have g1 : (i : Int) < (cs.length : Int) := by omega
      have g3 : (i : Int) < (cs'.length : Int) := by rw [← E3.out]; exact g1
      have g2 : 0 ≤ (i : Int) := by omega
      have HX := Lib.hid hx
      have HY := Lib.hid hy
      clear hx hy
      by_cases e : x = y
      · subst e
        have HN := Lib.hid (take_next HX.out HY.out HT.out)
        go_upto_region 6 with fail
        go_quiet (fail)
        go_wp2
        go_roundw
        case rel => exact ⟨i + 1, k + nq, by omega, by go_num, HN, by simp [World.drewN]⟩
        case measure => simp [intOf] <;> omega
      · have n1 : (x != y) = true := by simpa using e
        have HN : Hid (decide ((sp, hd, cs, ss) = (sp, hd, cs', ss')) = false) := Lib.hid (decide_eq_false fun e' => by
          simp only [Prod.mk.injEq] at e'
          have h5 := HX.out
          rw [e'.2.2.1, HY.out] at h5
          exact e (Option.some.inj h5).symm)
        clear e
        go_upto_region 6 with fail
        go_quiet (fail)
        go_wp2
        go_ret
        exact ⟨by rw [HN.out]; rfl, below_drew' (below_drew' HB.out k) nq⟩
    · obtain rfl : i = cs.length := by omega
      have HC : Hid (cs = cs') := Lib.hid (by have := HT.out; rwa [List.take_length, E3.out, List.take_length] at this)
      have g1 : ¬ (cs.length : Int) < (cs.length : Int) := by omega
      clear HT
      go_wp2
      go_loopw [58] (fun iv wr => ∃ i k : Nat, i ≤ ss.length ∧ iv = .int .i64 i ∧ Hid (ss.take i = ss'.take i) ∧ wr = W.drewN k) (fun iv _ => ss.length - (intOf iv).toNat)
      case atStart => exact ⟨0, k, Nat.zero_le _, rfl, Lib.hid rfl, rfl⟩
      case round =>
        obtain ⟨i, k, hi', rfl, HT, rfl⟩ := hrel
        by_cases hin : i < ss.length
        · obtain ⟨x, hx⟩ : ∃ x, ss[i]? = some x := ⟨_, List.getElem?_eq_getElem hin⟩
          obtain ⟨y, hy⟩ : ∃ y, ss'[i]? = some y := ⟨_, List.getElem?_eq_getElem (by rw [← E4.out]; exact hin)⟩
          obtain ⟨a1, o1, rfl, -, d1⟩ := ring_at (H2.out.below HB.out hh) hx
          obtain ⟨a3, o3, rfl, -, d3⟩ := ring_at (H4.out.below HB.out hh) hy
          have g1 : (i : Int) < (ss.length : Int) := by omega
          have g3 : (i : Int) < (ss'.length : Int) := by rw [← E4.out]; exact g1
          have g2 : 0 ≤ (i : Int) := by omega
          have HX := Lib.hid hx
          have HY := Lib.hid hy
          clear hx hy
          by_cases e : x = y
          · subst e
            have HN := Lib.hid (take_next HX.out HY.out HT.out)
            go_upto_region 12 with fail
            go_quiet (fail)
            go_wp2
            go_roundw
            case rel => exact ⟨i + 1, k + nq, by omega, by go_num, HN, by simp [World.drewN]⟩
            case measure => simp [intOf] <;> omega
          · have n1 : (x != y) = true := by simpa using e
            have HN : Hid (decide ((sp, hd, cs, ss) = (sp, hd, cs', ss')) = false) := Lib.hid (decide_eq_false fun e' => by
              simp only [Prod.mk.injEq] at e'
              have h5 := HX.out
              rw [e'.2.2.2, HY.out] at h5
              exact e (Option.some.inj h5).symm)
            clear e
            go_upto_region 12 with fail
            go_quiet (fail)
            go_wp2
            go_ret
            exact ⟨by rw [HN.out]; rfl, below_drew' (below_drew' HB.out k) nq⟩
        · obtain rfl : i = ss.length := by omega
          have HS : Hid (ss = ss') := Lib.hid (by have := HT.out; rwa [List.take_length, E4.out, List.take_length] at this)
          have HN : Hid (decide ((sp, hd, cs, ss) = (sp, hd, cs', ss')) = true) := Lib.hid (decide_eq_true (by rw [HC.out, HS.out]))
          go_wp2
          go_ret
          exact ⟨by rw [HN.out]; rfl, below_drew' HB.out k⟩
end Go.Proofs.Ythnimmagaocipaa
set_option linter.unusedVariables false
namespace Go.Proofs.Ythnimmagaocipaa
open Go.ChangeShapes Go.WideShapes Go.ChangeAt Go.RowKit

def byteStr (l : List Int) : ByteArray := ⟨(l.map byteOf).toArray⟩
def noS : SlotD := (⟨#[]⟩, ⟨#[]⟩, [])
def slotEq (x y : SlotD) : Bool := decide (x.1 = y.1) && (decide (x.2.1 = y.2.1) && decide (byteStr x.2.2 = byteStr y.2.2))
def slotsSame (a b : List SlotD) : Bool := decide (a.length = b.length) && (List.range a.length).all fun j => slotEq (a.getD j noS) (b.getD j noS)
set_option maxRecDepth 100000 in
theorem same_len {a b : List SlotD} (h : a.length ≠ b.length) : slotsSame a b = false := by unfold slotsSame; rw [decide_eq_false h]; rfl
set_option maxRecDepth 100000 in
theorem same_not {a b : List SlotD} {i : Nat} {x y : SlotD} (hx : a[i]? = some x) (hy : b[i]? = some y) (h : slotEq x y = false) : slotsSame a b = false := by
  have hi := (List.getElem?_eq_some_iff.1 hx).1
  unfold slotsSame
  rw [Bool.and_eq_false_iff]
  refine .inr (List.all_eq_false.2 ⟨i, List.mem_range.2 hi, ?_⟩)
  rw [List.getD_eq_getElem?_getD, List.getD_eq_getElem?_getD, hx, hy]
  simpa using h
set_option maxRecDepth 100000 in
theorem same_all {a b : List SlotD} (hl : a.length = b.length) (h : ∀ (j : Nat) (x y : SlotD), a[j]? = some x → b[j]? = some y → slotEq x y = true) : slotsSame a b = true := by
  unfold slotsSame
  rw [decide_eq_true hl, Bool.true_and, List.all_eq_true]
  intro j hj
  have hj' := List.mem_range.1 hj
  refine h j _ _ (by rw [List.getD_eq_getElem?_getD, List.getElem?_eq_getElem hj']; rfl) (by rw [List.getD_eq_getElem?_getD, List.getElem?_eq_getElem (by omega : j < b.length)]; rfl)
set_option maxRecDepth 100000 in
set_option maxHeartbeats 6400000 in
theorem specSlotsSame_any (hi : Nat) (va vb : Value) (a b : List SlotD) (w : World) (hn : a.length ≤ 1048576) (h1 : SlotsR.rd hi w [va] a) (h2 : SlotsR.rd hi w [vb] b) (hh : hi ≤ w.heap.size) :
    Calls Try.prog 24 #[va, vb] w fun e w' => e = .returned (.bool (slotsSame a b)) ∧ Below w.heap.size w w' := by
  obtain ⟨A1, c1, rfl, -, h1⟩ := slots_rd h1
  obtain ⟨A2, c2, rfl, -, h2⟩ := slots_rd h2
  have H1 := Lib.hid h1
  have H2 := Lib.hid h2
  clear h1 h2
  by_cases hl : a.length = b.length
  · have HL := Lib.hid hl
    have hne : ((a.length : Int) != (b.length : Int)) = false := by simp [hl]
    clear hl
    go_enter Try.func24, Try.ntmps24
    go_wp2
    go_loopw [14] (fun iv wr => ∃ i : Nat, i ≤ a.length ∧ iv = .int .i64 i ∧ Hid (∀ (j : Nat) (x y : SlotD), j < i → a[j]? = some x → b[j]? = some y → slotEq x y = true) ∧ Hid (Below w.heap.size w wr) ∧ w.heap.size ≤ wr.heap.size) (fun iv _ => a.length - (intOf iv).toNat)
    case atStart => exact ⟨0, Nat.zero_le _, rfl, Lib.hid fun j x y hj => absurd hj (by omega), Lib.hid (Below.refl _ _), Nat.le_refl _⟩
    case round =>
      obtain ⟨i, hi', rfl, HN, HB, hz⟩ := hrel
      by_cases hin : i < a.length
      · obtain ⟨x, hx⟩ : ∃ x, a[i]? = some x := ⟨_, List.getElem?_eq_getElem hin⟩
        obtain ⟨y, hy⟩ : ∃ y, b[i]? = some y := ⟨_, List.getElem?_eq_getElem (by rw [← HL.out]; exact hin)⟩
        obtain ⟨b1, o1, B1, d1, rfl, hb1, x1, y1, v1, r1⟩ := H1.out i x hx
        obtain ⟨b2, o2, B2, d2, rfl, hb2, x2, y2, v2, r2⟩ := H2.out i y hy
        have x1 := (HB.out.cell (p := ⟨b1, _, none⟩) (show b1 < w.heap.size by omega)).trans x1
        have y1 := (HB.out.cell (p := ⟨b1, _, none⟩) (show b1 < w.heap.size by omega)).trans y1
        have v1 := (HB.out.cell (p := ⟨b1, _, none⟩) (show b1 < w.heap.size by omega)).trans v1
        have g1 : (i : Int) < (a.length : Int) := by omega
        have g2 : 0 ≤ (i : Int) := by omega
        have HX := Lib.hid hx
        have HY := Lib.hid hy
        have HR1 := Lib.hid r1
        have HR2 := Lib.hid r2
        have HC2 := Lib.hid (And.intro x2 (And.intro y2 v2))
        clear hx hy r1 r2 x2 y2 v2
        go_upto_region 6 with fail
        obtain ⟨W3, hW3⟩ : ∃ W3, W3 = wr.alloc (.cells #[.string x.1, .string x.2.1, .slice B1 x.2.2.length d1] 74) := ⟨_, rfl⟩
        have b3 : bk W3 wr.heap.size 74 [.string x.1, .string x.2.1, .slice B1 x.2.2.length d1] := by rw [hW3]; exact bk.new wr _ _
        have hb3 : Below wr.heap.size wr W3 := by rw [hW3]; exact (Below.refl _ _).alloc (Nat.le_refl _) _
        rw [← hW3]
        clear hW3 x1 y1 v1
        have z3 := b3.lt
        have HB3 : Hid (Below w.heap.size w W3) := Lib.hid (HB.out.trans (hb3.mono hz))
        have x2 := (HB3.out.cell (p := ⟨b2, _, none⟩) (show b2 < w.heap.size by omega)).trans HC2.out.1
        have y2 := (HB3.out.cell (p := ⟨b2, _, none⟩) (show b2 < w.heap.size by omega)).trans HC2.out.2.1
        have v2 := (HB3.out.cell (p := ⟨b2, _, none⟩) (show b2 < w.heap.size by omega)).trans HC2.out.2.2
        have g3 : (i : Int) < (b.length : Int) := by rw [← HL.out]; exact g1
        have hcv1 : ∀ n, (convert 72 9 (.slice B1 x.2.2.length d1)).run Try.prog (W3.drewN n) = .ok (.string (byteStr x.2.2)) (W3.drewN n) := fun n => str_of_rd (HR1.out.below (below_drew' HB3.out n) hh)
        have hcv2 : ∀ n, (convert 72 9 (.slice B2 y.2.2.length d2)).run Try.prog (W3.drewN n) = .ok (.string (byteStr y.2.2)) (W3.drewN n) := fun n => str_of_rd (HR2.out.below (below_drew' HB3.out n) hh)
        clear hb3 HB HC2
        obtain ⟨q0, q1, q2⟩ := b3.cells3
        clear b3
        have HEQ : Hid (slotEq x y = (decide (x.1 = y.1) && (decide (x.2.1 = y.2.1) && decide (byteStr x.2.2 = byteStr y.2.2)))) := Lib.hid rfl
        generalize byteStr x.2.2 = sx at hcv1 HEQ
        generalize byteStr y.2.2 = sy at hcv2 HEQ
        by_cases e1 : x.1 = y.1
        · have hel1 : x.1.toList = y.1.toList := by rw [e1]
          by_cases e2 : x.2.1 = y.2.1
          · have hel2 : x.2.1.toList = y.2.1.toList := by rw [e2]
            by_cases e3 : sx = sy
            · have hel3 : sx.toList = sy.toList := by rw [e3]
              have HN2 : Hid (∀ (j : Nat) (x y : SlotD), j < i + 1 → a[j]? = some x → b[j]? = some y → slotEq x y = true) := Lib.hid fun j x' y' hj hx' hy' => by
                by_cases e : j = i
                · subst e
                  obtain rfl : x' = x := Option.some.inj (hx'.symm.trans HX.out)
                  obtain rfl : y' = y := Option.some.inj (hy'.symm.trans HY.out)
                  rw [HEQ.out, decide_eq_true e1, decide_eq_true e2, decide_eq_true e3]; rfl
                · exact HN.out j x' y' (by omega) hx' hy'
              clear e1 e2 e3
              go_quiet (fail)
              go_wp2
              go_roundw
              case rel => exact ⟨i + 1, by omega, by go_num, HN2, Lib.hid (below_drew' HB3.out nq), Nat.le_trans hz (Nat.le_of_lt z3)⟩
              case measure => simp [intOf] <;> omega
            · have hel3 : ¬ sx.toList = sy.toList := fun e => e3 (str_eq_list.1 e)
              have hel4 : (sx.toList == sy.toList) = false := by simpa using hel3
              have HV := Lib.hid (same_not HX.out HY.out (by rw [HEQ.out, decide_eq_false e3, Bool.and_false, Bool.and_false]))
              clear e1 e2 e3
              go_quiet (fail)
              go_wp2
              go_ret
              exact ⟨by rw [HV.out]; rfl, below_drew' HB3.out nq⟩
          · have hel2 : ¬ x.2.1.toList = y.2.1.toList := fun e => e2 (str_eq_list.1 e)
            have hel3 : (x.2.1.toList == y.2.1.toList) = false := by simpa using hel2
            have HV := Lib.hid (same_not HX.out HY.out (by rw [HEQ.out, decide_eq_false e2, Bool.false_and, Bool.and_false]))
            clear e1 e2
            go_quiet (fail)
            go_wp2
            go_ret
            exact ⟨by rw [HV.out]; rfl, below_drew' HB3.out nq⟩
        · have hel1 : ¬ x.1.toList = y.1.toList := fun e => e1 (str_eq_list.1 e)
          have hel2 : (x.1.toList == y.1.toList) = false := by simpa using hel1
          have HV := Lib.hid (same_not HX.out HY.out (by rw [HEQ.out, decide_eq_false e1, Bool.false_and]))
          clear e1
          go_quiet (fail)
          go_wp2
          go_ret
          exact ⟨by rw [HV.out]; rfl, below_drew' HB3.out nq⟩
      · obtain rfl : i = a.length := by omega
        have HV : Hid (slotsSame a b = true) := Lib.hid (same_all HL.out fun j x y hx hy => HN.out j x y (List.getElem?_eq_some_iff.1 hx).1 hx hy)
        go_wp2
        go_ret
        exact ⟨by rw [HV.out]; rfl, HB.out⟩
  · have HV := Lib.hid (same_len hl)
    have hne : ((a.length : Int) != (b.length : Int)) = true := by simp; omega
    have hne2 : ¬ (a.length : Int) = (b.length : Int) := by omega
    clear hl
    go_enter Try.func24, Try.ntmps24
    go_wp2
    go_ret
    exact ⟨by rw [HV.out]; rfl, Below.refl _ _⟩
end Go.Proofs.Ythnimmagaocipaa
set_option linter.unusedVariables false
namespace Go.Proofs.Ythnimmagaocipaa
open Go.ChangeShapes Go.WideShapes Go.ChangeAt Go.RowKit

set_option maxRecDepth 100000 in
theorem hold_dec (x y : HoldD) : decide (x = y) = ((x.1.toList == y.1.toList) && ((x.2.1 == y.2.1) && (x.2.2 == y.2.2))) := by
  obtain ⟨a, b, c⟩ := x
  obtain ⟨d, e, f⟩ := y
  have h : (a.toList == d.toList) = decide (a = d) := by
    by_cases h : a = d
    · subst h; simp
    · have h' : ¬ a.toList = d.toList := fun e => h (str_eq_list.1 e)
      rw [decide_eq_false h]; simpa using h'
  rw [h]
  by_cases h1 : a = d <;> by_cases h2 : b = e <;> by_cases h3 : c = f <;> simp [h1, h2, h3]
set_option maxRecDepth 100000 in
theorem holdNeq (x y : HoldD) (w : World) : (binOp .neq 56 (.agg #[.string x.1, .int .i64 x.2.1, .int .i64 x.2.2]) (.agg #[.string y.1, .int .i64 y.2.1, .int .i64 y.2.2])).run Try.prog w = .ok (.bool (!decide (x = y))) w := by
  have hu : Try.prog.underlying 56 = some (.struct (Try.prog.fieldsOf 56)) := by kernel_rfl
  have hs : Try.prog.stoodInHeld 56 = false := by kernel_rfl
  rw [run_neq_struct, run_equalIn_struct w 9999 _ _ _ hu hs, hold_dec]
  have hf : (Try.prog.fieldsOf 56).toList.map (fun f => (f.type, f.offset, decide (f.name ≠ "_"))) = [(9, 0, true), (3, 1, true), (3, 2, true)] := by kernel_rfl
  generalize (Try.prog.fieldsOf 56).toList = fs at hf
  have hl : fs.length = 3 := by simpa using congrArg List.length hf
  match fs, hl, hf with
  | [f, g, h], _, hf =>
    simp only [List.map_cons, List.map_nil, List.cons.injEq, Prod.mk.injEq, and_true, decide_eq_true_eq] at hf
    obtain ⟨⟨f1, f2, f3⟩, ⟨g1, g2, g3⟩, h1, h2, h3⟩ := hf
    have p1 : ∀ u v z : Value, (Go.part 9 #[u, v, z] 0).run Try.prog w = .ok u w := fun u v z => by kernel_rfl
    have p2 : ∀ u v z : Value, (Go.part 3 #[u, v, z] 1).run Try.prog w = .ok v w := fun u v z => by kernel_rfl
    have p3 : ∀ u v z : Value, (Go.part 3 #[u, v, z] 2).run Try.prog w = .ok z w := fun u v z => by kernel_rfl
    have s1 := fun a b => run_equalIn_string (P := Try.prog) w 9998 9 a b Try.underlying9
    have s2 := fun a b => run_equalIn_int (P := Try.prog) w 9998 3 .i64 .i64 a b Try.underlying3
    simp only [Op.eqFields, f1, f2, f3, g1, g2, g3, h1, h2, h3, if_true, Sem.run_bind, Sem.run_ite, Sem.run_pure, p1, p2, p3, s1, s2, Result.andThen_ok, ne_eq, not_false_eq_true]
    cases (x.1.toList == y.1.toList) <;> cases (x.2.1 == y.2.1) <;> cases (x.2.2 == y.2.2) <;> simp
end Go.Proofs.Ythnimmagaocipaa
set_option linter.unusedVariables false
namespace Go.Proofs.Ythnimmagaocipaa
open Go.ChangeShapes Go.WideShapes Go.ChangeAt Go.RowKit

def acctSame (a b : AcctD) : Bool := decide (aId a = aId b) && (decide (aLim a = aLim b) && (decide (aPos a = aPos b) && (decide (aMost a = aMost b) && (decide (aSum a = aSum b) && (decide (aH a = aH b) && (decide (aR a = aR b) && slotsSame (aS a) (aS b)))))))
set_option maxRecDepth 100000 in
theorem take_nextH {l m : List HoldD} {i : Nat} {x : HoldD} (h1 : l[i]? = some x) (h2 : m[i]? = some x) (h : l.take i = m.take i) : l.take (i + 1) = m.take (i + 1) := by
  obtain ⟨a1, a2⟩ := List.getElem?_eq_some_iff.1 h1
  obtain ⟨b1, b2⟩ := List.getElem?_eq_some_iff.1 h2
  rw [List.take_succ_eq_append_getElem a1, List.take_succ_eq_append_getElem b1, h, a2, b2]
set_option maxRecDepth 100000 in
set_option maxHeartbeats 8000000 in
theorem specAcctSame_any (hi : Nat) (vh vc vs vl vh' vc' vs' vl' : Value) (a b : AcctD) (w : World) (hz : acctSmall 1048576 a) (h1 : AcctR.rd hi w (aCells a vh vc vs vl) a) (h2 : AcctR.rd hi w (aCells b vh' vc' vs' vl') b) (hh : hi ≤ w.heap.size) :
    Calls Try.prog 17 #[.agg #[.string (aId a), .int .i64 (aLim a), .int .i64 (aPos a), .int .i64 (aMost a), .int .i64 (aSum a), vh, .int .i64 (aR a).1, .int .i64 (aR a).2.1, vc, vs, vl], .agg #[.string (aId b), .int .i64 (aLim b), .int .i64 (aPos b), .int .i64 (aMost b), .int .i64 (aSum b), vh', .int .i64 (aR b).1, .int .i64 (aR b).2.1, vc', vs', vl']] w fun e w' => e = .returned (.bool (acctSame a b)) ∧ Below w.heap.size w w' := by
  obtain ⟨vh0, vc0, vs0, vl0, hcs, r1, r2, r3, r4⟩ := acct_rd h1
  simp only [aCells, List.cons.injEq, and_true, true_and] at hcs
  obtain ⟨rfl, rfl, rfl, rfl⟩ := hcs
  clear h1
  obtain ⟨vh0, vc0, vs0, vl0, hcs, r1b, r2b, r3b, r4b⟩ := acct_rd h2
  simp only [aCells, List.cons.injEq, and_true, true_and] at hcs
  obtain ⟨rfl, rfl, rfl, rfl⟩ := hcs
  clear h2
  obtain ⟨z1, z2, z3, z4, z5⟩ := hz
  obtain ⟨id, lim, pos, most, sum, hs, ⟨sp, hd, cs, ss⟩, sl⟩ := a
  obtain ⟨id', lim', pos', most', sum', hs', ⟨sp', hd', cs', ss'⟩, sl'⟩ := b
  have HEQ : Hid (acctSame (id, lim, pos, most, sum, hs, (sp, hd, cs, ss), sl) (id', lim', pos', most', sum', hs', (sp', hd', cs', ss'), sl') = (decide (id = id') && (decide (lim = lim') && (decide (pos = pos') && (decide (most = most') && (decide (sum = sum') && (decide (hs = hs') && (decide ((sp, hd, cs, ss) = (sp', hd', cs', ss')) && slotsSame sl sl')))))))) := Lib.hid rfl
  simp only [aId, aLim, aPos, aMost, aSum, aH, aS] at r1 r2 r3 r4 r1b r2b r3b r4b z1 z2 z3 z4 z5 ⊢
  obtain ⟨AH, cH, rfl, -⟩ := Rep.slice_form r1
  obtain ⟨AC, cC, rfl, -⟩ := r2.form
  obtain ⟨AS, cS, rfl, -⟩ := r3.form
  obtain ⟨AL, cL, rfl, -⟩ := Rep.slice_form r4
  obtain ⟨AH', cH', rfl, -⟩ := Rep.slice_form r1b
  obtain ⟨AC', cC', rfl, -⟩ := r2b.form
  obtain ⟨AS', cS', rfl, -⟩ := r3b.form
  obtain ⟨AL', cL', rfl, -⟩ := Rep.slice_form r4b
  have HQ1 := Lib.hid (fun W (hW : Below w.heap.size w W) => specRingSame_any hi _ _ _ _ (sp, hd, cs, ss) (sp', hd', cs', ss') W (r2.below hW hh) (r3.below hW hh) (r2b.below hW hh) (r3b.below hW hh) (Nat.le_trans hh hW.size) z2 z3)
  have HQ2 := Lib.hid (fun W (hW : Below w.heap.size w W) => specSlotsSame_any hi _ _ sl sl' W z4 (Rep.below (R := SlotsR) r4 hW hh) (Rep.below (R := SlotsR) r4b hW hh) (Nat.le_trans hh hW.size))
  obtain ⟨A0, c0, hv0, -, hr1⟩ := holds_rd r1
  simp only [Value.slice.injEq, true_and] at hv0
  obtain ⟨rfl, rfl⟩ := hv0
  obtain ⟨A0, c0, hv0, -, hr2⟩ := holds_rd r1b
  simp only [Value.slice.injEq, true_and] at hv0
  obtain ⟨rfl, rfl⟩ := hv0
  have HR1 := Lib.hid hr1
  have HR2 := Lib.hid hr2
  clear hr1 hr2 r1 r2 r3 r4 r1b r2b r3b r4b z5
  generalize slotsSame sl sl' = sm at HEQ HQ2
  generalize decide ((sp, hd, cs, ss) = (sp', hd', cs', ss')) = rm at HEQ HQ1
  generalize acctSame (id, lim, pos, most, sum, hs, (sp, hd, cs, ss), sl) (id', lim', pos', most', sum', hs', (sp', hd', cs', ss'), sl') = am at HEQ ⊢
  go_enter Try.func17, Try.ntmps17
  go_upto_region 1 with fail
  obtain ⟨W, hW⟩ : ∃ W, W = (w.alloc (.cells #[.string id, .int .i64 lim, .int .i64 pos, .int .i64 most, .int .i64 sum, .slice AH hs.length cH, .int .i64 sp, .int .i64 hd, .slice AC cs.length cC, .slice AS ss.length cS, .slice AL sl.length cL] 41)).alloc (.cells #[.string id', .int .i64 lim', .int .i64 pos', .int .i64 most', .int .i64 sum', .slice AH' hs'.length cH', .int .i64 sp', .int .i64 hd', .slice AC' cs'.length cC', .slice AS' ss'.length cS', .slice AL' sl'.length cL'] 41) := ⟨_, rfl⟩
  have b0 : bk W w.heap.size 41 [.string id, .int .i64 lim, .int .i64 pos, .int .i64 most, .int .i64 sum, .slice AH hs.length cH, .int .i64 sp, .int .i64 hd, .slice AC cs.length cC, .slice AS ss.length cS, .slice AL sl.length cL] := by rw [hW]; exact (bk.new w _ _).alloc _
  have b1 : bk W (w.heap.size + 1) 41 [.string id', .int .i64 lim', .int .i64 pos', .int .i64 most', .int .i64 sum', .slice AH' hs'.length cH', .int .i64 sp', .int .i64 hd', .slice AC' cs'.length cC', .slice AS' ss'.length cS', .slice AL' sl'.length cL'] := by rw [hW]; simpa using bk.new (w.alloc _) 41 [.string id', .int .i64 lim', .int .i64 pos', .int .i64 most', .int .i64 sum', .slice AH' hs'.length cH', .int .i64 sp', .int .i64 hd', .slice AC' cs'.length cC', .slice AS' ss'.length cS', .slice AL' sl'.length cL']
  have HB : Hid (Below w.heap.size w W) := Lib.hid (by rw [hW]; exact ((Below.refl _ _).alloc (Nat.le_refl _) _).alloc (by simp) _)
  have y0 : w.heap.size + 2 ≤ W.heap.size := by rw [hW]; simp
  rw [← hW]
  clear hW
  obtain ⟨⟨p0, p1, p2, p3, p4, p5, p6, p7, p8, p9, p10⟩, -⟩ := b0.eleven
  obtain ⟨⟨q0, q1, q2, q3, q4, q5, q6, q7, q8, q9, q10⟩, -⟩ := b1.eleven
  have B0 := Lib.hid b0
  have B1 := Lib.hid b1
  clear b0 b1
  by_cases e0 : id = id'
  rotate_left
  · have n1 : ¬ id.toList = id'.toList := fun e => e0 (str_eq_list.1 e)
    have n2 : (id.toList == id'.toList) = false := by simpa using n1
    have HN := Lib.hid (HEQ.out.trans (show _ = false by rw [decide_eq_false e0]; simp))
    clear e0
    go_wp2
    go_ret
    exact ⟨by rw [HN.out]; rfl, HB.out⟩
  subst e0
  by_cases e0 : lim = lim'
  rotate_left
  · have n1 : (lim != lim') = true := by simpa using e0
    have HN := Lib.hid (HEQ.out.trans (show _ = false by rw [decide_eq_false e0]; simp))
    clear e0
    go_wp2
    go_ret
    exact ⟨by rw [HN.out]; rfl, HB.out⟩
  subst e0
  by_cases e0 : pos = pos'
  rotate_left
  · have n1 : (pos != pos') = true := by simpa using e0
    have HN := Lib.hid (HEQ.out.trans (show _ = false by rw [decide_eq_false e0]; simp))
    clear e0
    go_wp2
    go_ret
    exact ⟨by rw [HN.out]; rfl, HB.out⟩
  subst e0
  by_cases e0 : most = most'
  rotate_left
  · have n1 : (most != most') = true := by simpa using e0
    have HN := Lib.hid (HEQ.out.trans (show _ = false by rw [decide_eq_false e0]; simp))
    clear e0
    go_wp2
    go_ret
    exact ⟨by rw [HN.out]; rfl, HB.out⟩
  subst e0
  by_cases e0 : sum = sum'
  rotate_left
  · have n1 : (sum != sum') = true := by simpa using e0
    have HN := Lib.hid (HEQ.out.trans (show _ = false by rw [decide_eq_false e0]; simp))
    clear e0
    go_wp2
    go_ret
    exact ⟨by rw [HN.out]; rfl, HB.out⟩
  subst e0
  by_cases e0 : hs.length = hs'.length
  rotate_left
  · have n1 : ((hs.length : Int) != (hs'.length : Int)) = true := by simp; omega
    have HN := Lib.hid (HEQ.out.trans (show _ = false by rw [decide_eq_false (fun e => e0 (by rw [e])) (p := hs = hs')]; simp))
    clear e0
    go_wp2
    go_ret
    exact ⟨by rw [HN.out]; rfl, HB.out⟩
  have n3 : ((hs.length : Int) != (hs'.length : Int)) = false := by simp; omega
  have E3 := Lib.hid e0
  clear e0
  go_wp2
  clear n3 p0 p1 p2 p3 p4 p5 p6 p7 p8 p9 p10 q0 q1 q2 q3 q4 q5 q6 q7 q8 q9 q10
  go_loopw [52] (fun iv wr => ∃ i : Nat, i ≤ hs.length ∧ iv = .int .i64 i ∧ Hid (hs.take i = hs'.take i) ∧ Hid (Below W.heap.size W wr)) (fun iv _ => hs.length - (intOf iv).toNat)
  case atStart => exact ⟨0, Nat.zero_le _, rfl, Lib.hid rfl, Lib.hid (Below.refl _ _)⟩
  case round =>
    obtain ⟨i, hi', rfl, HT, HBR⟩ := hrel
    have HBW : Hid (Below w.heap.size w wr) := Lib.hid (HB.out.trans (HBR.out.mono (by omega)))
    obtain ⟨⟨p0, p1, p2, p3, p4, p5, p6, p7, p8, p9, p10⟩, -⟩ := (B0.out.below HBR.out (by omega)).eleven
    obtain ⟨⟨q0, q1, q2, q3, q4, q5, q6, q7, q8, q9, q10⟩, -⟩ := (B1.out.below HBR.out (by omega)).eleven
    by_cases hin : i < hs.length
    · obtain ⟨x, hx⟩ : ∃ x, hs[i]? = some x := ⟨_, List.getElem?_eq_getElem hin⟩
      obtain ⟨y, hy⟩ : ∃ y, hs'[i]? = some y := ⟨_, List.getElem?_eq_getElem (by rw [← E3.out]; exact hin)⟩
      obtain ⟨a1, o1, rfl, hl1, d0, d1, d2⟩ := HR1.out i x hx
      obtain ⟨a2, o2, rfl, hl2, d3, d4, d5⟩ := HR2.out i y hy
      have d0 := (HBW.out.cell (p := ⟨a1, _, none⟩) (show a1 < w.heap.size by omega)).trans d0
      have d1 := (HBW.out.cell (p := ⟨a1, _, none⟩) (show a1 < w.heap.size by omega)).trans d1
      have d2 := (HBW.out.cell (p := ⟨a1, _, none⟩) (show a1 < w.heap.size by omega)).trans d2
      have d3 := (HBW.out.cell (p := ⟨a2, _, none⟩) (show a2 < w.heap.size by omega)).trans d3
      have d4 := (HBW.out.cell (p := ⟨a2, _, none⟩) (show a2 < w.heap.size by omega)).trans d4
      have d5 := (HBW.out.cell (p := ⟨a2, _, none⟩) (show a2 < w.heap.size by omega)).trans d5
      have g1 : (i : Int) < (hs.length : Int) := by omega
      have g3 : (i : Int) < (hs'.length : Int) := by rw [← E3.out]; exact g1
      have g2 : 0 ≤ (i : Int) := by omega
      have HX := Lib.hid hx
      have HY := Lib.hid hy
      clear hx hy
      go_upto_region 6 with fail
      obtain ⟨W3, hW3⟩ : ∃ W3, W3 = wr.alloc (.cells #[.string x.1, .int .i64 x.2.1, .int .i64 x.2.2] 56) := ⟨_, rfl⟩
      have b3 : bk W3 wr.heap.size 56 [.string x.1, .int .i64 x.2.1, .int .i64 x.2.2] := by rw [hW3]; exact bk.new wr _ _
      have hb3 : Below wr.heap.size wr W3 := by rw [hW3]; exact (Below.refl _ _).alloc (Nat.le_refl _) _
      rw [← hW3]
      clear hW3
      have z0 := HBR.out.size
      have z3 := b3.lt
      have q5' := (hb3.cell (p := ⟨w.heap.size + 1, 5, none⟩) (show w.heap.size + 1 < wr.heap.size by omega)).trans q5
      have hla : a2 < wr.heap.size := by have := HBW.out.size; omega
      have d3 := (hb3.cell (p := ⟨a2, _, none⟩) hla).trans d3
      have d4 := (hb3.cell (p := ⟨a2, _, none⟩) hla).trans d4
      have d5 := (hb3.cell (p := ⟨a2, _, none⟩) hla).trans d5
      have HBR3 : Hid (Below W.heap.size W W3) := Lib.hid (HBR.out.trans (hb3.mono z0))
      obtain ⟨m0, m1, m2⟩ := b3.cells3
      have hneq := holdNeq x y
      clear hb3 b3 d0 d1 d2 p0 p1 p2 p3 p4 p5 p6 p7 p8 p9 p10 q0 q1 q2 q3 q4 q5 q6 q7 q8 q9 q10
      have HXY : Hid (decide (x = y) = true → x = y) := Lib.hid of_decide_eq_true
      have HNE : Hid (decide (x = y) = false → ¬ x = y) := Lib.hid of_decide_eq_false
      generalize decide (x = y) = eb at hneq HXY HNE
      go_cut [63] (fun cv wx => cv = .bool (!eb) ∧ ∃ n, wx = W3.drewN n)
      case first =>
        go_quiet (fail)
        go_wp2
        go_meet
        exact ⟨rfl, nq, rfl⟩
      case rest =>
        obtain ⟨rfl, n, rfl⟩ := hcut
        cases eb
        · have hxy := HNE.out (by trivial)
          have HN := Lib.hid (HEQ.out.trans (show _ = false by
            rw [decide_eq_false (p := hs = hs') (fun e => by
              have h5 := HX.out
              rw [e, HY.out] at h5
              exact hxy (Option.some.inj h5).symm)]
            simp))
          clear hxy hneq
          go_wp2
          go_ret
          exact ⟨by rw [HN.out]; rfl, HB.out.trans ((below_drew' HBR3.out n).mono (by omega))⟩
        · have hxy := HXY.out (by trivial)
          have HN := Lib.hid (take_nextH HX.out (by rw [hxy]; exact HY.out) HT.out)
          clear hxy hneq
          go_wp2
          go_roundw
          case rel => exact ⟨i + 1, by omega, by go_num, HN, Lib.hid (below_drew' HBR3.out n)⟩
          case measure => simp [intOf] <;> omega
    · obtain rfl : i = hs.length := by omega
      have HHS : Hid (hs = hs') := Lib.hid (by have := HT.out; rwa [List.take_length, E3.out, List.take_length] at this)
      have HN : Hid (am = (rm && sm)) := Lib.hid (by rw [HEQ.out, decide_eq_true HHS.out]; simp)
      clear HT
      go_wp2_with fail
      refine (HQ1.out wr HBW.out).mono ?_
      rintro e w2 ⟨rfl, hb2⟩
      have z2 := hb2.size
      have z0 := HBR.out.size
      have HB2 : Hid (Below w.heap.size w w2) := Lib.hid (HBW.out.trans (hb2.mono (by omega)))
      have HC0 := Lib.hid ((B0.out.below HBR.out (by omega)).below hb2 (by omega))
      have HC1 := Lib.hid ((B1.out.below HBR.out (by omega)).below hb2 (by omega))
      clear hb2 p0 p1 p2 p3 p4 p5 p6 p7 p8 p9 p10 q0 q1 q2 q3 q4 q5 q6 q7 q8 q9 q10
      cases rm
      · go_wp2
        go_ret
        exact ⟨by rw [HN.out]; rfl, HB2.out⟩
      obtain ⟨⟨p0, p1, p2, p3, p4, p5, p6, p7, p8, p9, p10⟩, -⟩ := HC0.out.eleven
      obtain ⟨⟨q0, q1, q2, q3, q4, q5, q6, q7, q8, q9, q10⟩, -⟩ := HC1.out.eleven
      go_wp2_with fail
      refine (HQ2.out w2 HB2.out).mono ?_
      rintro e w4 ⟨rfl, hb4⟩
      have HB4 : Hid (Below w.heap.size w w4) := Lib.hid (HB2.out.trans (hb4.mono (by omega)))
      clear hb4
      go_wp2
      go_ret
      exact ⟨by rw [HN.out]; rfl, HB4.out⟩
end Go.Proofs.Ythnimmagaocipaa
set_option linter.unusedVariables false
namespace Go.Proofs.Ythnimmagaocipaa
open Go.ChangeShapes Go.WideShapes Go.ChangeAt Go.RowKit

/-- the same number of accounts, each the same -/
def bookSame (a b : BookD) : Bool := decide (a.length = b.length) && (List.range a.length).all fun i => acctSame (a.getD i (⟨#[]⟩, 0, 0, 0, 0, [], (0, 0, [], []), [])) (b.getD i (⟨#[]⟩, 0, 0, 0, 0, [], (0, 0, [], []), []))
set_option maxRecDepth 100000 in
theorem bsame_len {a b : BookD} (h : ¬ a.length = b.length) : bookSame a b = false := by unfold bookSame; rw [decide_eq_false h]; rfl
set_option maxRecDepth 100000 in
theorem bsame_all {a b : BookD} (hl : a.length = b.length) (h : ∀ (j : Nat) (x y : AcctD), a[j]? = some x → b[j]? = some y → acctSame x y = true) : bookSame a b = true := by
  unfold bookSame
  rw [decide_eq_true hl, Bool.true_and, List.all_eq_true]
  intro j hj
  have hj := List.mem_range.1 hj
  have h1 : a[j]? = some a[j] := List.getElem?_eq_getElem hj
  have h2 : b[j]? = some (b[j]'(by omega)) := List.getElem?_eq_getElem (by omega)
  rw [List.getD_eq_getElem?_getD, List.getD_eq_getElem?_getD, h1, h2]
  exact h j _ _ h1 h2
set_option maxRecDepth 100000 in
theorem bsame_not {a b : BookD} {j : Nat} {x y : AcctD} (hx : a[j]? = some x) (hy : b[j]? = some y) (h : acctSame x y = false) : bookSame a b = false := by
  unfold bookSame
  have : ((List.range a.length).all fun i => acctSame (a.getD i (⟨#[]⟩, 0, 0, 0, 0, [], (0, 0, [], []), [])) (b.getD i (⟨#[]⟩, 0, 0, 0, 0, [], (0, 0, [], []), []))) = false := by
    rw [List.all_eq_false]
    refine ⟨j, List.mem_range.2 (List.getElem?_eq_some_iff.1 hx).1, ?_⟩
    rw [List.getD_eq_getElem?_getD, List.getD_eq_getElem?_getD, hx, hy]
    show ¬ acctSame x y = true
    rw [h]; exact Bool.false_ne_true
  rw [this, Bool.and_false]
set_option maxRecDepth 100000 in
set_option maxHeartbeats 16000000 in
theorem specBookSame_any (hi : Nat) (va vb : Value) (a b : BookD) (w : World) (hs : bookSmall 1048576 a) (h1 : AcctsR.rd hi w [va] a) (h2 : AcctsR.rd hi w [vb] b) (hh : hi ≤ w.heap.size) :
    Calls Try.prog 10 #[.agg #[va], .agg #[vb]] w fun e w' => e = .returned (.bool (bookSame a b)) ∧ Below w.heap.size w w' := by
  obtain ⟨A1, c1, rfl, -, h1⟩ := accts_rd h1
  obtain ⟨A2, c2, rfl, -, h2⟩ := accts_rd h2
  obtain ⟨hn, hs⟩ := hs
  have H1 := Lib.hid h1
  have H2 := Lib.hid h2
  have HS := Lib.hid hs
  clear h1 h2 hs
  obtain ⟨W, hW⟩ : ∃ W, W = (w.alloc (.cells #[.slice A1 a.length c1] 29)).alloc (.cells #[.slice A2 b.length c2] 29) := ⟨_, rfl⟩
  have b0 : bk W w.heap.size 29 [.slice A1 a.length c1] := by rw [hW]; exact (bk.new w _ _).alloc _
  have b1 : bk W (w.heap.size + 1) 29 [.slice A2 b.length c2] := by rw [hW]; simpa using bk.new (w.alloc _) 29 [.slice A2 b.length c2]
  have HB0 : Hid (Below w.heap.size w W) := Lib.hid (by rw [hW]; exact ((Below.refl _ _).alloc (Nat.le_refl _) _).alloc (by simp) _)
  have z0 : W.heap.size = w.heap.size + 2 := by rw [hW]; simp
  have p0 := b0.cell 0
  have q0 := b1.cell 0
  simp only [List.getElem?_cons_zero] at p0 q0
  have B1 := Lib.hid b1
  clear b0 b1
  by_cases hl : a.length = b.length
  · have HL := Lib.hid hl
    have hne : ((a.length : Int) != (b.length : Int)) = false := by simp [hl]
    clear hl
    go_enter Try.func10, Try.ntmps10
    go_upto_region 1 with fail
    rw [← hW]
    clear hW
    go_wp2
    go_loopw [17] (fun iv wr => ∃ i : Nat, i ≤ a.length ∧ iv = .int .i64 i ∧ Hid (∀ (j : Nat) (x y : AcctD), j < i → a[j]? = some x → b[j]? = some y → acctSame x y = true) ∧ Hid (Below W.heap.size W wr) ∧ W.heap.size ≤ wr.heap.size) (fun iv _ => a.length - (intOf iv).toNat)
    case atStart => exact ⟨0, Nat.zero_le _, rfl, Lib.hid fun j x y hj => absurd hj (by omega), Lib.hid (Below.refl _ _), Nat.le_refl _⟩
    case round =>
      obtain ⟨i, hi', rfl, HN, HBr, hz⟩ := hrel
      have HB : Hid (Below w.heap.size w wr) := Lib.hid (HB0.out.trans (HBr.out.mono (by omega)))
      by_cases hin : i < a.length
      · obtain ⟨x, hx⟩ : ∃ x, a[i]? = some x := ⟨_, List.getElem?_eq_getElem hin⟩
        obtain ⟨y, hy⟩ : ∃ y, b[i]? = some y := ⟨_, List.getElem?_eq_getElem (by rw [← HL.out]; exact hin)⟩
        obtain ⟨b1, o1, AH, cH, AC, cC, AS, cS, AL, cL, rfl, hb1, x1, r1⟩ := H1.out i x hx
        obtain ⟨b2, o2, BH, dH, BC, dC, BS, dS, BL, dL, rfl, hb2, x2, r2⟩ := H2.out i y hy
        have HSM := Lib.hid (fun V (hV : Below wr.heap.size wr V) => specAcctSame_any hi _ _ _ _ _ _ _ _ x y V (HS.out x (List.mem_of_getElem? hx)) (Rep.below (R := AcctR) r1 (HB.out.trans (hV.mono (by omega))) hh) (Rep.below (R := AcctR) r2 (HB.out.trans (hV.mono (by omega))) hh) (by have := hV.size; omega))
        have HN2 : Hid (acctSame x y = true → ∀ (j : Nat) (x y : AcctD), j < i + 1 → a[j]? = some x → b[j]? = some y → acctSame x y = true) := Lib.hid fun he j x' y' hj hx' hy' => by
          by_cases e : j = i
          · subst e
            rw [hx] at hx'
            rw [hy] at hy'
            cases hx'
            cases hy'
            exact he
          · exact HN.out j x' y' (by omega) hx' hy'
        have HF := Lib.hid (fun he => bsame_not hx hy he)
        have HX2 := Lib.hid (fun V (hV : Below w.heap.size w V) => (x2.below hV (show b2 < w.heap.size by omega)).eleven)
        obtain ⟨d0, d1, d2, d3, d4, d5, d6, d7, d8, d9, d10⟩ := (x1.below HB.out (show b1 < w.heap.size by omega)).eleven
        have g1 : (i : Int) < (a.length : Int) := by omega
        have g2 : 0 ≤ (i : Int) := by omega
        have g3 : (i : Int) < (b.length : Int) := by rw [← HL.out]; exact g1
        clear hx hy x1 x2 r1 r2
        generalize acctSame x y = eq at HSM HN2 HF
        go_upto_region 6 with fail
        obtain ⟨W3, hW3⟩ : ∃ W3, W3 = wr.alloc (.cells #[.string (aId x), .int .i64 (aLim x), .int .i64 (aPos x), .int .i64 (aMost x), .int .i64 (aSum x), .slice AH (aH x).length cH, .int .i64 (aR x).1, .int .i64 (aR x).2.1, .slice AC (aR x).2.2.1.length cC, .slice AS (aR x).2.2.2.length cS, .slice AL (aS x).length cL] 41) := ⟨_, rfl⟩
        have b3 : bk W3 wr.heap.size 41 [.string (aId x), .int .i64 (aLim x), .int .i64 (aPos x), .int .i64 (aMost x), .int .i64 (aSum x), .slice AH (aH x).length cH, .int .i64 (aR x).1, .int .i64 (aR x).2.1, .slice AC (aR x).2.2.1.length cC, .slice AS (aR x).2.2.2.length cS, .slice AL (aS x).length cL] := by rw [hW3]; exact bk.new wr _ _
        have hb3 : Below wr.heap.size wr W3 := by rw [hW3]; exact (Below.refl _ _).alloc (Nat.le_refl _) _
        rw [← hW3]
        clear hW3 d0 d1 d2 d3 d4 d5 d6 d7 d8 d9 d10
        have z3 := b3.lt
        have B3 := Lib.hid b3
        have hDW : Below wr.heap.size wr W3.drew := hb3.drew
        have HXX := Lib.hid (fun V (hV : Below W3.heap.size W3 V) => And.intro (B3.out.below hV z3).eleven.1 (And.intro (HX2.out V (HB.out.trans ((hb3.trans (hV.mono (by omega))).mono (by omega)))) ((B1.out.below (HBr.out.trans ((hb3.trans (hV.mono (by omega))).mono (by omega))) (by omega)).cell 0)))
        have HB3 : Hid (Below wr.heap.size wr W3) := Lib.hid hb3
        have hD : Below W3.heap.size W3 W3.drew := below_drew _ _
        obtain ⟨⟨p0, p1, p2, p3, p4, p5, p6, p7, p8, p9, p10⟩, ⟨q0, q1, q2, q3, q4, q5, q6, q7, q8, q9, q10⟩, qb⟩ := HXX.out W3 (Below.refl _ _)
        simp only [List.getElem?_cons_zero] at qb
        clear b3 hb3
        go_wp2
        go_region_held3 (fun V => V.cell? ⟨w.heap.size + 1, 0, none⟩ = some (.slice (some ⟨b2, o2, none⟩) b.length c2) ∧ (V.cell? ⟨wr.heap.size, 0, none⟩ = some (.string (aId x)) ∧ V.cell? ⟨wr.heap.size, 1, none⟩ = some (.int .i64 (aLim x)) ∧ V.cell? ⟨wr.heap.size, 2, none⟩ = some (.int .i64 (aPos x)) ∧ V.cell? ⟨wr.heap.size, 3, none⟩ = some (.int .i64 (aMost x)) ∧ V.cell? ⟨wr.heap.size, 4, none⟩ = some (.int .i64 (aSum x)) ∧ V.cell? ⟨wr.heap.size, 5, none⟩ = some (.slice AH (aH x).length cH) ∧ V.cell? ⟨wr.heap.size, 6, none⟩ = some (.int .i64 (aR x).1) ∧ V.cell? ⟨wr.heap.size, 7, none⟩ = some (.int .i64 (aR x).2.1) ∧ V.cell? ⟨wr.heap.size, 8, none⟩ = some (.slice AC (aR x).2.2.1.length cC) ∧ V.cell? ⟨wr.heap.size, 9, none⟩ = some (.slice AS (aR x).2.2.2.length cS) ∧ V.cell? ⟨wr.heap.size, 10, none⟩ = some (.slice AL (aS x).length cL)) ∧ (V.cell? ⟨b2, o2 + i * 11, none⟩ = some (.string (aId y)) ∧ V.cell? ⟨b2, o2 + i * 11 + 1, none⟩ = some (.int .i64 (aLim y)) ∧ V.cell? ⟨b2, o2 + i * 11 + 2, none⟩ = some (.int .i64 (aPos y)) ∧ V.cell? ⟨b2, o2 + i * 11 + 3, none⟩ = some (.int .i64 (aMost y)) ∧ V.cell? ⟨b2, o2 + i * 11 + 4, none⟩ = some (.int .i64 (aSum y)) ∧ V.cell? ⟨b2, o2 + i * 11 + 5, none⟩ = some (.slice BH (aH y).length dH) ∧ V.cell? ⟨b2, o2 + i * 11 + 6, none⟩ = some (.int .i64 (aR y).1) ∧ V.cell? ⟨b2, o2 + i * 11 + 7, none⟩ = some (.int .i64 (aR y).2.1) ∧ V.cell? ⟨b2, o2 + i * 11 + 8, none⟩ = some (.slice BC (aR y).2.2.1.length dC) ∧ V.cell? ⟨b2, o2 + i * 11 + 9, none⟩ = some (.slice BS (aR y).2.2.2.length dS) ∧ V.cell? ⟨b2, o2 + i * 11 + 10, none⟩ = some (.slice BL (aS y).length dL))) (go_keep) ((go_at_call 17; refine (HSM.out _ hDW).mono ?_; rintro e w5 ⟨rfl, hb5⟩; have hb35 : Below W3.heap.size W3 w5 := hD.trans hb5; have hxx := HXX.out w5 hb35; obtain ⟨⟨p0, p1, p2, p3, p4, p5, p6, p7, p8, p9, p10⟩, ⟨q0, q1, q2, q3, q4, q5, q6, q7, q8, q9, q10⟩, qb⟩ := hxx; simp only [List.getElem?_cons_zero] at qb))
        have HB5 : Hid (Below w.heap.size w w5) := Lib.hid (HB.out.trans ((HB3.out.trans (hb35.mono (by omega))).mono (by omega)))
        have HB5r : Hid (Below W.heap.size W w5) := Lib.hid (HBr.out.trans ((HB3.out.trans (hb35.mono (by omega))).mono (by omega)))
        have z5 := HB5r.out.size
        clear hb5 hb35 p0 p1 p2 p3 p4 p5 p6 p7 p8 p9 p10 q0 q1 q2 q3 q4 q5 q6 q7 q8 q9 q10 qb hD hDW
        cases eq
        · have HV := Lib.hid (HF.out rfl)
          go_wp2
          go_ret
          exact ⟨ret_bool HV.out.symm, HB5.out⟩
        · have HN3 := Lib.hid (HN2.out rfl)
          go_wp2
          go_roundw
          case rel => exact ⟨i + 1, by omega, by go_num, HN3, HB5r, z5⟩
          case measure => simp [intOf] <;> omega
      · obtain rfl : i = a.length := by omega
        have HV : Hid (bookSame a b = true) := Lib.hid (bsame_all HL.out fun j x y hx hy => HN.out j x y (List.getElem?_eq_some_iff.1 hx).1 hx hy)
        go_wp2
        go_ret
        exact ⟨ret_bool HV.out.symm, HB.out⟩
  · have HV : Hid (bookSame a b = false) := Lib.hid (bsame_len hl)
    have hne : ((a.length : Int) != (b.length : Int)) = true := by simp; omega
    have hne2 : ¬ (a.length : Int) = (b.length : Int) := by omega
    clear hl
    go_enter Try.func10, Try.ntmps10
    go_upto_region 1 with fail
    rw [← hW]
    clear hW
    go_wp2
    go_ret
    exact ⟨ret_bool HV.out.symm, HB0.out⟩
end Go.Proofs.Ythnimmagaocipaa
set_option linter.unusedVariables false
namespace Go.Proofs.Ythnimmagaocipaa
open Go.ChangeShapes Go.WideShapes Go.ChangeAt Go.RowKit

end Go.Proofs.Ythnimmagaocipaa
set_option linter.unusedVariables false
namespace Go.Proofs.Ythnimmagaocipaa
open Go.ChangeShapes Go.WideShapes Go.ChangeAt Go.RowKit

end Go.Proofs.Ythnimmagaocipaa
set_option linter.unusedVariables false
namespace Go.Proofs.Ythnimmagaocipaa
open Go.ChangeShapes Go.WideShapes Go.ChangeAt Go.RowKit

end Go.Proofs.Ythnimmagaocipaa
set_option linter.unusedVariables false
namespace Go.Proofs.Ythnimmagaocipaa
open Go.ChangeShapes Go.WideShapes Go.ChangeAt Go.RowKit

end Go.Proofs.Ythnimmagaocipaa
set_option linter.unusedVariables false
namespace Go.Proofs.Ythnimmagaocipaa
open Go.ChangeShapes Go.WideShapes Go.ChangeAt Go.RowKit
open Go.Maps (Keyed IsMap)

set_option maxRecDepth 100000 in
theorem str_beq (a b : ByteArray) : (a.toList == b.toList) = decide (a = b) := by
  by_cases h : a = b
  · subst h; simp
  · have h' : ¬ a.toList = b.toList := fun e => h (str_eq_list.1 e)
    rw [decide_eq_false h]; simpa using h'
set_option maxRecDepth 100000 in
theorem keyFields : (Try.prog.fieldsOf 91).toList.map (fun f => (f.type, f.offset, decide (f.name ≠ "_"))) = [(9, 0, true), (9, 1, true)] := by kernel_rfl
set_option maxRecDepth 100000 in
theorem keyUnder : Try.prog.underlying 91 = some (.struct (Try.prog.fieldsOf 91)) := by kernel_rfl
set_option maxRecDepth 100000 in
theorem keyEql (a b c d : ByteArray) (w : World) : (binOp .eql 91 (.agg #[.string a, .string b]) (.agg #[.string c, .string d])).run Try.prog w = .ok (.bool (decide (a = c) && decide (b = d))) w := by
  have hs : Try.prog.stoodInHeld 91 = false := by kernel_rfl
  rw [run_eql_struct, run_equalIn_struct w 9999 _ _ _ keyUnder hs, ← str_beq, ← str_beq]
  have hf := keyFields
  generalize (Try.prog.fieldsOf 91).toList = fs at hf
  have hl : fs.length = 2 := by simpa using congrArg List.length hf
  match fs, hl, hf with
  | [f, g], _, hf =>
    simp only [List.map_cons, List.map_nil, List.cons.injEq, Prod.mk.injEq, and_true, decide_eq_true_eq] at hf
    obtain ⟨⟨f1, f2, f3⟩, g1, g2, g3⟩ := hf
    have p1 : ∀ u v : Value, (Go.part 9 #[u, v] 0).run Try.prog w = .ok u w := fun u v => by kernel_rfl
    have p2 : ∀ u v : Value, (Go.part 9 #[u, v] 1).run Try.prog w = .ok v w := fun u v => by kernel_rfl
    have s1 := fun a b => run_equalIn_string (P := Try.prog) w 9998 9 a b Try.underlying9
    simp only [Op.eqFields, f1, f2, f3, g1, g2, g3, if_true, Sem.run_bind, Sem.run_ite, Sem.run_pure, p1, p2, s1, Result.andThen_ok, ne_eq, not_false_eq_true]
    cases (a.toList == c.toList) <;> cases (b.toList == d.toList) <;> simp
/-- what a key reads as -/
def keyLit (t m : ByteArray) : Lit := .string (keyBytes [.string t.data.toList, .string m.data.toList])
/-- the map holds just the keys of the slots of the list -/
structure keysAre (D : DataW Unit) (L : List SlotD) : Prop where
  isMap : IsMap D
  at_ : ∀ t m : ByteArray, t.size ≤ maxLen → m.size ≤ maxLen → D.atKey (keyLit t m) (.lit (.bool false)) = .lit (.bool (L.any (isSlot t m)))
set_option maxRecDepth 100000 in
theorem keysAre.start : keysAre (.map [] : DataW Unit) [] := ⟨Maps.isMap_empty, fun t m _ _ => rfl⟩
end Go.Proofs.Ythnimmagaocipaa
set_option linter.unusedVariables false
namespace Go.Proofs.Ythnimmagaocipaa
open Go.ChangeShapes Go.WideShapes Go.ChangeAt Go.RowKit
open Go.Maps (Keyed IsMap)

set_option maxRecDepth 100000 in
theorem implKeyOf_any (A : Option Addr) (n c : Nat) (s t : ByteArray) (w : World) :
    Calls Try.prog 54 #[.agg #[.string s, .string t, .slice A n c]] w fun e w' => e = .returned (.agg #[.string s, .string t]) ∧ Below w.heap.size w w' := by
  go_enter Try.func54, Try.ntmps54
  go_upto_region 1 with fail
  obtain ⟨W, hW⟩ : ∃ W, W = (w.alloc (.cells #[.string s, .string t, .slice A n c] 74)).alloc (.cells #[.string ⟨#[]⟩, .string ⟨#[]⟩] 91) := ⟨_, rfl⟩
  have b0 : bk W w.heap.size 74 [.string s, .string t, .slice A n c] := by rw [hW]; exact (bk.new w _ _).alloc _
  have b1 : bk W (w.heap.size + 1) 91 [.string ⟨#[]⟩, .string ⟨#[]⟩] := by rw [hW]; have := bk.new (w.alloc (.cells #[.string s, .string t, .slice A n c] 74)) 91 [.string ⟨#[]⟩, .string ⟨#[]⟩]; simpa using this
  have HB0 : Hid (Below w.heap.size w W) := Lib.hid (by rw [hW]; exact ((Below.refl _ _).alloc (Nat.le_refl _) _).alloc (by simp) _)
  rw [← hW]
  clear hW
  obtain ⟨p0, p1, p2⟩ := b0.cells3
  have q0 := b1.cell 0
  have q1 := b1.cell 1
  have f0 := b1.frozen 0
  have f1 := b1.frozen 1
  simp only [List.getElem?_cons_zero, List.getElem?_cons_succ] at q0 q1
  clear b0 b1
  go_wp2
  refine bodyPost_ret (v := .agg #[.string s, .string t]) (by simp [results, Try.results54, go_sem, q0, q1]) rfl ?_
  exact ⟨rfl, (HB0.out.setCell (p := ⟨w.heap.size + 1, 0, none⟩) (Nat.le_succ _) _).setCell (p := ⟨w.heap.size + 1, 1, none⟩) (Nat.le_succ _) _⟩
end Go.Proofs.Ythnimmagaocipaa
set_option linter.unusedVariables false
namespace Go.Proofs.Ythnimmagaocipaa
open Go.ChangeShapes Go.WideShapes Go.ChangeAt Go.RowKit

/-- W is w0 and more: all blocks of w0 hold what they held. -/
def Ext (w0 W : World) : Prop := Below w0.heap.size w0 W
set_option maxRecDepth 100000 in
theorem Ext.refl (w0 : World) : Ext w0 w0 := Below.refl _ _
set_option maxRecDepth 100000 in
theorem Ext.drew {w0 W : World} (h : Ext w0 W) : Ext w0 W.drew := Below.drew h
set_option maxRecDepth 100000 in
theorem Ext.below {w0 W : World} (h : Ext w0 W) : Below w0.heap.size w0 W := h
set_option maxRecDepth 100000 in
theorem Ext.step {w0 W W' : World} (h : Ext w0 W) (hb : Below W.heap.size W W') : Ext w0 W' := Below.trans h (hb.mono (Below.size h))
set_option maxRecDepth 100000 in
theorem Ext.cell {w0 W : World} (h : Ext w0 W) {b off : Nat} {v : Value} (hc : w0.cell? ⟨b, off, none⟩ = some v) (hb : b < w0.heap.size) : W.cell? ⟨b, off, none⟩ = some v := (Below.cell h hb).trans hc
set_option maxRecDepth 100000 in
theorem quiet_region {P : Program} {C : World → Prop} {id : Nat} {Q : Exit → Act → World → Prop} {a : Act} {w : World} {l : List Oper} (hm : P.follows .mixedOrders = true) (hB : Region.lexB .any l.toArray = true) (hC : C w.drew)
    (h : wpQuiet P l.toArray C (fun a' => ∀ w', C w' → Q .normal a' w') l a) : (Code.region id l.toArray true).wp P Q a w :=
  wp_region_quiet (C := C) hm hB hC (by simpa using h)
end Go.Proofs.Ythnimmagaocipaa
set_option linter.unusedVariables false
namespace Go.Proofs.Ythnimmagaocipaa
open Go.ChangeShapes Go.WideShapes Go.ChangeAt Go.RowKit

set_option maxRecDepth 100000 in
theorem bytesEqual_any (h1 h2 : Nat) (u v : Value) (a b : List Int) (w : World) (hu : rd .u8 h1 w u a) (hv : rd .u8 h2 w v b) :
    Calls Try.prog 55 #[u, v] w fun e w' => e = .returned (.bool (decide (byteStr a = byteStr b))) ∧ w = w' := by
  obtain ⟨A, c, rfl, -⟩ := hu.form
  obtain ⟨B, d, rfl, -⟩ := hv.form
  have hcv1 : (convert 72 9 (.slice A a.length c)).run Try.prog w = .ok (.string (byteStr a)) w := str_of_rd hu
  have hcv2 : (convert 72 9 (.slice B b.length d)).run Try.prog w = .ok (.string (byteStr b)) w := str_of_rd hv
  clear hu hv
  generalize byteStr a = s at hcv1 ⊢
  generalize byteStr b = t at hcv2 ⊢
  go_enter Try.func55, Try.ntmps55
  go_wp2
  go_ret
  exact ⟨by rw [str_beq]; rfl, rfl⟩
set_option maxRecDepth 100000 in
set_option maxHeartbeats 1600000 in
theorem sameSlot_any (h1 h2 : Nat) (u v : Value) (x y : SlotD) (w : World) (hu : rd .u8 h1 w u x.2.2) (hv : rd .u8 h2 w v y.2.2) (hh1 : h1 ≤ w.heap.size) (hh2 : h2 ≤ w.heap.size) :
    Calls Try.prog 50 #[.agg #[.string x.1, .string x.2.1, u], .agg #[.string y.1, .string y.2.1, v]] w fun e w' => e = .returned (.bool (slotEq x y)) ∧ Below w.heap.size w w' := by
  obtain ⟨A, c, rfl, -⟩ := hu.form
  obtain ⟨B, d, rfl, -⟩ := hv.form
  have HU := Lib.hid hu
  have HV := Lib.hid hv
  clear hu hv
  have HEQ : Hid (∀ V, Below w.heap.size w V → Calls Try.prog 55 #[.slice A x.2.2.length c, .slice B y.2.2.length d] V fun e w' => e = .returned (.bool (decide (byteStr x.2.2 = byteStr y.2.2))) ∧ V = w') := Lib.hid fun V hV => bytesEqual_any h1 h2 _ _ x.2.2 y.2.2 V (HU.out.below hV hh1) (HV.out.below hV hh2)
  have HSE : Hid (slotEq x y = ((decide (x.1 = y.1) && decide (x.2.1 = y.2.1)) && decide (byteStr x.2.2 = byteStr y.2.2))) := Lib.hid (by unfold slotEq; rw [Bool.and_assoc])
  have hkq : ∀ V : World, (binOp .eql 91 (.agg #[.string x.1, .string x.2.1]) (.agg #[.string y.1, .string y.2.1])).run Try.prog V = .ok (.bool (decide (x.1 = y.1) && decide (x.2.1 = y.2.1))) V := fun V => keyEql x.1 x.2.1 y.1 y.2.1 V
  rw [HSE.out]
  generalize decide (byteStr x.2.2 = byteStr y.2.2) = eb at HEQ ⊢
  generalize (decide (x.1 = y.1) && decide (x.2.1 = y.2.1)) = ek at hkq ⊢
  clear HSE HU HV
  go_enter Try.func50, Try.ntmps50
  go_upto_region 1 with fail
  obtain ⟨W, hW⟩ : ∃ W, W = (w.alloc (.cells #[.string x.1, .string x.2.1, .slice A x.2.2.length c] 74)).alloc (.cells #[.string y.1, .string y.2.1, .slice B y.2.2.length d] 74) := ⟨_, rfl⟩
  have b0 : bk W w.heap.size 74 [.string x.1, .string x.2.1, .slice A x.2.2.length c] := by rw [hW]; exact (bk.new w _ _).alloc _
  have b1 : bk W (w.heap.size + 1) 74 [.string y.1, .string y.2.1, .slice B y.2.2.length d] := by rw [hW]; have := bk.new (w.alloc (.cells #[.string x.1, .string x.2.1, .slice A x.2.2.length c] 74)) 74 [.string y.1, .string y.2.1, .slice B y.2.2.length d]; simpa using this
  have HB0 : Hid (Below w.heap.size w W) := Lib.hid (by rw [hW]; exact ((Below.refl _ _).alloc (Nat.le_refl _) _).alloc (by simp) _)
  have z0 : w.heap.size + 2 = W.heap.size := by rw [hW]; simp
  rw [← hW]
  clear hW
  obtain ⟨p0, p1, p2⟩ := b0.cells3
  obtain ⟨q0, q1, q2⟩ := b1.cells3
  have P0 := Lib.hid p0
  have P1 := Lib.hid p1
  have P2 := Lib.hid p2
  have Q0 := Lib.hid q0
  have Q1 := Lib.hid q1
  have Q2 := Lib.hid q2
  clear p0 p1 p2 q0 q1 q2 b0 b1
  have HBX : Hid (∀ V, Ext W V → Below w.heap.size w V) := Lib.hid fun V hV => HB0.out.trans (hV.below.mono (by omega))
  have HX : Hid (Ext W W.drew) := Lib.hid (Ext.refl W).drew
  cases ek
  all_goals
    refine quiet_region (C := Ext W) (by kernel_rfl) (by kernel_rfl) HX.out ?_
    repeat (first
      | go_big_quiet_skip
      | (go_big_quiet_want; go_big_quiet_op; go_big_quiet_on)
      | (go_big_quiet_want; go_big_quiet_op; apply Exists.intro; refine ⟨fun _ _ => rfl, ?_⟩; go_big_quiet_on)
      | (go_big_quiet_want
         apply Exists.intro
         refine ⟨fun V hV => ?_, ?_⟩
         (have p0 := hV.cell P0.out (by omega)
          have p1 := hV.cell P1.out (by omega)
          have p2 := hV.cell P2.out (by omega)
          have q0 := hV.cell Q0.out (by omega)
          have q1 := hV.cell Q1.out (by omega)
          have q2 := hV.cell Q2.out (by omega)
          unfold Oper.quietAt
          go_simp
          rfl)
         simp only [Act.put, List.setIfInBounds_toArray, List.set_cons_zero, List.set_cons_succ]
         go_big_quiet_on)
      | (go_big_quiet_want
         apply Exists.intro
         refine ⟨fun V hV => ?_, ?_⟩
         (unfold Oper.quietAt
          go_simp
          go_at_call 54
          (with_reducible refine (implKeyOf_any _ _ _ _ _ V).mono ?_)
          rintro e w4 ⟨rfl, hb4⟩
          exact ⟨rfl, hV.step hb4⟩)
         simp only [Act.put, List.setIfInBounds_toArray, List.set_cons_zero, List.set_cons_succ]
         go_big_quiet_on)
      | (go_big_quiet_want
         apply Exists.intro
         refine ⟨fun V hV => ?_, ?_⟩
         (unfold Oper.quietAt
          go_simp
          go_at_call 55
          refine (HEQ.out V (HBX.out V hV)).mono ?_
          rintro e w4 ⟨rfl, rfl⟩
          exact ⟨rfl, hV⟩)
         simp only [Act.put, List.setIfInBounds_toArray, List.set_cons_zero, List.set_cons_succ]
         go_big_quiet_on)
      | fail)
    refine wpQuiet_nil ?_
    intro W4 hW4
    go_wp2
    go_ret
    exact ⟨rfl, HB0.out.trans (hW4.below.mono (by omega))⟩
set_option maxRecDepth 100000 in
set_option maxHeartbeats 1600000 in
theorem equalSlots_any (hi : Nat) (va vb : Value) (a b : List SlotD) (w : World) (hn : a.length ≤ 1048576) (h1 : SlotsR.rd hi w [va] a) (h2 : SlotsR.rd hi w [vb] b) (hh : hi ≤ w.heap.size) :
    Calls Try.prog 49 #[va, vb, .func (.func 50) #[] #[]] w fun e w' => e = .returned (.bool (slotsSame a b)) ∧ Below w.heap.size w w' := by
  obtain ⟨A1, c1, rfl, -, h1⟩ := slots_rd h1
  obtain ⟨A2, c2, rfl, -, h2⟩ := slots_rd h2
  have H1 := Lib.hid h1
  have H2 := Lib.hid h2
  clear h1 h2
  by_cases hl : a.length = b.length
  · have HL := Lib.hid hl
    have hne : ((a.length : Int) != (b.length : Int)) = false := by simp [hl]
    clear hl
    go_enter Try.func49, Try.ntmps49
    go_wp2
    go_loopw [17] (fun iv wr => ∃ i : Nat, i ≤ a.length ∧ iv = .int .i64 i ∧ Hid (∀ (j : Nat) (x y : SlotD), j < i → a[j]? = some x → b[j]? = some y → slotEq x y = true) ∧ Hid (Below w.heap.size w wr) ∧ w.heap.size ≤ wr.heap.size) (fun iv _ => a.length - (intOf iv).toNat)
    case atStart => exact ⟨0, Nat.zero_le _, rfl, Lib.hid fun j x y hj => absurd hj (by omega), Lib.hid (Below.refl _ _), Nat.le_refl _⟩
    case round =>
      obtain ⟨i, hi', rfl, HN, HB, hz⟩ := hrel
      by_cases hin : i < a.length
      · obtain ⟨x, hx⟩ : ∃ x, a[i]? = some x := ⟨_, List.getElem?_eq_getElem hin⟩
        obtain ⟨y, hy⟩ : ∃ y, b[i]? = some y := ⟨_, List.getElem?_eq_getElem (by rw [← HL.out]; exact hin)⟩
        obtain ⟨b1, o1, B1, d1, rfl, hb1, x1, y1, v1, r1⟩ := H1.out i x hx
        obtain ⟨b2, o2, B2, d2, rfl, hb2, x2, y2, v2, r2⟩ := H2.out i y hy
        have x1 := (HB.out.cell (p := ⟨b1, _, none⟩) (show b1 < w.heap.size by omega)).trans x1
        have y1 := (HB.out.cell (p := ⟨b1, _, none⟩) (show b1 < w.heap.size by omega)).trans y1
        have v1 := (HB.out.cell (p := ⟨b1, _, none⟩) (show b1 < w.heap.size by omega)).trans v1
        have g1 : (i : Int) < (a.length : Int) := by omega
        have g2 : 0 ≤ (i : Int) := by omega
        have g3 : (i : Int) < (b.length : Int) := by rw [← HL.out]; exact g1
        have HX := Lib.hid hx
        have HY := Lib.hid hy
        have HR1 := Lib.hid r1
        have HR2 := Lib.hid r2
        have HC2 := Lib.hid (And.intro x2 (And.intro y2 v2))
        clear hx hy r1 r2 x2 y2 v2
        go_upto_region 6 with fail
        obtain ⟨W3, hW3⟩ : ∃ W3, W3 = wr.alloc (.cells #[.string x.1, .string x.2.1, .slice B1 x.2.2.length d1] 74) := ⟨_, rfl⟩
        have b3 : bk W3 wr.heap.size 74 [.string x.1, .string x.2.1, .slice B1 x.2.2.length d1] := by rw [hW3]; exact bk.new wr _ _
        have hb3 : Below wr.heap.size wr W3 := by rw [hW3]; exact (Below.refl _ _).alloc (Nat.le_refl _) _
        rw [← hW3]
        clear hW3 x1 y1 v1
        have z3 := b3.lt
        have HB3 : Hid (Below w.heap.size w W3) := Lib.hid (HB.out.trans (hb3.mono hz))
        have x2 := (HB3.out.cell (p := ⟨b2, _, none⟩) (show b2 < w.heap.size by omega)).trans HC2.out.1
        have y2 := (HB3.out.cell (p := ⟨b2, _, none⟩) (show b2 < w.heap.size by omega)).trans HC2.out.2.1
        have v2 := (HB3.out.cell (p := ⟨b2, _, none⟩) (show b2 < w.heap.size by omega)).trans HC2.out.2.2
        have HX3 := Lib.hid b3
        clear hb3 HB HC2 b3
        go_upto_region 7 with fail
        obtain ⟨W4, hW4⟩ : ∃ W4, W4 = W3.alloc (.cells #[.string y.1, .string y.2.1, .slice B2 y.2.2.length d2] 74) := ⟨_, rfl⟩
        have b4 : bk W4 W3.heap.size 74 [.string y.1, .string y.2.1, .slice B2 y.2.2.length d2] := by rw [hW4]; exact bk.new W3 _ _
        have hb4 : Below W3.heap.size W3 W4 := by rw [hW4]; exact (Below.refl _ _).alloc (Nat.le_refl _) _
        rw [← hW4]
        clear hW4 x2 y2 v2
        have z4 := b4.lt
        have HB4 : Hid (Below w.heap.size w W4) := Lib.hid (HB3.out.trans (hb4.mono (by omega)))
        have HX4 := Lib.hid (HX3.out.below hb4 z3)
        clear hb4 HX3 HB3
        obtain ⟨p0, p1, p2⟩ := HX4.out.cells3
        obtain ⟨q0, q1, q2⟩ := b4.cells3
        clear b4
        have HSM := Lib.hid (sameSlot_any hi hi _ _ x y W4 (HR1.out.below HB4.out hh) (HR2.out.below HB4.out hh) (by omega) (by omega))
        have HN2 : Hid (slotEq x y = true → ∀ (j : Nat) (x y : SlotD), j < i + 1 → a[j]? = some x → b[j]? = some y → slotEq x y = true) := Lib.hid fun he j x' y' hj hx' hy' => by
          by_cases e : j = i
          · subst e
            rw [HX.out] at hx'
            rw [HY.out] at hy'
            cases hx'
            cases hy'
            exact he
          · exact HN.out j x' y' (by omega) hx' hy'
        have HF := Lib.hid (fun he => same_not HX.out HY.out he)
        generalize slotEq x y = eq at HSM HN2 HF
        go_wp2_with fail
        refine HSM.out.mono ?_
        rintro e w5 ⟨rfl, hb5⟩
        have z5 := hb5.size
        have HB5 : Hid (Below w.heap.size w w5) := Lib.hid (HB4.out.trans (hb5.mono (by omega)))
        clear hb5 p0 p1 p2 q0 q1 q2
        cases eq
        · have HV := Lib.hid (HF.out rfl)
          go_wp2
          go_ret
          exact ⟨ret_bool HV.out.symm, HB5.out⟩
        · have HN3 := Lib.hid (HN2.out rfl)
          go_wp2
          go_roundw
          case rel => exact ⟨i + 1, by omega, by go_num, HN3, HB5, by omega⟩
          case measure => simp [intOf] <;> omega
      · obtain rfl : i = a.length := by omega
        have HV : Hid (slotsSame a b = true) := Lib.hid (same_all HL.out fun j x y hx hy => HN.out j x y (List.getElem?_eq_some_iff.1 hx).1 hx hy)
        go_wp2
        go_ret
        exact ⟨ret_bool HV.out.symm, HB.out⟩
  · have HV : Hid (slotsSame a b = false) := Lib.hid (same_len hl)
    have hne : ((a.length : Int) != (b.length : Int)) = true := by simp; omega
    clear hl
    go_enter Try.func49, Try.ntmps49
    go_wp2
    go_ret
    exact ⟨ret_bool HV.out.symm, Below.refl _ _⟩
set_option maxRecDepth 100000 in
theorem implSlotsSame_any (hi : Nat) (va vb : Value) (a b : List SlotD) (w : World) (hn : a.length ≤ 1048576) (h1 : SlotsR.rd hi w [va] a) (h2 : SlotsR.rd hi w [vb] b) (hh : hi ≤ w.heap.size) :
    Calls Try.prog 38 #[va, vb] w fun e w' => e = .returned (.bool (slotsSame a b)) ∧ Below w.heap.size w w' := by
  have HC := Lib.hid (equalSlots_any hi va vb a b w hn h1 h2 hh)
  clear h1 h2
  go_enter Try.func38, Try.ntmps38
  go_wp2_with fail
  refine HC.out.mono ?_
  rintro e w1 ⟨rfl, hb1⟩
  go_wp2
  go_ret
  exact ⟨rfl, hb1⟩
end Go.Proofs.Ythnimmagaocipaa
set_option linter.unusedVariables false
namespace Go.Proofs.Ythnimmagaocipaa
open Go.ChangeShapes Go.WideShapes Go.ChangeAt Go.RowKit

set_option maxRecDepth 100000 in
set_option maxHeartbeats 1600000 in
/-- an account's cells as the program's own account holds them -/
theorem implAccountOf_any (id : ByteArray) (l p m s : Int) (A1 : Option Addr) (n1 c1 : Nat) (rs rh : Int) (A2 : Option Addr) (n2 c2 : Nat) (A3 : Option Addr) (n3 c3 : Nat) (A4 : Option Addr) (n4 c4 : Nat) (w : World) :
    Calls Try.prog 25 #[.agg #[.string id, .int .i64 l, .int .i64 p, .int .i64 m, .int .i64 s, .slice A1 n1 c1, .int .i64 rs, .int .i64 rh, .slice A2 n2 c2, .slice A3 n3 c3, .slice A4 n4 c4]] w fun e w' => e = .returned (.agg #[.int .i64 l, .int .i64 p, .int .i64 m, .int .i64 s, .string id, .slice A1 n1 c1, .int .i64 rs, .int .i64 rh, .slice A2 n2 c2, .slice A3 n3 c3, .slice A4 n4 c4]) ∧ Below w.heap.size w w' := by
  go_enter Try.func25, Try.ntmps25
  go_upto_region 1 with fail
  obtain ⟨W, hW⟩ : ∃ W, W = (w.alloc (.cells #[.string id, .int .i64 l, .int .i64 p, .int .i64 m, .int .i64 s, .slice A1 n1 c1, .int .i64 rs, .int .i64 rh, .slice A2 n2 c2, .slice A3 n3 c3, .slice A4 n4 c4] 41)).alloc (.cells #[.int .i64 0, .int .i64 0, .int .i64 0, .int .i64 0, .string ⟨#[]⟩, .slice none 0 0, .int .i64 0, .int .i64 0, .slice none 0 0, .slice none 0 0, .slice none 0 0] 62) := ⟨_, rfl⟩
  have b0 : bk W w.heap.size 41 [.string id, .int .i64 l, .int .i64 p, .int .i64 m, .int .i64 s, .slice A1 n1 c1, .int .i64 rs, .int .i64 rh, .slice A2 n2 c2, .slice A3 n3 c3, .slice A4 n4 c4] := by rw [hW]; exact (bk.new w _ _).alloc _
  have b1 : bk W (w.heap.size + 1) 62 [.int .i64 0, .int .i64 0, .int .i64 0, .int .i64 0, .string ⟨#[]⟩, .slice none 0 0, .int .i64 0, .int .i64 0, .slice none 0 0, .slice none 0 0, .slice none 0 0] := by rw [hW]; simpa using bk.new (w.alloc _) 62 [.int .i64 0, .int .i64 0, .int .i64 0, .int .i64 0, .string ⟨#[]⟩, .slice none 0 0, .int .i64 0, .int .i64 0, .slice none 0 0, .slice none 0 0, .slice none 0 0]
  have HB : Hid (Below w.heap.size w W) := Lib.hid (by rw [hW]; exact ((Below.refl _ _).alloc (Nat.le_refl _) _).alloc (by simp) _)
  have z : w.heap.size + 2 ≤ W.heap.size := by rw [hW]; simp
  rw [← hW]
  clear hW
  obtain ⟨⟨p0, p1, p2, p3, p4, p5, p6, p7, p8, p9, p10⟩, -⟩ := b0.eleven
  obtain ⟨⟨r0, r1, r2, r3, r4, r5, r6, r7, r8, r9, r10⟩, g0, g1, g2, g3, g4, g5, g6, g7, g8, g9, g10⟩ := b1.eleven
  clear b0 b1
  go_wp2
  refine bodyPost_ret (v := .agg #[.int .i64 l, .int .i64 p, .int .i64 m, .int .i64 s, .string id, .slice A1 n1 c1, .int .i64 rs, .int .i64 rh, .slice A2 n2 c2, .slice A3 n3 c3, .slice A4 n4 c4]) (by simp [results, Try.results25, go_sem, r0, r1, r2, r3, r4, r5, r6, r7, r8, r9, r10]) rfl ?_
  refine ⟨rfl, ?_⟩
  repeat (refine Below.setCell ?_ (by simp <;> omega) _)
  exact HB.out
end Go.Proofs.Ythnimmagaocipaa
set_option linter.unusedVariables false
namespace Go.Proofs.Ythnimmagaocipaa
open Go.ChangeShapes Go.WideShapes Go.ChangeAt Go.RowKit

set_option maxRecDepth 100000 in
theorem take_nextI {l m : List Int} {i : Nat} {x : Int} (h1 : l[i]? = some x) (h2 : m[i]? = some x) (h : l.take i = m.take i) : l.take (i + 1) = m.take (i + 1) := by
  obtain ⟨a1, a2⟩ := List.getElem?_eq_some_iff.1 h1
  obtain ⟨b1, b2⟩ := List.getElem?_eq_some_iff.1 h2
  rw [List.take_succ_eq_append_getElem a1, List.take_succ_eq_append_getElem b1, h, a2, b2]
set_option maxRecDepth 100000 in
set_option maxHeartbeats 4000000 in
theorem equalInts_any (hi : Nat) (v v' : Value) (l m : List Int) (w : World) (hn : l.length ≤ 1048576) (h1 : rd .i64 hi w v l) (h2 : rd .i64 hi w v' m) (hh : hi ≤ w.heap.size) :
    Calls Try.prog 48 #[v, v'] w fun e w' => e = .returned (.bool (decide (l = m))) ∧ Below w.heap.size w w' := by
  obtain ⟨A1, c1, rfl, -⟩ := h1.form
  obtain ⟨A2, c2, rfl, -⟩ := h2.form
  have H1 := Lib.hid h1
  have H2 := Lib.hid h2
  clear h1 h2
  by_cases hl : l.length = m.length
  rotate_left
  · have HV : Hid (decide (l = m) = false) := Lib.hid (decide_eq_false fun e => hl (by rw [e]))
    have hne : ((l.length : Int) != (m.length : Int)) = true := by simp; omega
    clear hl
    rw [HV.out]
    go_enter Try.func48, Try.ntmps48
    go_wp2
    go_ret
    exact ⟨rfl, Below.refl _ _⟩
  have HL := Lib.hid hl
  have hne : ((l.length : Int) != (m.length : Int)) = false := by simp [hl]
  have HD : Hid (∀ (i : Nat) (x y : Int), l[i]? = some x → m[i]? = some y → ¬ x = y → decide (l = m) = false) := Lib.hid fun i x y hx hy he => decide_eq_false fun e => by
    subst e
    rw [hx] at hy
    exact he (Option.some.inj hy)
  have HT0 : Hid (l.take l.length = m.take l.length → decide (l = m) = true) := Lib.hid fun h => decide_eq_true (by rwa [List.take_length, HL.out, List.take_length] at h)
  clear hl
  generalize decide (l = m) = res at HD HT0 ⊢
  go_enter Try.func48, Try.ntmps48
  go_wp2
  go_loopw [13] (fun iv wr => ∃ i k : Nat, i ≤ l.length ∧ iv = .int .i64 i ∧ Hid (l.take i = m.take i) ∧ wr = w.drewN k) (fun iv _ => l.length - (intOf iv).toNat)
  case atStart => exact ⟨0, 0, Nat.zero_le _, rfl, Lib.hid rfl, rfl⟩
  case round =>
    obtain ⟨i, k, hi', rfl, HT, rfl⟩ := hrel
    by_cases hin : i < l.length
    · obtain ⟨x, hx⟩ : ∃ x, l[i]? = some x := ⟨_, List.getElem?_eq_getElem hin⟩
      obtain ⟨y, hy⟩ : ∃ y, m[i]? = some y := ⟨_, List.getElem?_eq_getElem (by rw [← HL.out]; exact hin)⟩
      obtain ⟨a1, o1, rfl, -, d1⟩ := ring_at H1.out hx
      obtain ⟨a3, o3, rfl, -, d3⟩ := ring_at H2.out hy
      have g1 : (i : Int) < (l.length : Int) := by omega
      have g3 : (i : Int) < (m.length : Int) := by rw [← HL.out]; exact g1
      have g2 : 0 ≤ (i : Int) := by omega
      have HX := Lib.hid hx
      have HY := Lib.hid hy
      clear hx hy
      by_cases e : x = y
      · subst e
        have HN := Lib.hid (take_nextI HX.out HY.out HT.out)
        go_upto_region 6 with fail
        go_quiet (fail)
        go_wp2
        go_roundw
        case rel => exact ⟨i + 1, k + nq, by omega, by go_num, HN, by simp [World.drewN]⟩
        case measure => simp [intOf] <;> omega
      · have n1 : (x != y) = true := by simpa using e
        have HN := Lib.hid (HD.out i x y HX.out HY.out e)
        clear e
        go_upto_region 6 with fail
        go_quiet (fail)
        go_wp2
        go_ret
        exact ⟨by rw [HN.out]; rfl, below_drew' (below_drew' (Below.refl _ _) _) _⟩
    · obtain rfl : i = l.length := by omega
      have HN := Lib.hid (HT0.out HT.out)
      go_wp2
      go_ret
      exact ⟨by rw [HN.out]; rfl, below_drew' (Below.refl _ _) _⟩
set_option maxRecDepth 100000 in
set_option maxHeartbeats 4000000 in
theorem equalHolds_any (hi : Nat) (v v' : Value) (l m : List HoldD) (w : World) (hn : l.length ≤ 1048576) (h1 : HoldsR.rd hi w [v] l) (h2 : HoldsR.rd hi w [v'] m) (hh : hi ≤ w.heap.size) :
    Calls Try.prog 36 #[v, v'] w fun e w' => e = .returned (.bool (decide (l = m))) ∧ Below w.heap.size w w' := by
  obtain ⟨A1, c1, rfl, -, hr1⟩ := holds_rd h1
  obtain ⟨A2, c2, rfl, -, hr2⟩ := holds_rd h2
  have HR1 := Lib.hid hr1
  have HR2 := Lib.hid hr2
  clear h1 h2 hr1 hr2
  by_cases hl : l.length = m.length
  rotate_left
  · have HV : Hid (decide (l = m) = false) := Lib.hid (decide_eq_false fun e => hl (by rw [e]))
    have hne : ((l.length : Int) != (m.length : Int)) = true := by simp; omega
    clear hl
    rw [HV.out]
    go_enter Try.func36, Try.ntmps36
    go_wp2
    go_ret
    exact ⟨rfl, Below.refl _ _⟩
  have HL := Lib.hid hl
  have hne : ((l.length : Int) != (m.length : Int)) = false := by simp [hl]
  have HD : Hid (∀ (i : Nat) (x y : HoldD), l[i]? = some x → m[i]? = some y → ¬ x = y → decide (l = m) = false) := Lib.hid fun i x y hx hy he => decide_eq_false fun e => by
    subst e
    rw [hx] at hy
    exact he (Option.some.inj hy)
  have HT0 : Hid (l.take l.length = m.take l.length → decide (l = m) = true) := Lib.hid fun h => decide_eq_true (by rwa [List.take_length, HL.out, List.take_length] at h)
  clear hl
  generalize decide (l = m) = res at HD HT0 ⊢
  go_enter Try.func36, Try.ntmps36
  go_wp2
  go_loopw [13] (fun iv wr => ∃ i k : Nat, i ≤ l.length ∧ iv = .int .i64 i ∧ Hid (l.take i = m.take i) ∧ wr = w.drewN k) (fun iv _ => l.length - (intOf iv).toNat)
  case atStart => exact ⟨0, 0, Nat.zero_le _, rfl, Lib.hid rfl, rfl⟩
  case round =>
    obtain ⟨i, k, hi', rfl, HT, rfl⟩ := hrel
    by_cases hin : i < l.length
    · obtain ⟨x, hx⟩ : ∃ x, l[i]? = some x := ⟨_, List.getElem?_eq_getElem hin⟩
      obtain ⟨y, hy⟩ : ∃ y, m[i]? = some y := ⟨_, List.getElem?_eq_getElem (by rw [← HL.out]; exact hin)⟩
      obtain ⟨a1, o1, rfl, -, d0, d1, d2⟩ := HR1.out i x hx
      obtain ⟨a3, o3, rfl, -, d3, d4, d5⟩ := HR2.out i y hy
      have g1 : (i : Int) < (l.length : Int) := by omega
      have g3 : (i : Int) < (m.length : Int) := by rw [← HL.out]; exact g1
      have g2 : 0 ≤ (i : Int) := by omega
      have HX := Lib.hid hx
      have HY := Lib.hid hy
      clear hx hy
      have hneq := holdNeq x y
      have HXY : Hid (decide (x = y) = true → x = y) := Lib.hid of_decide_eq_true
      have HNE : Hid (decide (x = y) = false → ¬ x = y) := Lib.hid of_decide_eq_false
      generalize decide (x = y) = eb at hneq HXY HNE
      cases eb
      · have HN := Lib.hid (HD.out i x y HX.out HY.out (HNE.out rfl))
        go_upto_region 6 with fail
        go_quiet (fail)
        go_wp2
        go_ret
        exact ⟨by rw [HN.out]; rfl, below_drew' (Below.refl _ _) _⟩
      · have HN := Lib.hid (take_nextH HX.out (by rw [HXY.out rfl]; exact HY.out) HT.out)
        go_upto_region 6 with fail
        go_quiet (fail)
        go_wp2
        go_roundw
        case rel => exact ⟨i + 1, k + nq, by omega, by go_num, HN, by simp [World.drewN]⟩
        case measure => simp [intOf] <;> omega
    · obtain rfl : i = l.length := by omega
      have HN := Lib.hid (HT0.out HT.out)
      go_wp2
      go_ret
      exact ⟨by rw [HN.out]; rfl, below_drew' (Below.refl _ _) _⟩
set_option maxRecDepth 100000 in
set_option maxHeartbeats 4000000 in
theorem ringsSame_any (hi : Nat) (vc vs vc' vs' : Value) (r q : RingD) (w : World) (h1 : rd .i64 hi w vc r.2.2.1) (h2 : rd .i64 hi w vs r.2.2.2) (h3 : rd .i64 hi w vc' q.2.2.1) (h4 : rd .i64 hi w vs' q.2.2.2) (hh : hi ≤ w.heap.size) (hc : r.2.2.1.length ≤ 1048576) (hs : r.2.2.2.length ≤ 1048576) :
    Calls Try.prog 37 #[.agg #[.int .i64 r.1, .int .i64 r.2.1, vc, vs], .agg #[.int .i64 q.1, .int .i64 q.2.1, vc', vs']] w fun e w' => e = .returned (.bool (decide (r = q))) ∧ Below w.heap.size w w' := by
  obtain ⟨sp, hd, cs, ss⟩ := r
  obtain ⟨sp', hd', cs', ss'⟩ := q
  simp only at h1 h2 h3 h4 hc hs ⊢
  obtain ⟨A1, c1, rfl, -⟩ := h1.form
  obtain ⟨A2, c2, rfl, -⟩ := h2.form
  obtain ⟨A3, c3, rfl, -⟩ := h3.form
  obtain ⟨A4, c4, rfl, -⟩ := h4.form
  have HQ1 := Lib.hid (fun V (hV : Below w.heap.size w V) => equalInts_any hi _ _ cs cs' V hc (h1.below hV hh) (h3.below hV hh) (Nat.le_trans hh hV.size))
  have HQ2 := Lib.hid (fun V (hV : Below w.heap.size w V) => equalInts_any hi _ _ ss ss' V hs (h2.below hV hh) (h4.below hV hh) (Nat.le_trans hh hV.size))
  have HE : Hid (decide ((sp, hd, cs, ss) = (sp', hd', cs', ss')) = (decide (sp = sp') && (decide (hd = hd') && (decide (cs = cs') && decide (ss = ss'))))) := Lib.hid (by simp only [Prod.mk.injEq, Bool.decide_and])
  clear h1 h2 h3 h4
  generalize decide ((sp, hd, cs, ss) = (sp', hd', cs', ss')) = res at HE ⊢
  generalize decide (cs = cs') = t3 at HE HQ1
  generalize decide (ss = ss') = t4 at HE HQ2
  go_enter Try.func37, Try.ntmps37
  go_upto_region 1 with fail
  obtain ⟨W, hW⟩ : ∃ W, W = (w.alloc (.cells #[.int .i64 sp, .int .i64 hd, .slice A1 cs.length c1, .slice A2 ss.length c2] 38)).alloc (.cells #[.int .i64 sp', .int .i64 hd', .slice A3 cs'.length c3, .slice A4 ss'.length c4] 38) := ⟨_, rfl⟩
  have b0 : bk W w.heap.size 38 [.int .i64 sp, .int .i64 hd, .slice A1 cs.length c1, .slice A2 ss.length c2] := by rw [hW]; exact (bk.new w _ _).alloc _
  have b1 : bk W (w.heap.size + 1) 38 [.int .i64 sp', .int .i64 hd', .slice A3 cs'.length c3, .slice A4 ss'.length c4] := by rw [hW]; simpa using bk.new (w.alloc _) 38 [.int .i64 sp', .int .i64 hd', .slice A3 cs'.length c3, .slice A4 ss'.length c4]
  have HB : Hid (Below w.heap.size w W) := Lib.hid (by rw [hW]; exact ((Below.refl _ _).alloc (Nat.le_refl _) _).alloc (by simp) _)
  have y0 : w.heap.size + 2 ≤ W.heap.size := by rw [hW]; simp
  rw [← hW]
  clear hW

  obtain ⟨⟨p0, p1, p2, p3⟩, -⟩ := b0.cells
  obtain ⟨⟨q0, q1, q2, q3⟩, -⟩ := b1.cells
  by_cases e1 : sp = sp'
  rotate_left
  · have n1 : (sp == sp') = false := by simpa using e1
    have HN := Lib.hid (HE.out.trans (show _ = false by rw [decide_eq_false e1]; rfl))
    clear e1
    go_wp2
    go_ret
    exact ⟨by rw [HN.out]; rfl, HB.out⟩
  subst e1
  by_cases e2 : hd = hd'
  rotate_left
  · have n1 : (hd == hd') = false := by simpa using e2
    have HN := Lib.hid (HE.out.trans (show _ = false by rw [decide_eq_false e2]; simp))
    clear e2
    go_wp2
    go_ret
    exact ⟨by rw [HN.out]; rfl, HB.out⟩
  subst e2
  have HN : Hid (res = (t3 && t4)) := Lib.hid (HE.out.trans (by simp))
  clear HE
  have B0 := Lib.hid b0
  have B1 := Lib.hid b1
  clear b0 b1
  go_wp2_with fail
  refine (HQ1.out W HB.out).mono ?_
  rintro e w2 ⟨rfl, hb2⟩
  have z2 := hb2.size
  have HB2 : Hid (Below w.heap.size w w2) := Lib.hid (HB.out.trans (hb2.mono (by omega)))
  have HC0 := Lib.hid (B0.out.below hb2 (by omega))
  have HC1 := Lib.hid (B1.out.below hb2 (by omega))
  clear hb2 p0 p1 p2 p3 q0 q1 q2 q3
  cases t3
  · go_wp2
    go_ret
    exact ⟨by rw [HN.out]; rfl, HB2.out⟩
  obtain ⟨⟨p0, p1, p2, p3⟩, -⟩ := HC0.out.cells
  obtain ⟨⟨q0, q1, q2, q3⟩, -⟩ := HC1.out.cells
  go_wp2_with fail
  refine (HQ2.out w2 HB2.out).mono ?_
  rintro e w4 ⟨rfl, hb4⟩
  have HB4 : Hid (Below w.heap.size w w4) := Lib.hid (HB2.out.trans (hb4.mono (by omega)))
  clear hb4
  go_wp2
  go_ret
  exact ⟨by rw [HN.out]; rfl, HB4.out⟩
set_option maxRecDepth 100000 in
theorem amtUnder : Try.prog.underlying 60 = some (.struct (Try.prog.fieldsOf 60)) := by kernel_rfl
set_option maxRecDepth 100000 in
theorem amtFields : (Try.prog.fieldsOf 60).toList.map (fun f => (f.type, f.offset, decide (f.name ≠ "_"))) = [(3, 0, true), (3, 1, true), (3, 2, true), (3, 3, true)] := by kernel_rfl
set_option maxRecDepth 100000 in
theorem amtEql (a b c d a' b' c' d' : Int) (w : World) : (binOp .eql 60 (.agg #[.int .i64 a, .int .i64 b, .int .i64 c, .int .i64 d]) (.agg #[.int .i64 a', .int .i64 b', .int .i64 c', .int .i64 d'])).run Try.prog w = .ok (.bool (decide (a = a') && (decide (b = b') && (decide (c = c') && decide (d = d'))))) w := by
  have hs : Try.prog.stoodInHeld 60 = false := by kernel_rfl
  rw [run_eql_struct, run_equalIn_struct w 9999 _ _ _ amtUnder hs]
  have hf := amtFields
  generalize (Try.prog.fieldsOf 60).toList = fs at hf
  have hl : fs.length = 4 := by simpa using congrArg List.length hf
  match fs, hl, hf with
  | [f, g, h, k], _, hf =>
    simp only [List.map_cons, List.map_nil, List.cons.injEq, Prod.mk.injEq, and_true, decide_eq_true_eq] at hf
    obtain ⟨⟨f1, f2, f3⟩, ⟨g1, g2, g3⟩, ⟨h1, h2, h3⟩, k1, k2, k3⟩ := hf
    have p1 : ∀ u v x y : Value, (Go.part 3 #[u, v, x, y] 0).run Try.prog w = .ok u w := fun u v x y => by kernel_rfl
    have p2 : ∀ u v x y : Value, (Go.part 3 #[u, v, x, y] 1).run Try.prog w = .ok v w := fun u v x y => by kernel_rfl
    have p3 : ∀ u v x y : Value, (Go.part 3 #[u, v, x, y] 2).run Try.prog w = .ok x w := fun u v x y => by kernel_rfl
    have p4 : ∀ u v x y : Value, (Go.part 3 #[u, v, x, y] 3).run Try.prog w = .ok y w := fun u v x y => by kernel_rfl
    have s2 := fun a b => run_equalIn_int (P := Try.prog) w 9998 3 .i64 .i64 a b Try.underlying3
    simp only [Op.eqFields, f1, f2, f3, g1, g2, g3, h1, h2, h3, k1, k2, k3, if_true, Sem.run_bind, Sem.run_ite, Sem.run_pure, p1, p2, p3, p4, s2, Result.andThen_ok, ne_eq, not_false_eq_true]
    have q : ∀ x y : Int, (x == y) = decide (x = y) := fun x y => by by_cases h : x = y <;> simp [h]
    simp only [q]
    cases decide (a = a') <;> cases decide (b = b') <;> cases decide (c = c') <;> cases decide (d = d') <;> simp
set_option maxRecDepth 100000 in
set_option maxHeartbeats 8000000 in
theorem implSame_any (hi : Nat) (id : ByteArray) (lim pos most sum : Int) (hs : List HoldD) (sp hd : Int) (cs ss : List Int) (sl : List SlotD) (id' : ByteArray) (lim' pos' most' sum' : Int) (hs' : List HoldD) (sp' hd' : Int) (cs' ss' : List Int) (sl' : List SlotD) (vh vc vs vl vh' vc' vs' vl' : Value) (w : World) (z1 : hs.length ≤ 1048576) (z2 : cs.length ≤ 1048576) (z3 : ss.length ≤ 1048576) (z4 : sl.length ≤ 1048576) (r1 : HoldsR.rd hi w [vh] hs) (r2 : rd .i64 hi w vc cs) (r3 : rd .i64 hi w vs ss) (r4 : SlotsR.rd hi w [vl] sl) (r1b : HoldsR.rd hi w [vh'] hs') (r2b : rd .i64 hi w vc' cs') (r3b : rd .i64 hi w vs' ss') (r4b : SlotsR.rd hi w [vl'] sl') (hh : hi ≤ w.heap.size) :
    Calls Try.prog 26 #[.agg #[.int .i64 lim, .int .i64 pos, .int .i64 most, .int .i64 sum, .string id, vh, .int .i64 sp, .int .i64 hd, vc, vs, vl], .agg #[.int .i64 lim', .int .i64 pos', .int .i64 most', .int .i64 sum', .string id', vh', .int .i64 sp', .int .i64 hd', vc', vs', vl']] w fun e w' => e = .returned (.bool (acctSame (id, lim, pos, most, sum, hs, (sp, hd, cs, ss), sl) (id', lim', pos', most', sum', hs', (sp', hd', cs', ss'), sl'))) ∧ Below w.heap.size w w' := by
  have HEQ : Hid (acctSame (id, lim, pos, most, sum, hs, (sp, hd, cs, ss), sl) (id', lim', pos', most', sum', hs', (sp', hd', cs', ss'), sl') = (decide (id = id') && ((decide (lim = lim') && (decide (pos = pos') && (decide (most = most') && decide (sum = sum')))) && (decide (hs = hs') && (decide ((sp, hd, cs, ss) = (sp', hd', cs', ss')) && slotsSame sl sl'))))) := Lib.hid (by simp only [acctSame, Bool.and_assoc])
  obtain ⟨AH, cH, rfl, -⟩ := Rep.slice_form r1
  obtain ⟨AC, cC, rfl, -⟩ := r2.form
  obtain ⟨AS, cS, rfl, -⟩ := r3.form
  obtain ⟨AL, cL, rfl, -⟩ := Rep.slice_form r4
  obtain ⟨AH', cH', rfl, -⟩ := Rep.slice_form r1b
  obtain ⟨AC', cC', rfl, -⟩ := r2b.form
  obtain ⟨AS', cS', rfl, -⟩ := r3b.form
  obtain ⟨AL', cL', rfl, -⟩ := Rep.slice_form r4b
  have HQ0 := Lib.hid (fun W (hW : Below w.heap.size w W) => equalHolds_any hi _ _ hs hs' W z1 (Rep.below (R := HoldsR) r1 hW hh) (Rep.below (R := HoldsR) r1b hW hh) (Nat.le_trans hh hW.size))
  have HQ1 := Lib.hid (fun W (hW : Below w.heap.size w W) => ringsSame_any hi _ _ _ _ (sp, hd, cs, ss) (sp', hd', cs', ss') W (r2.below hW hh) (r3.below hW hh) (r2b.below hW hh) (r3b.below hW hh) (Nat.le_trans hh hW.size) z2 z3)
  have HQ2 := Lib.hid (fun W (hW : Below w.heap.size w W) => implSlotsSame_any hi _ _ sl sl' W z4 (Rep.below (R := SlotsR) r4 hW hh) (Rep.below (R := SlotsR) r4b hW hh) (Nat.le_trans hh hW.size))
  have hamt := amtEql lim pos most sum lim' pos' most' sum'
  clear r1 r2 r3 r4 r1b r2b r3b r4b z1 z2 z3 z4
  generalize acctSame (id, lim, pos, most, sum, hs, (sp, hd, cs, ss), sl) (id', lim', pos', most', sum', hs', (sp', hd', cs', ss'), sl') = am at HEQ ⊢
  generalize (decide (lim = lim') && (decide (pos = pos') && (decide (most = most') && decide (sum = sum')))) = bm at HEQ hamt
  generalize decide (hs = hs') = hm at HEQ HQ0
  generalize decide ((sp, hd, cs, ss) = (sp', hd', cs', ss')) = rm at HEQ HQ1
  generalize slotsSame sl sl' = sm at HEQ HQ2
  go_enter Try.func26, Try.ntmps26
  go_upto_region 1 with fail
  obtain ⟨W, hW⟩ : ∃ W, W = (w.alloc (.cells #[.int .i64 lim, .int .i64 pos, .int .i64 most, .int .i64 sum, .string id, .slice AH hs.length cH, .int .i64 sp, .int .i64 hd, .slice AC cs.length cC, .slice AS ss.length cS, .slice AL sl.length cL] 62)).alloc (.cells #[.int .i64 lim', .int .i64 pos', .int .i64 most', .int .i64 sum', .string id', .slice AH' hs'.length cH', .int .i64 sp', .int .i64 hd', .slice AC' cs'.length cC', .slice AS' ss'.length cS', .slice AL' sl'.length cL'] 62) := ⟨_, rfl⟩
  have b0 : bk W w.heap.size 62 [.int .i64 lim, .int .i64 pos, .int .i64 most, .int .i64 sum, .string id, .slice AH hs.length cH, .int .i64 sp, .int .i64 hd, .slice AC cs.length cC, .slice AS ss.length cS, .slice AL sl.length cL] := by rw [hW]; exact (bk.new w _ _).alloc _
  have b1 : bk W (w.heap.size + 1) 62 [.int .i64 lim', .int .i64 pos', .int .i64 most', .int .i64 sum', .string id', .slice AH' hs'.length cH', .int .i64 sp', .int .i64 hd', .slice AC' cs'.length cC', .slice AS' ss'.length cS', .slice AL' sl'.length cL'] := by rw [hW]; simpa using bk.new (w.alloc _) 62 [.int .i64 lim', .int .i64 pos', .int .i64 most', .int .i64 sum', .string id', .slice AH' hs'.length cH', .int .i64 sp', .int .i64 hd', .slice AC' cs'.length cC', .slice AS' ss'.length cS', .slice AL' sl'.length cL']
  have HB : Hid (Below w.heap.size w W) := Lib.hid (by rw [hW]; exact ((Below.refl _ _).alloc (Nat.le_refl _) _).alloc (by simp) _)
  have y0 : w.heap.size + 2 ≤ W.heap.size := by rw [hW]; simp
  rw [← hW]
  clear hW

  obtain ⟨⟨p0, p1, p2, p3, p4, p5, p6, p7, p8, p9, p10⟩, -⟩ := b0.eleven
  obtain ⟨⟨q0, q1, q2, q3, q4, q5, q6, q7, q8, q9, q10⟩, -⟩ := b1.eleven
  have B0 := Lib.hid b0
  have B1 := Lib.hid b1
  clear b0 b1
  by_cases e0 : id = id'
  rotate_left
  · have n2 : (id.toList == id'.toList) = false := by simpa using fun e => e0 (str_eq_list.1 e)
    have HN := Lib.hid (HEQ.out.trans (show _ = false by rw [decide_eq_false e0]; rfl))
    clear e0
    go_wp2
    go_ret
    exact ⟨by rw [HN.out]; rfl, HB.out⟩
  subst e0
  have HN : Hid (am = (bm && (hm && (rm && sm)))) := Lib.hid (HEQ.out.trans (by simp))
  clear HEQ
  cases bm
  · go_wp2
    go_ret
    exact ⟨by rw [HN.out]; rfl, HB.out⟩
  go_wp2_with fail
  refine (HQ0.out W HB.out).mono ?_
  rintro e w2 ⟨rfl, hb2⟩
  have z2 := hb2.size
  have HB2 : Hid (Below w.heap.size w w2) := Lib.hid (HB.out.trans (hb2.mono (by omega)))
  have HC0 := Lib.hid (B0.out.below hb2 (by omega))
  have HC1 := Lib.hid (B1.out.below hb2 (by omega))
  clear hb2 p0 p1 p2 p3 p4 p5 p6 p7 p8 p9 p10 q0 q1 q2 q3 q4 q5 q6 q7 q8 q9 q10
  cases hm
  · go_wp2
    go_ret
    exact ⟨by rw [HN.out]; rfl, HB2.out⟩
  obtain ⟨⟨p0, p1, p2, p3, p4, p5, p6, p7, p8, p9, p10⟩, -⟩ := HC0.out.eleven
  obtain ⟨⟨q0, q1, q2, q3, q4, q5, q6, q7, q8, q9, q10⟩, -⟩ := HC1.out.eleven
  go_wp2_with fail
  refine (HQ1.out w2 HB2.out).mono ?_
  rintro e w3 ⟨rfl, hb3⟩
  have z3 := hb3.size
  have HB3 : Hid (Below w.heap.size w w3) := Lib.hid (HB2.out.trans (hb3.mono (by omega)))
  have HD0 := Lib.hid (HC0.out.below hb3 (by omega))
  have HD1 := Lib.hid (HC1.out.below hb3 (by omega))
  clear hb3 p0 p1 p2 p3 p4 p5 p6 p7 p8 p9 p10 q0 q1 q2 q3 q4 q5 q6 q7 q8 q9 q10
  cases rm
  · go_wp2
    go_ret
    exact ⟨by rw [HN.out]; rfl, HB3.out⟩
  obtain ⟨⟨p0, p1, p2, p3, p4, p5, p6, p7, p8, p9, p10⟩, -⟩ := HD0.out.eleven
  obtain ⟨⟨q0, q1, q2, q3, q4, q5, q6, q7, q8, q9, q10⟩, -⟩ := HD1.out.eleven
  go_wp2_with fail
  refine (HQ2.out w3 HB3.out).mono ?_
  rintro e w4 ⟨rfl, hb4⟩
  have HB4 : Hid (Below w.heap.size w w4) := Lib.hid (HB3.out.trans (hb4.mono (by omega)))
  clear hb4
  go_wp2
  go_ret
  exact ⟨by rw [HN.out]; rfl, HB4.out⟩
set_option maxRecDepth 100000 in
set_option maxHeartbeats 8000000 in
theorem implAcctSame_any (hi : Nat) (vh vc vs vl vh' vc' vs' vl' : Value) (a b : AcctD) (w : World) (hz : acctSmall 1048576 a) (h1 : AcctR.rd hi w (aCells a vh vc vs vl) a) (h2 : AcctR.rd hi w (aCells b vh' vc' vs' vl') b) (hh : hi ≤ w.heap.size) :
    Calls Try.prog 19 #[.agg #[.string (aId a), .int .i64 (aLim a), .int .i64 (aPos a), .int .i64 (aMost a), .int .i64 (aSum a), vh, .int .i64 (aR a).1, .int .i64 (aR a).2.1, vc, vs, vl], .agg #[.string (aId b), .int .i64 (aLim b), .int .i64 (aPos b), .int .i64 (aMost b), .int .i64 (aSum b), vh', .int .i64 (aR b).1, .int .i64 (aR b).2.1, vc', vs', vl']] w fun e w' => e = .returned (.bool (acctSame a b)) ∧ Below w.heap.size w w' := by
  obtain ⟨vh0, vc0, vs0, vl0, hcs, r1, r2, r3, r4⟩ := acct_rd h1
  simp only [aCells, List.cons.injEq, and_true, true_and] at hcs
  obtain ⟨rfl, rfl, rfl, rfl⟩ := hcs
  clear h1
  obtain ⟨vh0, vc0, vs0, vl0, hcs, r1b, r2b, r3b, r4b⟩ := acct_rd h2
  simp only [aCells, List.cons.injEq, and_true, true_and] at hcs
  obtain ⟨rfl, rfl, rfl, rfl⟩ := hcs
  clear h2
  obtain ⟨z1, z2, z3, z4, z5⟩ := hz
  obtain ⟨id, lim, pos, most, sum, hs, ⟨sp, hd, cs, ss⟩, sl⟩ := a
  obtain ⟨id', lim', pos', most', sum', hs', ⟨sp', hd', cs', ss'⟩, sl'⟩ := b
  simp only [aId, aLim, aPos, aMost, aSum, aH, aS] at r1 r2 r3 r4 r1b r2b r3b r4b z1 z2 z3 z4 z5 ⊢
  have HQ := Lib.hid (fun W (hW : Below w.heap.size w W) => implSame_any hi id lim pos most sum hs sp hd cs ss sl id' lim' pos' most' sum' hs' sp' hd' cs' ss' sl' vh vc vs vl vh' vc' vs' vl' W z1 z2 z3 z4 (Rep.below (R := HoldsR) r1 hW hh) (r2.below hW hh) (r3.below hW hh) (Rep.below (R := SlotsR) r4 hW hh) (Rep.below (R := HoldsR) r1b hW hh) (r2b.below hW hh) (r3b.below hW hh) (Rep.below (R := SlotsR) r4b hW hh) (Nat.le_trans hh hW.size))
  obtain ⟨AH, cH, rfl, -⟩ := Rep.slice_form r1
  obtain ⟨AC, cC, rfl, -⟩ := r2.form
  obtain ⟨AS, cS, rfl, -⟩ := r3.form
  obtain ⟨AL, cL, rfl, -⟩ := Rep.slice_form r4
  obtain ⟨AH', cH', rfl, -⟩ := Rep.slice_form r1b
  obtain ⟨AC', cC', rfl, -⟩ := r2b.form
  obtain ⟨AS', cS', rfl, -⟩ := r3b.form
  obtain ⟨AL', cL', rfl, -⟩ := Rep.slice_form r4b
  have HA := Lib.hid (fun V => implAccountOf_any id lim pos most sum AH hs.length cH sp hd AC cs.length cC AS ss.length cS AL sl.length cL V)
  have HA2 := Lib.hid (fun V => implAccountOf_any id' lim' pos' most' sum' AH' hs'.length cH' sp' hd' AC' cs'.length cC' AS' ss'.length cS' AL' sl'.length cL' V)
  clear r1 r2 r3 r4 r1b r2b r3b r4b z1 z2 z3 z4 z5
  generalize acctSame (id, lim, pos, most, sum, hs, (sp, hd, cs, ss), sl) (id', lim', pos', most', sum', hs', (sp', hd', cs', ss'), sl') = am at HQ ⊢
  go_enter Try.func19, Try.ntmps19
  go_upto_region 1 with fail
  obtain ⟨W, hW⟩ : ∃ W, W = (w.alloc (.cells #[.string id, .int .i64 lim, .int .i64 pos, .int .i64 most, .int .i64 sum, .slice AH hs.length cH, .int .i64 sp, .int .i64 hd, .slice AC cs.length cC, .slice AS ss.length cS, .slice AL sl.length cL] 41)).alloc (.cells #[.string id', .int .i64 lim', .int .i64 pos', .int .i64 most', .int .i64 sum', .slice AH' hs'.length cH', .int .i64 sp', .int .i64 hd', .slice AC' cs'.length cC', .slice AS' ss'.length cS', .slice AL' sl'.length cL'] 41) := ⟨_, rfl⟩
  have b0 : bk W w.heap.size 41 [.string id, .int .i64 lim, .int .i64 pos, .int .i64 most, .int .i64 sum, .slice AH hs.length cH, .int .i64 sp, .int .i64 hd, .slice AC cs.length cC, .slice AS ss.length cS, .slice AL sl.length cL] := by rw [hW]; exact (bk.new w _ _).alloc _
  have b1 : bk W (w.heap.size + 1) 41 [.string id', .int .i64 lim', .int .i64 pos', .int .i64 most', .int .i64 sum', .slice AH' hs'.length cH', .int .i64 sp', .int .i64 hd', .slice AC' cs'.length cC', .slice AS' ss'.length cS', .slice AL' sl'.length cL'] := by rw [hW]; simpa using bk.new (w.alloc _) 41 [.string id', .int .i64 lim', .int .i64 pos', .int .i64 most', .int .i64 sum', .slice AH' hs'.length cH', .int .i64 sp', .int .i64 hd', .slice AC' cs'.length cC', .slice AS' ss'.length cS', .slice AL' sl'.length cL']
  have HB : Hid (Below w.heap.size w W) := Lib.hid (by rw [hW]; exact ((Below.refl _ _).alloc (Nat.le_refl _) _).alloc (by simp) _)
  have y0 : w.heap.size + 2 ≤ W.heap.size := by rw [hW]; simp
  rw [← hW]
  clear hW

  obtain ⟨⟨p0, p1, p2, p3, p4, p5, p6, p7, p8, p9, p10⟩, -⟩ := b0.eleven
  obtain ⟨⟨q0, q1, q2, q3, q4, q5, q6, q7, q8, q9, q10⟩, -⟩ := b1.eleven
  have P0 := Lib.hid p0
  have P1 := Lib.hid p1
  have P2 := Lib.hid p2
  have P3 := Lib.hid p3
  have P4 := Lib.hid p4
  have P5 := Lib.hid p5
  have P6 := Lib.hid p6
  have P7 := Lib.hid p7
  have P8 := Lib.hid p8
  have P9 := Lib.hid p9
  have P10 := Lib.hid p10
  have Q0 := Lib.hid q0
  have Q1 := Lib.hid q1
  have Q2 := Lib.hid q2
  have Q3 := Lib.hid q3
  have Q4 := Lib.hid q4
  have Q5 := Lib.hid q5
  have Q6 := Lib.hid q6
  have Q7 := Lib.hid q7
  have Q8 := Lib.hid q8
  have Q9 := Lib.hid q9
  have Q10 := Lib.hid q10
  clear b0 b1 p0 p1 p2 p3 p4 p5 p6 p7 p8 p9 p10 q0 q1 q2 q3 q4 q5 q6 q7 q8 q9 q10
  have HBX : Hid (∀ V, Ext W V → Below w.heap.size w V) := Lib.hid fun V hV => HB.out.trans (hV.below.mono (by omega))
  have HX : Hid (Ext W W.drew) := Lib.hid (Ext.refl W).drew
  refine quiet_region (C := Ext W) (by kernel_rfl) (by kernel_rfl) HX.out ?_
  repeat (first
    | go_big_quiet_skip
    | (go_big_quiet_want; go_big_quiet_op; go_big_quiet_on)
    | (go_big_quiet_want; go_big_quiet_op; apply Exists.intro; refine ⟨fun _ _ => rfl, ?_⟩; go_big_quiet_on)
    | (go_big_quiet_want
       apply Exists.intro
       refine ⟨fun V hV => ?_, ?_⟩
       (have l0 := hV.cell P0.out (by omega)
        have l1 := hV.cell P1.out (by omega)
        have l2 := hV.cell P2.out (by omega)
        have l3 := hV.cell P3.out (by omega)
        have l4 := hV.cell P4.out (by omega)
        have l5 := hV.cell P5.out (by omega)
        have l6 := hV.cell P6.out (by omega)
        have l7 := hV.cell P7.out (by omega)
        have l8 := hV.cell P8.out (by omega)
        have l9 := hV.cell P9.out (by omega)
        have l10 := hV.cell P10.out (by omega)
        unfold Oper.quietAt
        go_simp
        rfl)
       simp only [Act.put, List.setIfInBounds_toArray, List.set_cons_zero, List.set_cons_succ]
       go_big_quiet_on)
    | (go_big_quiet_want
       apply Exists.intro
       refine ⟨fun V hV => ?_, ?_⟩
       (have l0 := hV.cell Q0.out (by omega)
        have l1 := hV.cell Q1.out (by omega)
        have l2 := hV.cell Q2.out (by omega)
        have l3 := hV.cell Q3.out (by omega)
        have l4 := hV.cell Q4.out (by omega)
        have l5 := hV.cell Q5.out (by omega)
        have l6 := hV.cell Q6.out (by omega)
        have l7 := hV.cell Q7.out (by omega)
        have l8 := hV.cell Q8.out (by omega)
        have l9 := hV.cell Q9.out (by omega)
        have l10 := hV.cell Q10.out (by omega)
        unfold Oper.quietAt
        go_simp
        rfl)
       simp only [Act.put, List.setIfInBounds_toArray, List.set_cons_zero, List.set_cons_succ]
       go_big_quiet_on)
    | (go_big_quiet_want
       apply Exists.intro
       refine ⟨fun V hV => ?_, ?_⟩
       (unfold Oper.quietAt
        go_simp
        go_at_call 25
        (with_reducible refine (HA.out V).mono ?_)
        rintro e w4 ⟨rfl, hb4⟩
        exact ⟨rfl, hV.step hb4⟩)
       simp only [Act.put, List.setIfInBounds_toArray, List.set_cons_zero, List.set_cons_succ]
       go_big_quiet_on)
    | (go_big_quiet_want
       apply Exists.intro
       refine ⟨fun V hV => ?_, ?_⟩
       (unfold Oper.quietAt
        go_simp
        go_at_call 25
        (with_reducible refine (HA2.out V).mono ?_)
        rintro e w4 ⟨rfl, hb4⟩
        exact ⟨rfl, hV.step hb4⟩)
       simp only [Act.put, List.setIfInBounds_toArray, List.set_cons_zero, List.set_cons_succ]
       go_big_quiet_on)
    | (go_big_quiet_want
       apply Exists.intro
       refine ⟨fun V hV => ?_, ?_⟩
       (unfold Oper.quietAt
        go_simp
        go_at_call 26
        (with_reducible refine (HQ.out V (HBX.out V hV)).mono ?_)
        rintro e w4 ⟨rfl, hb4⟩
        exact ⟨rfl, hV.step hb4⟩)
       simp only [Act.put, List.setIfInBounds_toArray, List.set_cons_zero, List.set_cons_succ]
       go_big_quiet_on)
    | fail)
  refine wpQuiet_nil ?_
  intro W4 hW4
  go_wp2
  go_ret
  exact ⟨rfl, HBX.out W4 hW4⟩
end Go.Proofs.Ythnimmagaocipaa
set_option linter.unusedVariables false
namespace Go.Proofs.Ythnimmagaocipaa
open Go.ChangeShapes Go.WideShapes Go.ChangeAt Go.RowKit

set_option maxRecDepth 100000 in
set_option maxHeartbeats 16000000 in
theorem equalAccts_any (hi : Nat) (va vb : Value) (a b : BookD) (w : World) (hs : bookSmall 1048576 a) (h1 : AcctsR.rd hi w [va] a) (h2 : AcctsR.rd hi w [vb] b) (hh : hi ≤ w.heap.size) :
    Calls Try.prog 18 #[va, vb, .func (.func 19) #[] #[]] w fun e w' => e = .returned (.bool (bookSame a b)) ∧ Below w.heap.size w w' := by
  obtain ⟨A1, c1, rfl, -, h1⟩ := accts_rd h1
  obtain ⟨A2, c2, rfl, -, h2⟩ := accts_rd h2
  obtain ⟨hn, hs⟩ := hs
  have eg := Go.Proofs.enters_of Try.func19 (by kernel_rfl) rfl
  have H1 := Lib.hid h1
  have H2 := Lib.hid h2
  have HS := Lib.hid hs
  clear h1 h2 hs
  by_cases hl : a.length = b.length
  · have HL := Lib.hid hl
    have hne : ((a.length : Int) != (b.length : Int)) = false := by simp [hl]
    clear hl
    go_enter Try.func18, Try.ntmps18
    go_wp2
    go_loopw [17] (fun iv wr => ∃ i : Nat, i ≤ a.length ∧ iv = .int .i64 i ∧ Hid (∀ (j : Nat) (x y : AcctD), j < i → a[j]? = some x → b[j]? = some y → acctSame x y = true) ∧ Hid (Below w.heap.size w wr) ∧ w.heap.size ≤ wr.heap.size) (fun iv _ => a.length - (intOf iv).toNat)
    case atStart => exact ⟨0, Nat.zero_le _, rfl, Lib.hid fun j x y hj => absurd hj (by omega), Lib.hid (Below.refl _ _), Nat.le_refl _⟩
    case round =>
      obtain ⟨i, hi', rfl, HN, HB, hz⟩ := hrel
      by_cases hin : i < a.length
      · obtain ⟨x, hx⟩ : ∃ x, a[i]? = some x := ⟨_, List.getElem?_eq_getElem hin⟩
        obtain ⟨y, hy⟩ : ∃ y, b[i]? = some y := ⟨_, List.getElem?_eq_getElem (by rw [← HL.out]; exact hin)⟩
        obtain ⟨b1, o1, AH, cH, AC, cC, AS, cS, AL, cL, rfl, hb1, x1, r1⟩ := H1.out i x hx
        obtain ⟨b2, o2, BH, dH, BC, dC, BS, dS, BL, dL, rfl, hb2, x2, r2⟩ := H2.out i y hy
        have HSM := Lib.hid (fun V (hV : Below wr.heap.size wr V) => implAcctSame_any hi _ _ _ _ _ _ _ _ x y V (HS.out x (List.mem_of_getElem? hx)) (Rep.below (R := AcctR) r1 (HB.out.trans (hV.mono (by omega))) hh) (Rep.below (R := AcctR) r2 (HB.out.trans (hV.mono (by omega))) hh) (by have := hV.size; omega))
        have HN2 : Hid (acctSame x y = true → ∀ (j : Nat) (x y : AcctD), j < i + 1 → a[j]? = some x → b[j]? = some y → acctSame x y = true) := Lib.hid fun he j x' y' hj hx' hy' => by
          by_cases e : j = i
          · subst e
            rw [hx] at hx'
            rw [hy] at hy'
            cases hx'
            cases hy'
            exact he
          · exact HN.out j x' y' (by omega) hx' hy'
        have HF := Lib.hid (fun he => bsame_not hx hy he)
        have HX2 := Lib.hid (fun V (hV : Below w.heap.size w V) => (x2.below hV (show b2 < w.heap.size by omega)).eleven)
        obtain ⟨d0, d1, d2, d3, d4, d5, d6, d7, d8, d9, d10⟩ := (x1.below HB.out (show b1 < w.heap.size by omega)).eleven
        have g1 : (i : Int) < (a.length : Int) := by omega
        have g2 : 0 ≤ (i : Int) := by omega
        have g3 : (i : Int) < (b.length : Int) := by rw [← HL.out]; exact g1
        clear hx hy x1 x2 r1 r2
        generalize acctSame x y = eq at HSM HN2 HF
        go_upto_region 6 with fail
        obtain ⟨W3, hW3⟩ : ∃ W3, W3 = wr.alloc (.cells #[.string (aId x), .int .i64 (aLim x), .int .i64 (aPos x), .int .i64 (aMost x), .int .i64 (aSum x), .slice AH (aH x).length cH, .int .i64 (aR x).1, .int .i64 (aR x).2.1, .slice AC (aR x).2.2.1.length cC, .slice AS (aR x).2.2.2.length cS, .slice AL (aS x).length cL] 41) := ⟨_, rfl⟩
        have b3 : bk W3 wr.heap.size 41 [.string (aId x), .int .i64 (aLim x), .int .i64 (aPos x), .int .i64 (aMost x), .int .i64 (aSum x), .slice AH (aH x).length cH, .int .i64 (aR x).1, .int .i64 (aR x).2.1, .slice AC (aR x).2.2.1.length cC, .slice AS (aR x).2.2.2.length cS, .slice AL (aS x).length cL] := by rw [hW3]; exact bk.new wr _ _
        have hb3 : Below wr.heap.size wr W3 := by rw [hW3]; exact (Below.refl _ _).alloc (Nat.le_refl _) _
        rw [← hW3]
        clear hW3 d0 d1 d2 d3 d4 d5 d6 d7 d8 d9 d10
        have z3 := b3.lt
        obtain ⟨d0, d1, d2, d3, d4, d5, d6, d7, d8, d9, d10⟩ := HX2.out W3 (HB.out.trans (hb3.mono (by omega)))
        have HB3 : Hid (Below wr.heap.size wr W3) := Lib.hid hb3
        have B3 := Lib.hid b3
        clear b3 hb3
        go_upto_region 7 with fail
        obtain ⟨W4, hW4⟩ : ∃ W4, W4 = W3.alloc (.cells #[.string (aId y), .int .i64 (aLim y), .int .i64 (aPos y), .int .i64 (aMost y), .int .i64 (aSum y), .slice BH (aH y).length dH, .int .i64 (aR y).1, .int .i64 (aR y).2.1, .slice BC (aR y).2.2.1.length dC, .slice BS (aR y).2.2.2.length dS, .slice BL (aS y).length dL] 41) := ⟨_, rfl⟩
        have b4 : bk W4 W3.heap.size 41 [.string (aId y), .int .i64 (aLim y), .int .i64 (aPos y), .int .i64 (aMost y), .int .i64 (aSum y), .slice BH (aH y).length dH, .int .i64 (aR y).1, .int .i64 (aR y).2.1, .slice BC (aR y).2.2.1.length dC, .slice BS (aR y).2.2.2.length dS, .slice BL (aS y).length dL] := by rw [hW4]; exact bk.new W3 _ _
        have hb4 : Below W3.heap.size W3 W4 := by rw [hW4]; exact (Below.refl _ _).alloc (Nat.le_refl _) _
        rw [← hW4]
        clear hW4 d0 d1 d2 d3 d4 d5 d6 d7 d8 d9 d10
        have z4 := b4.lt
        obtain ⟨⟨p0, p1, p2, p3, p4, p5, p6, p7, p8, p9, p10⟩, -⟩ := (B3.out.below hb4 z3).eleven
        obtain ⟨⟨q0, q1, q2, q3, q4, q5, q6, q7, q8, q9, q10⟩, -⟩ := b4.eleven
        have HB4 : Hid (Below wr.heap.size wr W4) := Lib.hid (HB3.out.trans (hb4.mono (by omega)))
        clear hb4 b4
        go_wp2_with fail
        refine (HSM.out W4 HB4.out).mono ?_
        rintro e w5 ⟨rfl, hb5⟩
        have z5 := hb5.size
        have HB5 : Hid (Below w.heap.size w w5) := Lib.hid (HB.out.trans ((HB4.out.trans (hb5.mono (by omega))).mono (by omega)))
        clear hb5 p0 p1 p2 p3 p4 p5 p6 p7 p8 p9 p10 q0 q1 q2 q3 q4 q5 q6 q7 q8 q9 q10
        cases eq
        · have HV := Lib.hid (HF.out rfl)
          go_wp2
          go_ret
          exact ⟨ret_bool HV.out.symm, HB5.out⟩
        · have HN3 := Lib.hid (HN2.out rfl)
          go_wp2
          go_roundw
          case rel => exact ⟨i + 1, by omega, by go_num, HN3, HB5, by omega⟩
          case measure => simp [intOf] <;> omega
      · obtain rfl : i = a.length := by omega
        have HV : Hid (bookSame a b = true) := Lib.hid (bsame_all HL.out fun j x y hx hy => HN.out j x y (List.getElem?_eq_some_iff.1 hx).1 hx hy)
        go_wp2
        go_ret
        exact ⟨ret_bool HV.out.symm, HB.out⟩
  · have HV : Hid (bookSame a b = false) := Lib.hid (bsame_len hl)
    have hne : ((a.length : Int) != (b.length : Int)) = true := by simp; omega
    clear hl
    go_enter Try.func18, Try.ntmps18
    go_wp2
    go_ret
    exact ⟨ret_bool HV.out.symm, Below.refl _ _⟩
set_option maxRecDepth 100000 in
theorem implBookSame_any (hi : Nat) (va vb : Value) (a b : BookD) (w : World) (hs : bookSmall 1048576 a) (h1 : AcctsR.rd hi w [va] a) (h2 : AcctsR.rd hi w [vb] b) (hh : hi ≤ w.heap.size) :
    Calls Try.prog 11 #[.agg #[va], .agg #[vb]] w fun e w' => e = .returned (.bool (bookSame a b)) ∧ Below w.heap.size w w' := by
  obtain ⟨A1, c1, rfl, -⟩ := Rep.slice_form h1
  obtain ⟨A2, c2, rfl, -⟩ := Rep.slice_form h2
  have HC := Lib.hid (fun V (hV : Below w.heap.size w V) => equalAccts_any hi _ _ a b V hs (Rep.below (R := AcctsR) h1 hV hh) (Rep.below (R := AcctsR) h2 hV hh) (Nat.le_trans hh hV.size))
  have HB0 : Hid (∀ o o', Below w.heap.size w ((w.alloc o).alloc o')) := Lib.hid fun o o' => ((Below.refl _ _).alloc (Nat.le_refl _) _).alloc (by simp) _
  clear h1 h2 hs
  go_enter Try.func11, Try.ntmps11
  go_wp2_with fail
  refine (HC.out _ (HB0.out _ _)).mono ?_
  rintro e w2 ⟨rfl, hb⟩
  have HB2 : Hid (Below w.heap.size w w2) := Lib.hid ((HB0.out _ _).trans (hb.mono (by simp; omega)))
  clear hb
  go_wp2
  go_ret
  exact ⟨rfl, HB2.out⟩
end Go.Proofs.Ythnimmagaocipaa
