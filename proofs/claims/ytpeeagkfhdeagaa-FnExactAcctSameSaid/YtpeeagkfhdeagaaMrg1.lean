/- SlotsSame of the reference; no conditions. -/
import Derived.Test.YtpeeagkfhdeagaaSlotF
import Derived.BigQuiet
import Derived.Deep.DeepCutAuto
import Derived.Test.YtpeeagkfhdeagaaHold
import Derived.Test.YtpeeagkfhdeagaaHoldA
import Derived.Laws.StructEq
import Derived.Test.YtpeeagkfhdeagaaAcctE
import Derived.Test.YtpeeagkfhdeagaaRingSm
import Derived.Test.YtpeeagkfhdeagaaRingF
import Derived.Test.YtpeeagkfhdeagaaRingL
import Derived.Test.YtpeeagkfhdeagaaField
import Derived.Test.YtpeeagkfhdeagaaStrS
import Derived.Deep.RegionHeld3
import Derived.Test.YtpeeagkfhdeagaaBase
import Derived.Test.YtpeeagkfhdeagaaDigS
import Derived.DeepKeys4
import Derived.Maps.Own
import Derived.Maps.Views
import Derived.Maps.OwnOps
import Derived.Carry
import Derived.Test.YtpeeagkfhdeagaaMem
import Derived.Test.YtpeeagkfhdeagaaAcct
set_option linter.unusedVariables false
namespace Go.Proofs.Ytpeeagkfhdeagaa
open Go.ChangeShapes Go.WideShapes Go.ChangeAt Go.RowKit

def byteStr (l : List Int) : ByteArray := ⟨(l.map byteOf).toArray⟩
def noS : SlotD := (⟨#[]⟩, ⟨#[]⟩, [])
def slotEq (x y : SlotD) : Bool := decide (x.1 = y.1) && (decide (x.2.1 = y.2.1) && decide (byteStr x.2.2 = byteStr y.2.2))
def slotsSame (a b : List SlotD) : Bool := decide (a.length = b.length) && (List.range a.length).all fun j => slotEq (a.getD j noS) (b.getD j noS)
set_option maxRecDepth 100000 in
theorem same_len {a b : List SlotD} (h : a.length ≠ b.length) : slotsSame a b = false := by unfold slotsSame; rw [decide_eq_false h]; rfl
set_option maxRecDepth 100000 in
theorem same_not {a b : List SlotD} {i : Nat} {x y : SlotD} (hx : a[i]? = some x) (hy : b[i]? = some y) (h : slotEq x y = false) : slotsSame a b = false := by
  have hi := (List.getElem?_eq_some_iff.1 hx).1
  unfold slotsSame
  rw [Bool.and_eq_false_iff]
  refine .inr (List.all_eq_false.2 ⟨i, List.mem_range.2 hi, ?_⟩)
  rw [List.getD_eq_getElem?_getD, List.getD_eq_getElem?_getD, hx, hy]
  simpa using h
set_option maxRecDepth 100000 in
theorem same_all {a b : List SlotD} (hl : a.length = b.length) (h : ∀ (j : Nat) (x y : SlotD), a[j]? = some x → b[j]? = some y → slotEq x y = true) : slotsSame a b = true := by
  unfold slotsSame
  rw [decide_eq_true hl, Bool.true_and, List.all_eq_true]
  intro j hj
  have hj' := List.mem_range.1 hj
  refine h j _ _ (by rw [List.getD_eq_getElem?_getD, List.getElem?_eq_getElem hj']; rfl) (by rw [List.getD_eq_getElem?_getD, List.getElem?_eq_getElem (by omega : j < b.length)]; rfl)
set_option maxRecDepth 100000 in
set_option maxHeartbeats 6400000 in
theorem specSlotsSame_any (hi : Nat) (va vb : Value) (a b : List SlotD) (w : World) (hn : a.length ≤ 1048576) (h1 : SlotsR.rd hi w [va] a) (h2 : SlotsR.rd hi w [vb] b) (hh : hi ≤ w.heap.size) :
    Calls Try.prog 18 #[va, vb] w fun e w' => e = .returned (.bool (slotsSame a b)) ∧ Below w.heap.size w w' := by
  obtain ⟨A1, c1, rfl, -, h1⟩ := slots_rd h1
  obtain ⟨A2, c2, rfl, -, h2⟩ := slots_rd h2
  have H1 := Lib.hid h1
  have H2 := Lib.hid h2
  clear h1 h2
  by_cases hl : a.length = b.length
  · have HL := Lib.hid hl
    have hne : ((a.length : Int) != (b.length : Int)) = false := by simp [hl]
    clear hl
    go_enter Try.func18, Try.ntmps18
    go_wp2
    go_loopw [14] (fun iv wr => ∃ i : Nat, i ≤ a.length ∧ iv = .int .i64 i ∧ Hid (∀ (j : Nat) (x y : SlotD), j < i → a[j]? = some x → b[j]? = some y → slotEq x y = true) ∧ Hid (Below w.heap.size w wr) ∧ w.heap.size ≤ wr.heap.size) (fun iv _ => a.length - (intOf iv).toNat)
    case atStart => exact ⟨0, Nat.zero_le _, rfl, Lib.hid fun j x y hj => absurd hj (by omega), Lib.hid (Below.refl _ _), Nat.le_refl _⟩
    case round =>
      obtain ⟨i, hi', rfl, HN, HB, hz⟩ := hrel
      by_cases hin : i < a.length
      · obtain ⟨x, hx⟩ : ∃ x, a[i]? = some x := ⟨_, List.getElem?_eq_getElem hin⟩
        obtain ⟨y, hy⟩ : ∃ y, b[i]? = some y := ⟨_, List.getElem?_eq_getElem (by rw [← HL.out]; exact hin)⟩
        obtain ⟨b1, o1, B1, d1, rfl, hb1, x1, y1, v1, r1⟩ := H1.out i x hx
        obtain ⟨b2, o2, B2, d2, rfl, hb2, x2, y2, v2, r2⟩ := H2.out i y hy
        have x1 := (HB.out.cell (p := ⟨b1, _, none⟩) (show b1 < w.heap.size by omega)).trans x1
        have y1 := (HB.out.cell (p := ⟨b1, _, none⟩) (show b1 < w.heap.size by omega)).trans y1
        have v1 := (HB.out.cell (p := ⟨b1, _, none⟩) (show b1 < w.heap.size by omega)).trans v1
        have g1 : (i : Int) < (a.length : Int) := by omega
        have g2 : 0 ≤ (i : Int) := by omega
        have HX := Lib.hid hx
        have HY := Lib.hid hy
        have HR1 := Lib.hid r1
        have HR2 := Lib.hid r2
        have HC2 := Lib.hid (And.intro x2 (And.intro y2 v2))
        clear hx hy r1 r2 x2 y2 v2
        go_upto_region 6 with fail
        obtain ⟨W3, hW3⟩ : ∃ W3, W3 = wr.alloc (.cells #[.string x.1, .string x.2.1, .slice B1 x.2.2.length d1] 64) := ⟨_, rfl⟩
        have b3 : bk W3 wr.heap.size 64 [.string x.1, .string x.2.1, .slice B1 x.2.2.length d1] := by rw [hW3]; exact bk.new wr _ _
        have hb3 : Below wr.heap.size wr W3 := by rw [hW3]; exact (Below.refl _ _).alloc (Nat.le_refl _) _
        rw [← hW3]
        clear hW3 x1 y1 v1
        have z3 := b3.lt
        have HB3 : Hid (Below w.heap.size w W3) := Lib.hid (HB.out.trans (hb3.mono hz))
        have x2 := (HB3.out.cell (p := ⟨b2, _, none⟩) (show b2 < w.heap.size by omega)).trans HC2.out.1
        have y2 := (HB3.out.cell (p := ⟨b2, _, none⟩) (show b2 < w.heap.size by omega)).trans HC2.out.2.1
        have v2 := (HB3.out.cell (p := ⟨b2, _, none⟩) (show b2 < w.heap.size by omega)).trans HC2.out.2.2
        have g3 : (i : Int) < (b.length : Int) := by rw [← HL.out]; exact g1
        have hcv1 : ∀ n, (convert 61 9 (.slice B1 x.2.2.length d1)).run Try.prog (W3.drewN n) = .ok (.string (byteStr x.2.2)) (W3.drewN n) := fun n => str_of_rd (HR1.out.below (below_drew' HB3.out n) hh)
        have hcv2 : ∀ n, (convert 61 9 (.slice B2 y.2.2.length d2)).run Try.prog (W3.drewN n) = .ok (.string (byteStr y.2.2)) (W3.drewN n) := fun n => str_of_rd (HR2.out.below (below_drew' HB3.out n) hh)
        clear hb3 HB HC2
        obtain ⟨q0, q1, q2⟩ := b3.cells3
        clear b3
        have HEQ : Hid (slotEq x y = (decide (x.1 = y.1) && (decide (x.2.1 = y.2.1) && decide (byteStr x.2.2 = byteStr y.2.2)))) := Lib.hid rfl
        generalize byteStr x.2.2 = sx at hcv1 HEQ
        generalize byteStr y.2.2 = sy at hcv2 HEQ
        by_cases e1 : x.1 = y.1
        · have hel1 : x.1.toList = y.1.toList := by rw [e1]
          by_cases e2 : x.2.1 = y.2.1
          · have hel2 : x.2.1.toList = y.2.1.toList := by rw [e2]
            by_cases e3 : sx = sy
            · have hel3 : sx.toList = sy.toList := by rw [e3]
              have HN2 : Hid (∀ (j : Nat) (x y : SlotD), j < i + 1 → a[j]? = some x → b[j]? = some y → slotEq x y = true) := Lib.hid fun j x' y' hj hx' hy' => by
                by_cases e : j = i
                · subst e
                  obtain rfl : x' = x := Option.some.inj (hx'.symm.trans HX.out)
                  obtain rfl : y' = y := Option.some.inj (hy'.symm.trans HY.out)
                  rw [HEQ.out, decide_eq_true e1, decide_eq_true e2, decide_eq_true e3]; rfl
                · exact HN.out j x' y' (by omega) hx' hy'
              clear e1 e2 e3
              go_quiet (fail)
              go_wp2
              go_roundw
              case rel => exact ⟨i + 1, by omega, by go_num, HN2, Lib.hid (below_drew' HB3.out nq), Nat.le_trans hz (Nat.le_of_lt z3)⟩
              case measure => simp [intOf] <;> omega
            · have hel3 : ¬ sx.toList = sy.toList := fun e => e3 (str_eq_list.1 e)
              have hel4 : (sx.toList == sy.toList) = false := by simpa using hel3
              have HV := Lib.hid (same_not HX.out HY.out (by rw [HEQ.out, decide_eq_false e3, Bool.and_false, Bool.and_false]))
              clear e1 e2 e3
              go_quiet (fail)
              go_wp2
              go_ret
              exact ⟨by rw [HV.out]; rfl, below_drew' HB3.out nq⟩
          · have hel2 : ¬ x.2.1.toList = y.2.1.toList := fun e => e2 (str_eq_list.1 e)
            have hel3 : (x.2.1.toList == y.2.1.toList) = false := by simpa using hel2
            have HV := Lib.hid (same_not HX.out HY.out (by rw [HEQ.out, decide_eq_false e2, Bool.false_and, Bool.and_false]))
            clear e1 e2
            go_quiet (fail)
            go_wp2
            go_ret
            exact ⟨by rw [HV.out]; rfl, below_drew' HB3.out nq⟩
        · have hel1 : ¬ x.1.toList = y.1.toList := fun e => e1 (str_eq_list.1 e)
          have hel2 : (x.1.toList == y.1.toList) = false := by simpa using hel1
          have HV := Lib.hid (same_not HX.out HY.out (by rw [HEQ.out, decide_eq_false e1, Bool.false_and]))
          clear e1
          go_quiet (fail)
          go_wp2
          go_ret
          exact ⟨by rw [HV.out]; rfl, below_drew' HB3.out nq⟩
      · obtain rfl : i = a.length := by omega
        have HV : Hid (slotsSame a b = true) := Lib.hid (same_all HL.out fun j x y hx hy => HN.out j x y (List.getElem?_eq_some_iff.1 hx).1 hx hy)
        go_wp2
        go_ret
        exact ⟨by rw [HV.out]; rfl, HB.out⟩
  · have HV := Lib.hid (same_len hl)
    have hne : ((a.length : Int) != (b.length : Int)) = true := by simp; omega
    have hne2 : ¬ (a.length : Int) = (b.length : Int) := by omega
    clear hl
    go_enter Try.func18, Try.ntmps18
    go_wp2
    go_ret
    exact ⟨by rw [HV.out]; rfl, Below.refl _ _⟩
end Go.Proofs.Ytpeeagkfhdeagaa
/- Two holds compared as structs; no conditions. -/
set_option linter.unusedVariables false
namespace Go.Proofs.Ytpeeagkfhdeagaa
open Go.ChangeShapes Go.WideShapes Go.ChangeAt Go.RowKit

set_option maxRecDepth 100000 in
theorem hold_dec (x y : HoldD) : decide (x = y) = ((x.1.toList == y.1.toList) && ((x.2.1 == y.2.1) && (x.2.2 == y.2.2))) := by
  obtain ⟨a, b, c⟩ := x
  obtain ⟨d, e, f⟩ := y
  have h : (a.toList == d.toList) = decide (a = d) := by
    by_cases h : a = d
    · subst h; simp
    · have h' : ¬ a.toList = d.toList := fun e => h (str_eq_list.1 e)
      rw [decide_eq_false h]; simpa using h'
  rw [h]
  by_cases h1 : a = d <;> by_cases h2 : b = e <;> by_cases h3 : c = f <;> simp [h1, h2, h3]
set_option maxRecDepth 100000 in
theorem holdNeq (x y : HoldD) (w : World) : (binOp .neq 43 (.agg #[.string x.1, .int .i64 x.2.1, .int .i64 x.2.2]) (.agg #[.string y.1, .int .i64 y.2.1, .int .i64 y.2.2])).run Try.prog w = .ok (.bool (!decide (x = y))) w := by
  have hu : Try.prog.underlying 43 = some (.struct (Try.prog.fieldsOf 43)) := by kernel_rfl
  have hs : Try.prog.stoodInHeld 43 = false := by kernel_rfl
  rw [run_neq_struct, run_equalIn_struct w 9999 _ _ _ hu hs, hold_dec]
  have hf : (Try.prog.fieldsOf 43).toList.map (fun f => (f.type, f.offset, decide (f.name ≠ "_"))) = [(9, 0, true), (3, 1, true), (3, 2, true)] := by kernel_rfl
  generalize (Try.prog.fieldsOf 43).toList = fs at hf
  have hl : fs.length = 3 := by simpa using congrArg List.length hf
  match fs, hl, hf with
  | [f, g, h], _, hf =>
    simp only [List.map_cons, List.map_nil, List.cons.injEq, Prod.mk.injEq, and_true, decide_eq_true_eq] at hf
    obtain ⟨⟨f1, f2, f3⟩, ⟨g1, g2, g3⟩, h1, h2, h3⟩ := hf
    have p1 : ∀ u v z : Value, (Go.part 9 #[u, v, z] 0).run Try.prog w = .ok u w := fun u v z => by kernel_rfl
    have p2 : ∀ u v z : Value, (Go.part 3 #[u, v, z] 1).run Try.prog w = .ok v w := fun u v z => by kernel_rfl
    have p3 : ∀ u v z : Value, (Go.part 3 #[u, v, z] 2).run Try.prog w = .ok z w := fun u v z => by kernel_rfl
    have s1 := fun a b => run_equalIn_string (P := Try.prog) w 9998 9 a b Try.underlying9
    have s2 := fun a b => run_equalIn_int (P := Try.prog) w 9998 3 .i64 .i64 a b Try.underlying3
    simp only [Op.eqFields, f1, f2, f3, g1, g2, g3, h1, h2, h3, if_true, Sem.run_bind, Sem.run_ite, Sem.run_pure, p1, p2, p3, s1, s2, Result.andThen_ok, ne_eq, not_false_eq_true]
    cases (x.1.toList == y.1.toList) <;> cases (x.2.1 == y.2.1) <;> cases (x.2.2 == y.2.2) <;> simp
end Go.Proofs.Ytpeeagkfhdeagaa
/- AcctSame of the reference; no conditions. -/
set_option linter.unusedVariables false
namespace Go.Proofs.Ytpeeagkfhdeagaa
open Go.ChangeShapes Go.WideShapes Go.ChangeAt Go.RowKit

def acctSame (a b : AcctD) : Bool := decide (aId a = aId b) && (decide (aLim a = aLim b) && (decide (aPos a = aPos b) && (decide (aMost a = aMost b) && (decide (aSum a = aSum b) && (decide (aH a = aH b) && (decide (aR a = aR b) && slotsSame (aS a) (aS b)))))))
set_option maxRecDepth 100000 in
theorem take_nextH {l m : List HoldD} {i : Nat} {x : HoldD} (h1 : l[i]? = some x) (h2 : m[i]? = some x) (h : l.take i = m.take i) : l.take (i + 1) = m.take (i + 1) := by
  obtain ⟨a1, a2⟩ := List.getElem?_eq_some_iff.1 h1
  obtain ⟨b1, b2⟩ := List.getElem?_eq_some_iff.1 h2
  rw [List.take_succ_eq_append_getElem a1, List.take_succ_eq_append_getElem b1, h, a2, b2]
set_option maxRecDepth 100000 in
set_option maxHeartbeats 8000000 in
theorem specAcctSame_any (hi : Nat) (vh vc vs vl vh' vc' vs' vl' : Value) (a b : AcctD) (w : World) (hz : acctSmall 1048576 a) (h1 : AcctR.rd hi w (aCells a vh vc vs vl) a) (h2 : AcctR.rd hi w (aCells b vh' vc' vs' vl') b) (hh : hi ≤ w.heap.size) :
    Calls Try.prog 8 #[.agg #[.string (aId a), .int .i64 (aLim a), .int .i64 (aPos a), .int .i64 (aMost a), .int .i64 (aSum a), vh, .int .i64 (aR a).1, .int .i64 (aR a).2.1, vc, vs, vl], .agg #[.string (aId b), .int .i64 (aLim b), .int .i64 (aPos b), .int .i64 (aMost b), .int .i64 (aSum b), vh', .int .i64 (aR b).1, .int .i64 (aR b).2.1, vc', vs', vl']] w fun e w' => e = .returned (.bool (acctSame a b)) ∧ Below w.heap.size w w' := by
  obtain ⟨vh0, vc0, vs0, vl0, hcs, r1, r2, r3, r4⟩ := acct_rd h1
  simp only [aCells, List.cons.injEq, and_true, true_and] at hcs
  obtain ⟨rfl, rfl, rfl, rfl⟩ := hcs
  clear h1
  obtain ⟨vh0, vc0, vs0, vl0, hcs, r1b, r2b, r3b, r4b⟩ := acct_rd h2
  simp only [aCells, List.cons.injEq, and_true, true_and] at hcs
  obtain ⟨rfl, rfl, rfl, rfl⟩ := hcs
  clear h2
  obtain ⟨z1, z2, z3, z4, z5⟩ := hz
  obtain ⟨id, lim, pos, most, sum, hs, ⟨sp, hd, cs, ss⟩, sl⟩ := a
  obtain ⟨id', lim', pos', most', sum', hs', ⟨sp', hd', cs', ss'⟩, sl'⟩ := b
  have HEQ : Hid (acctSame (id, lim, pos, most, sum, hs, (sp, hd, cs, ss), sl) (id', lim', pos', most', sum', hs', (sp', hd', cs', ss'), sl') = (decide (id = id') && (decide (lim = lim') && (decide (pos = pos') && (decide (most = most') && (decide (sum = sum') && (decide (hs = hs') && (decide ((sp, hd, cs, ss) = (sp', hd', cs', ss')) && slotsSame sl sl')))))))) := Lib.hid rfl
  simp only [aId, aLim, aPos, aMost, aSum, aH, aS] at r1 r2 r3 r4 r1b r2b r3b r4b z1 z2 z3 z4 z5 ⊢
  obtain ⟨AH, cH, rfl, -⟩ := Rep.slice_form r1
  obtain ⟨AC, cC, rfl, -⟩ := r2.form
  obtain ⟨AS, cS, rfl, -⟩ := r3.form
  obtain ⟨AL, cL, rfl, -⟩ := Rep.slice_form r4
  obtain ⟨AH', cH', rfl, -⟩ := Rep.slice_form r1b
  obtain ⟨AC', cC', rfl, -⟩ := r2b.form
  obtain ⟨AS', cS', rfl, -⟩ := r3b.form
  obtain ⟨AL', cL', rfl, -⟩ := Rep.slice_form r4b
  have HQ1 := Lib.hid (fun W (hW : Below w.heap.size w W) => specRingSame_any hi _ _ _ _ (sp, hd, cs, ss) (sp', hd', cs', ss') W (r2.below hW hh) (r3.below hW hh) (r2b.below hW hh) (r3b.below hW hh) (Nat.le_trans hh hW.size) z2 z3)
  have HQ2 := Lib.hid (fun W (hW : Below w.heap.size w W) => specSlotsSame_any hi _ _ sl sl' W z4 (Rep.below (R := SlotsR) r4 hW hh) (Rep.below (R := SlotsR) r4b hW hh) (Nat.le_trans hh hW.size))
  obtain ⟨A0, c0, hv0, -, hr1⟩ := holds_rd r1
  simp only [Value.slice.injEq, true_and] at hv0
  obtain ⟨rfl, rfl⟩ := hv0
  obtain ⟨A0, c0, hv0, -, hr2⟩ := holds_rd r1b
  simp only [Value.slice.injEq, true_and] at hv0
  obtain ⟨rfl, rfl⟩ := hv0
  have HR1 := Lib.hid hr1
  have HR2 := Lib.hid hr2
  clear hr1 hr2 r1 r2 r3 r4 r1b r2b r3b r4b z5
  generalize slotsSame sl sl' = sm at HEQ HQ2
  generalize decide ((sp, hd, cs, ss) = (sp', hd', cs', ss')) = rm at HEQ HQ1
  generalize acctSame (id, lim, pos, most, sum, hs, (sp, hd, cs, ss), sl) (id', lim', pos', most', sum', hs', (sp', hd', cs', ss'), sl') = am at HEQ ⊢
  go_enter Try.func8, Try.ntmps8
  go_upto_region 1 with fail
  obtain ⟨W, hW⟩ : ∃ W, W = (w.alloc (.cells #[.string id, .int .i64 lim, .int .i64 pos, .int .i64 most, .int .i64 sum, .slice AH hs.length cH, .int .i64 sp, .int .i64 hd, .slice AC cs.length cC, .slice AS ss.length cS, .slice AL sl.length cL] 36)).alloc (.cells #[.string id', .int .i64 lim', .int .i64 pos', .int .i64 most', .int .i64 sum', .slice AH' hs'.length cH', .int .i64 sp', .int .i64 hd', .slice AC' cs'.length cC', .slice AS' ss'.length cS', .slice AL' sl'.length cL'] 36) := ⟨_, rfl⟩
  have b0 : bk W w.heap.size 36 [.string id, .int .i64 lim, .int .i64 pos, .int .i64 most, .int .i64 sum, .slice AH hs.length cH, .int .i64 sp, .int .i64 hd, .slice AC cs.length cC, .slice AS ss.length cS, .slice AL sl.length cL] := by rw [hW]; exact (bk.new w _ _).alloc _
  have b1 : bk W (w.heap.size + 1) 36 [.string id', .int .i64 lim', .int .i64 pos', .int .i64 most', .int .i64 sum', .slice AH' hs'.length cH', .int .i64 sp', .int .i64 hd', .slice AC' cs'.length cC', .slice AS' ss'.length cS', .slice AL' sl'.length cL'] := by rw [hW]; simpa using bk.new (w.alloc _) 36 [.string id', .int .i64 lim', .int .i64 pos', .int .i64 most', .int .i64 sum', .slice AH' hs'.length cH', .int .i64 sp', .int .i64 hd', .slice AC' cs'.length cC', .slice AS' ss'.length cS', .slice AL' sl'.length cL']
  have HB : Hid (Below w.heap.size w W) := Lib.hid (by rw [hW]; exact ((Below.refl _ _).alloc (Nat.le_refl _) _).alloc (by simp) _)
  have y0 : w.heap.size + 2 ≤ W.heap.size := by rw [hW]; simp
  rw [← hW]
  clear hW
  obtain ⟨⟨p0, p1, p2, p3, p4, p5, p6, p7, p8, p9, p10⟩, -⟩ := b0.eleven
  obtain ⟨⟨q0, q1, q2, q3, q4, q5, q6, q7, q8, q9, q10⟩, -⟩ := b1.eleven
  have B0 := Lib.hid b0
  have B1 := Lib.hid b1
  clear b0 b1
  by_cases e0 : id = id'
  rotate_left
  · have n1 : ¬ id.toList = id'.toList := fun e => e0 (str_eq_list.1 e)
    have n2 : (id.toList == id'.toList) = false := by simpa using n1
    have HN := Lib.hid (HEQ.out.trans (show _ = false by rw [decide_eq_false e0]; simp))
    clear e0
    go_wp2
    go_ret
    exact ⟨by rw [HN.out]; rfl, HB.out⟩
  subst e0
  by_cases e0 : lim = lim'
  rotate_left
  · have n1 : (lim != lim') = true := by simpa using e0
    have HN := Lib.hid (HEQ.out.trans (show _ = false by rw [decide_eq_false e0]; simp))
    clear e0
    go_wp2
    go_ret
    exact ⟨by rw [HN.out]; rfl, HB.out⟩
  subst e0
  by_cases e0 : pos = pos'
  rotate_left
  · have n1 : (pos != pos') = true := by simpa using e0
    have HN := Lib.hid (HEQ.out.trans (show _ = false by rw [decide_eq_false e0]; simp))
    clear e0
    go_wp2
    go_ret
    exact ⟨by rw [HN.out]; rfl, HB.out⟩
  subst e0
  by_cases e0 : most = most'
  rotate_left
  · have n1 : (most != most') = true := by simpa using e0
    have HN := Lib.hid (HEQ.out.trans (show _ = false by rw [decide_eq_false e0]; simp))
    clear e0
    go_wp2
    go_ret
    exact ⟨by rw [HN.out]; rfl, HB.out⟩
  subst e0
  by_cases e0 : sum = sum'
  rotate_left
  · have n1 : (sum != sum') = true := by simpa using e0
    have HN := Lib.hid (HEQ.out.trans (show _ = false by rw [decide_eq_false e0]; simp))
    clear e0
    go_wp2
    go_ret
    exact ⟨by rw [HN.out]; rfl, HB.out⟩
  subst e0
  by_cases e0 : hs.length = hs'.length
  rotate_left
  · have n1 : ((hs.length : Int) != (hs'.length : Int)) = true := by simp; omega
    have HN := Lib.hid (HEQ.out.trans (show _ = false by rw [decide_eq_false (fun e => e0 (by rw [e])) (p := hs = hs')]; simp))
    clear e0
    go_wp2
    go_ret
    exact ⟨by rw [HN.out]; rfl, HB.out⟩
  have n3 : ((hs.length : Int) != (hs'.length : Int)) = false := by simp; omega
  have E3 := Lib.hid e0
  clear e0
  go_wp2
  clear n3 p0 p1 p2 p3 p4 p5 p6 p7 p8 p9 p10 q0 q1 q2 q3 q4 q5 q6 q7 q8 q9 q10
  go_loopw [52] (fun iv wr => ∃ i : Nat, i ≤ hs.length ∧ iv = .int .i64 i ∧ Hid (hs.take i = hs'.take i) ∧ Hid (Below W.heap.size W wr)) (fun iv _ => hs.length - (intOf iv).toNat)
  case atStart => exact ⟨0, Nat.zero_le _, rfl, Lib.hid rfl, Lib.hid (Below.refl _ _)⟩
  case round =>
    obtain ⟨i, hi', rfl, HT, HBR⟩ := hrel
    have HBW : Hid (Below w.heap.size w wr) := Lib.hid (HB.out.trans (HBR.out.mono (by omega)))
    obtain ⟨⟨p0, p1, p2, p3, p4, p5, p6, p7, p8, p9, p10⟩, -⟩ := (B0.out.below HBR.out (by omega)).eleven
    obtain ⟨⟨q0, q1, q2, q3, q4, q5, q6, q7, q8, q9, q10⟩, -⟩ := (B1.out.below HBR.out (by omega)).eleven
    by_cases hin : i < hs.length
    · obtain ⟨x, hx⟩ : ∃ x, hs[i]? = some x := ⟨_, List.getElem?_eq_getElem hin⟩
      obtain ⟨y, hy⟩ : ∃ y, hs'[i]? = some y := ⟨_, List.getElem?_eq_getElem (by rw [← E3.out]; exact hin)⟩
      obtain ⟨a1, o1, rfl, hl1, d0, d1, d2⟩ := HR1.out i x hx
      obtain ⟨a2, o2, rfl, hl2, d3, d4, d5⟩ := HR2.out i y hy
      have d0 := (HBW.out.cell (p := ⟨a1, _, none⟩) (show a1 < w.heap.size by omega)).trans d0
      have d1 := (HBW.out.cell (p := ⟨a1, _, none⟩) (show a1 < w.heap.size by omega)).trans d1
      have d2 := (HBW.out.cell (p := ⟨a1, _, none⟩) (show a1 < w.heap.size by omega)).trans d2
      have d3 := (HBW.out.cell (p := ⟨a2, _, none⟩) (show a2 < w.heap.size by omega)).trans d3
      have d4 := (HBW.out.cell (p := ⟨a2, _, none⟩) (show a2 < w.heap.size by omega)).trans d4
      have d5 := (HBW.out.cell (p := ⟨a2, _, none⟩) (show a2 < w.heap.size by omega)).trans d5
      have g1 : (i : Int) < (hs.length : Int) := by omega
      have g3 : (i : Int) < (hs'.length : Int) := by rw [← E3.out]; exact g1
      have g2 : 0 ≤ (i : Int) := by omega
      have HX := Lib.hid hx
      have HY := Lib.hid hy
      clear hx hy
      go_upto_region 6 with fail
      obtain ⟨W3, hW3⟩ : ∃ W3, W3 = wr.alloc (.cells #[.string x.1, .int .i64 x.2.1, .int .i64 x.2.2] 43) := ⟨_, rfl⟩
      have b3 : bk W3 wr.heap.size 43 [.string x.1, .int .i64 x.2.1, .int .i64 x.2.2] := by rw [hW3]; exact bk.new wr _ _
      have hb3 : Below wr.heap.size wr W3 := by rw [hW3]; exact (Below.refl _ _).alloc (Nat.le_refl _) _
      rw [← hW3]
      clear hW3
      have z0 := HBR.out.size
      have z3 := b3.lt
      have q5' := (hb3.cell (p := ⟨w.heap.size + 1, 5, none⟩) (show w.heap.size + 1 < wr.heap.size by omega)).trans q5
      have hla : a2 < wr.heap.size := by have := HBW.out.size; omega
      have d3 := (hb3.cell (p := ⟨a2, _, none⟩) hla).trans d3
      have d4 := (hb3.cell (p := ⟨a2, _, none⟩) hla).trans d4
      have d5 := (hb3.cell (p := ⟨a2, _, none⟩) hla).trans d5
      have HBR3 : Hid (Below W.heap.size W W3) := Lib.hid (HBR.out.trans (hb3.mono z0))
      obtain ⟨m0, m1, m2⟩ := b3.cells3
      have hneq := holdNeq x y
      clear hb3 b3 d0 d1 d2 p0 p1 p2 p3 p4 p5 p6 p7 p8 p9 p10 q0 q1 q2 q3 q4 q5 q6 q7 q8 q9 q10
      have HXY : Hid (decide (x = y) = true → x = y) := Lib.hid of_decide_eq_true
      have HNE : Hid (decide (x = y) = false → ¬ x = y) := Lib.hid of_decide_eq_false
      generalize decide (x = y) = eb at hneq HXY HNE
      go_cut [63] (fun cv wx => cv = .bool (!eb) ∧ ∃ n, wx = W3.drewN n)
      case first =>
        go_quiet (fail)
        go_wp2
        go_meet
        exact ⟨rfl, nq, rfl⟩
      case rest =>
        obtain ⟨rfl, n, rfl⟩ := hcut
        cases eb
        · have hxy := HNE.out (by trivial)
          have HN := Lib.hid (HEQ.out.trans (show _ = false by
            rw [decide_eq_false (p := hs = hs') (fun e => by
              have h5 := HX.out
              rw [e, HY.out] at h5
              exact hxy (Option.some.inj h5).symm)]
            simp))
          clear hxy hneq
          go_wp2
          go_ret
          exact ⟨by rw [HN.out]; rfl, HB.out.trans ((below_drew' HBR3.out n).mono (by omega))⟩
        · have hxy := HXY.out (by trivial)
          have HN := Lib.hid (take_nextH HX.out (by rw [hxy]; exact HY.out) HT.out)
          clear hxy hneq
          go_wp2
          go_roundw
          case rel => exact ⟨i + 1, by omega, by go_num, HN, Lib.hid (below_drew' HBR3.out n)⟩
          case measure => simp [intOf] <;> omega
    · obtain rfl : i = hs.length := by omega
      have HHS : Hid (hs = hs') := Lib.hid (by have := HT.out; rwa [List.take_length, E3.out, List.take_length] at this)
      have HN : Hid (am = (rm && sm)) := Lib.hid (by rw [HEQ.out, decide_eq_true HHS.out]; simp)
      clear HT
      go_wp2_with fail
      refine (HQ1.out wr HBW.out).mono ?_
      rintro e w2 ⟨rfl, hb2⟩
      have z2 := hb2.size
      have z0 := HBR.out.size
      have HB2 : Hid (Below w.heap.size w w2) := Lib.hid (HBW.out.trans (hb2.mono (by omega)))
      have HC0 := Lib.hid ((B0.out.below HBR.out (by omega)).below hb2 (by omega))
      have HC1 := Lib.hid ((B1.out.below HBR.out (by omega)).below hb2 (by omega))
      clear hb2 p0 p1 p2 p3 p4 p5 p6 p7 p8 p9 p10 q0 q1 q2 q3 q4 q5 q6 q7 q8 q9 q10
      cases rm
      · go_wp2
        go_ret
        exact ⟨by rw [HN.out]; rfl, HB2.out⟩
      obtain ⟨⟨p0, p1, p2, p3, p4, p5, p6, p7, p8, p9, p10⟩, -⟩ := HC0.out.eleven
      obtain ⟨⟨q0, q1, q2, q3, q4, q5, q6, q7, q8, q9, q10⟩, -⟩ := HC1.out.eleven
      go_wp2_with fail
      refine (HQ2.out w2 HB2.out).mono ?_
      rintro e w4 ⟨rfl, hb4⟩
      have HB4 : Hid (Below w.heap.size w w4) := Lib.hid (HB2.out.trans (hb4.mono (by omega)))
      clear hb4
      go_wp2
      go_ret
      exact ⟨by rw [HN.out]; rfl, HB4.out⟩
end Go.Proofs.Ytpeeagkfhdeagaa
/- The reference's copy of a slice of slots; no conditions. -/
set_option linter.unusedVariables false
namespace Go.Proofs.Ytpeeagkfhdeagaa
open Go.ChangeShapes Go.WideShapes Go.ChangeAt Go.RowKit

/-- a slot with the slice that its reply lies in -/
abbrev SlotV := SlotD × (Option Addr × Nat)
def sv (x : SlotV) : Value := .slice x.2.1 x.1.2.2.length x.2.2
def sCells (x : SlotV) : List Value := [.string x.1.1, .string x.1.2.1, .slice x.2.1 x.1.2.2.length x.2.2]
/-- the replies' memory: one after the other, none of it the row's -/
structure replies (w : World) (row : Option Nat) (B : Nat) (ps : List SlotV) (p q : Nat → Nat) : Prop where
  own : ∀ j x, ps[j]? = some x → nums .u8 (p j) (q j) w (sv x) x.1.2.2
  ord : ∀ i j, i < j → j < ps.length → q i ≤ p j
  in_ : ∀ j, j < ps.length → B ≤ p j ∧ q j ≤ w.heap.size
  row : ∀ j, j < ps.length → ∀ g, row = some g → g < p j ∨ q j ≤ g
set_option maxRecDepth 100000 in
theorem replies.nil (w : World) (row : Option Nat) (B : Nat) : replies w row B [] (fun _ => 0) (fun _ => 0) := ⟨fun j x h => by simp at h, fun i j _ h => by simp at h, fun j h => by simp at h, fun j h => by simp at h⟩
set_option maxRecDepth 100000 in
theorem replies.below {w w' : World} {row : Option Nat} {B : Nat} {ps : List SlotV} {p q : Nat → Nat} (h : replies w row B ps p q) (hb : Below w.heap.size w w') : replies w' row B ps p q :=
  ⟨fun j x hx => (h.own j x hx).below hb (h.in_ j (List.getElem?_eq_some_iff.1 hx).1).2, h.ord, fun j hj => ⟨(h.in_ j hj).1, Nat.le_trans (h.in_ j hj).2 hb.size⟩, h.row⟩
set_option maxRecDepth 100000 in
theorem replies.grown {w w' : World} {row row' : Option Nat} {B : Nat} {ps : List SlotV} {p q : Nat → Nat} (h : replies w row B ps p q) (hg : w.grownBy w' row) (hr : row' = row ∨ ∃ g, row' = some g ∧ w.heap.size ≤ g) : replies w' row' B ps p q := by
  refine ⟨fun j x hx => ?_, h.ord, fun j hj => ⟨(h.in_ j hj).1, Nat.le_trans (h.in_ j hj).2 hg.size⟩, fun j hj g hg' => ?_⟩
  · have hj := (List.getElem?_eq_some_iff.1 hx).1
    refine (h.own j x hx).apart hg (h.in_ j hj).2 fun b hb e => ?_
    have h1 := (h.own j x hx).blk b hb
    have h2 := h.row j hj b e
    omega
  · rcases hr with hr | ⟨g', hr, hg2⟩
    · exact h.row j hj g (by rw [← hr]; exact hg')
    · rw [hr] at hg'
      cases hg'
      have := (h.in_ j hj).2
      exact .inr (by omega)
set_option maxRecDepth 100000 in
theorem replies.snoc {w : World} {row : Option Nat} {B P Q : Nat} {ps : List SlotV} {p q : Nat → Nat} {x : SlotV} (h : replies w row B ps p q) (hx : nums .u8 P Q w (sv x) x.1.2.2) (h1 : ∀ j, j < ps.length → q j ≤ P) (h2 : B ≤ P) (h3 : Q ≤ w.heap.size) (h4 : ∀ g, row = some g → g < P ∨ Q ≤ g) :
    replies w row B (ps ++ [x]) (fun j => if j = ps.length then P else p j) (fun j => if j = ps.length then Q else q j) := by
  have hlen : (ps ++ [x]).length = ps.length + 1 := by simp
  refine ⟨fun j y hy => ?_, fun i j hij hj => ?_, fun j hj => ?_, fun j hj g hg => ?_⟩
  · by_cases e : j = ps.length
    · subst e
      simp only [if_true]
      have : y = x := by simpa using hy.symm
      subst this
      exact hx
    · have hj : j < ps.length := by have := (List.getElem?_eq_some_iff.1 hy).1; rw [hlen] at this; omega
      rw [List.getElem?_append_left hj] at hy
      show nums .u8 (if j = ps.length then P else p j) (if j = ps.length then Q else q j) w (sv y) y.1.2.2
      rw [if_neg e, if_neg e]
      exact h.own j y hy
  · rw [hlen] at hj
    show (if i = ps.length then Q else q i) ≤ (if j = ps.length then P else p j)
    rw [if_neg (by omega)]
    by_cases e : j = ps.length
    · rw [if_pos e]; exact h1 i (by omega)
    · rw [if_neg e]; exact h.ord i j hij (by omega)
  · rw [hlen] at hj
    show B ≤ (if j = ps.length then P else p j) ∧ (if j = ps.length then Q else q j) ≤ w.heap.size
    by_cases e : j = ps.length
    · rw [if_pos e, if_pos e]; exact ⟨h2, h3⟩
    · rw [if_neg e, if_neg e]; exact h.in_ j (by omega)
  · rw [hlen] at hj
    show g < (if j = ps.length then P else p j) ∨ (if j = ps.length then Q else q j) ≤ g
    by_cases e : j = ps.length
    · rw [if_pos e, if_pos e]; exact h4 g hg
    · rw [if_neg e, if_neg e]; exact h.row j (by omega) g hg
set_option maxRecDepth 100000 in
/-- such a row is slots of one's own -/
theorem replies.slots {w : World} {T : TypeId} {B : Nat} {v : Value} {ps : List SlotV} {p q : Nat → Nat} (ho : owE T 3 sCells B w v ps) (h : replies w v.ownBlock B ps p q) : SlotsR.mine B w.heap.size w [v] (ps.map (·.1)) := by
  have hl : (ps.map (·.1)).length = ps.length := List.length_map ..
  rcases ho.filled (fun _ => rfl) ((⟨#[]⟩, ⟨#[]⟩, []), (none, 0)) with ⟨rfl, A, c, rfl⟩ | ⟨b, c, rfl, hc, h1, h2, hf⟩
  · exact ⟨[], ⟨A, c, rfl, Nat.zero_le _, .inl ⟨rfl, rfl⟩⟩, List.nodup_nil, by simp⟩
  · cases hps : ps with
    | nil => exact ⟨[], ⟨_, c, rfl, Nat.zero_le _, .inl ⟨rfl, rfl⟩⟩, List.nodup_nil, by simp⟩
    | cons y ys =>
      rw [← hps]
      have hne : 0 < ps.length := by rw [hps]; simp
      have hob : (Value.slice (some ⟨b, 0, none⟩) ps.length c).ownBlock = some b := rfl
      refine rows_mine2 (R := SlotR) (p := p) (q := q) hl.symm hc h1 h2 h.ord (fun j hj => h.row j hj b hob) (fun j hj => h.in_ j hj) hf fun j x hx => ?_
      rw [List.getElem?_map] at hx
      obtain ⟨z, hz, rfl⟩ := Option.map_eq_some_iff.1 hx
      have hg : ps.getD j ((⟨#[]⟩, ⟨#[]⟩, []), (none, 0)) = z := by rw [List.getD_eq_getElem?_getD, hz]; rfl
      rw [hg]
      exact slot_mine_of (h.own j z hz)
set_option maxRecDepth 100000 in
theorem sCells_one (x : SlotV) : ∀ u ∈ sCells x, u.oneCell' = true := by
  intro u hu
  simp only [sCells, List.mem_cons, List.not_mem_nil, or_false] at hu
  rcases hu with rfl | rfl | rfl <;> rfl
/-- slots of one's own, in a row that may be appended to -/
def slotsOwn (l : List SlotD) (w : World) (e : Ending) (w' : World) : Prop := ∃ (A : Option Addr) (c : Nat) (ps : List SlotV) (p q : Nat → Nat), e = .returned (.slice A ps.length c) ∧ ps.map (·.1) = l ∧ owE 64 3 sCells w.heap.size w' (.slice A ps.length c) ps ∧ replies w' (Value.slice A ps.length c).ownBlock w.heap.size ps p q ∧ Below w.heap.size w w'
def slotsOne (l : List SlotD) (w : World) (e : Ending) (w' : World) : Prop := ∃ u, e = .returned u ∧ SlotsR.mine w.heap.size w'.heap.size w' [u] l ∧ Below w.heap.size w w'
end Go.Proofs.Ytpeeagkfhdeagaa
/- Slots in memory of one's own, cell by cell; no conditions. -/
set_option linter.unusedVariables false
namespace Go.Proofs.Ytpeeagkfhdeagaa
open Go.ChangeShapes Go.WideShapes Go.ChangeAt Go.RowKit

set_option maxRecDepth 100000 in
theorem nums_own {K : IntKind} {lo hi : Nat} {w : World} {v : Value} {l : List Int} (h : nums K lo hi w v l) : (Rep.int K).slice.own w [v] l (Proofs.Ytpeeagkfhdeagaa.blk v).toList := by
  obtain ⟨A, c, rfl, hc, hj⟩ := h
  cases l with
  | nil => exact ⟨A, c, rfl, hc, .inl ⟨rfl, by cases A <;> rfl⟩⟩
  | cons y l =>
    obtain ⟨b, off, rfl, h1, h2, -, -⟩ := hj 0 (by simp)
    have hfl : List.flatten ((y :: l).map fun _ => ([] : List Nat)) = [] := by simp
    refine ⟨_, c, rfl, hc, .inr ⟨b, off, (y :: l).map fun _ => [], rfl, by rw [hfl]; rfl, by simp, fun j x G hx hG => ?_⟩⟩
    have hjl := (List.getElem?_eq_some_iff.1 hx).1
    have hG' : G = [] := by rw [List.getElem?_map, hx] at hG; simpa using hG.symm
    subst hG'
    obtain ⟨b', off', e, -, -, h3, h4⟩ := hj j hjl
    simp only [Option.some.injEq, Addr.mk.injEq, and_true] at e
    obtain ⟨rfl, rfl⟩ := e
    rw [List.getD_eq_getElem?_getD, hx] at h3
    have hk : off + j * (Rep.int K).k = off + j := by show off + j * 1 = _; rw [Nat.mul_one]
    refine ⟨[.int K x], ⟨rfl, rfl⟩, atL_one.2 (by rw [hk]; exact h3), fun t ht => ?_⟩
    have ht0 : t = 0 := by have : t < 1 := ht; omega
    subst ht0
    rw [hk]; exact h4
set_option maxRecDepth 100000 in
theorem own_nums {K : IntKind} {lo hi : Nat} {w : World} {cs : List Value} {l : List Int} {F : List Nat} (h : (Rep.int K).slice.own w cs l F) (hF : ∀ b ∈ F, lo ≤ b ∧ b < hi) : ∃ v, cs = [v] ∧ nums K lo hi w v l ∧ ∀ b, Proofs.Ytpeeagkfhdeagaa.blk v = some b → b ∈ F := by
  obtain ⟨A, c, rfl, hc, h⟩ := h
  refine ⟨_, rfl, ⟨A, c, rfl, hc, fun j hl => ?_⟩, fun b hb => ?_⟩
  · rcases h with ⟨rfl, _⟩ | ⟨b, off, Fs, rfl, rfl, hFl, h⟩
    · simp at hl
    · obtain ⟨xs, hx, h2, h3⟩ := h j _ _ (List.getElem?_eq_getElem hl) (List.getElem?_eq_getElem (by omega : j < Fs.length))
      have hx' : xs = [.int K l[j]] := hx.1
      subst hx'
      have hk : off + j * (Rep.int K).k = off + j := by show off + j * 1 = _; rw [Nat.mul_one]
      have hb := hF b (List.mem_cons_self ..)
      have h4 := h3 0 (by show 0 < 1; decide)
      have h5 := atL_one.1 h2
      rw [hk] at h4 h5
      refine ⟨b, off, rfl, hb.1, hb.2, ?_, h4⟩
      rw [h5, List.getD_eq_getElem?_getD, List.getElem?_eq_getElem hl]
      rfl
  · rcases h with ⟨rfl, _⟩ | ⟨b', off, Fs, rfl, rfl, hFl, h⟩
    · cases A <;> simp [Proofs.Ytpeeagkfhdeagaa.blk] at hb
    · cases l with
      | nil => simp [Proofs.Ytpeeagkfhdeagaa.blk] at hb
      | cons y l =>
        simp only [List.length_cons, Proofs.Ytpeeagkfhdeagaa.blk, Option.some.injEq] at hb
        subst hb
        exact List.mem_cons_self ..
set_option maxRecDepth 100000 in
theorem slot_own {lo hi : Nat} {w : World} {cs : List Value} {x : SlotD} {F : List Nat} (h : SlotR.own w cs x F) (hF : ∀ b ∈ F, lo ≤ b ∧ b < hi) : ∃ A c, cs = sCells (x, (A, c)) ∧ nums .u8 lo hi w (sv (x, (A, c))) x.2.2 ∧ ∀ b, Proofs.Ytpeeagkfhdeagaa.blk (sv (x, (A, c))) = some b → b ∈ F := by
  obtain ⟨a, b, G, H, rfl, rfl, ⟨h1, rfl⟩, c, d, I, J, rfl, rfl, ⟨h2, rfl⟩, h3⟩ := h
  have h1' : a = [.string x.1] := h1
  have h2' : c = [.string x.2.1] := h2
  subst h1' h2'
  simp only [List.nil_append] at hF
  obtain ⟨u, rfl, hu, hm⟩ := own_nums (lo := lo) (hi := hi) h3 hF
  obtain ⟨A, c, rfl, -⟩ := hu.form
  exact ⟨A, c, rfl, hu, hm⟩
set_option maxRecDepth 100000 in
theorem slot_own_of {lo hi : Nat} {w : World} {x : SlotV} (h : nums .u8 lo hi w (sv x) x.1.2.2) : SlotR.own w (sCells x) x.1 (Proofs.Ytpeeagkfhdeagaa.blk (sv x)).toList :=
  ⟨[_], [_, _], [], _, rfl, rfl, ⟨rfl, rfl⟩, [_], [_], [], _, rfl, rfl, ⟨rfl, rfl⟩, nums_own h⟩
/-- slots of one's own: the row's block, and each reply in a block of its own -/
structure SlotsM (lo hi : Nat) (w : World) (b off : Nat) (ps : List SlotV) : Prop where
  bnd : lo ≤ b ∧ b < hi
  cells : ∀ (j : Nat) (x : SlotV), ps[j]? = some x → atL w b (off + j * 3) (sCells x)
  free : ∀ j t, j < ps.length → t < 3 → w.frozen? ⟨b, off + j * 3 + t, none⟩ = false
  own : ∀ (j : Nat) (x : SlotV), ps[j]? = some x → nums .u8 lo hi w (sv x) x.1.2.2
  row : ∀ (j : Nat) (x : SlotV), ps[j]? = some x → Proofs.Ytpeeagkfhdeagaa.blk (sv x) ≠ some b
  sep : ∀ (i j : Nat) (x y : SlotV), i ≠ j → ps[i]? = some x → ps[j]? = some y → ∀ g, Proofs.Ytpeeagkfhdeagaa.blk (sv x) = some g → Proofs.Ytpeeagkfhdeagaa.blk (sv y) ≠ some g
set_option maxRecDepth 100000 in
theorem slots_mem {lo hi : Nat} {w : World} {v : Value} {l : List SlotD} (h : SlotsR.mine lo hi w [v] l) :
    ∃ A c, v = .slice A l.length c ∧ l.length ≤ c ∧ (l = [] ∨ ∃ b off ps, A = some ⟨b, off, none⟩ ∧ ps.map (·.1) = l ∧ SlotsM lo hi w b off ps) := by
  obtain ⟨F, ⟨A, c, hv, hc, h⟩, hn, hF⟩ := h
  simp only [List.cons.injEq, and_true] at hv
  refine ⟨A, c, hv, hc, ?_⟩
  rcases h with ⟨rfl, _⟩ | ⟨b, off, Fs, rfl, rfl, hl, h⟩
  · exact .inl rfl
  rw [List.nodup_cons] at hn
  obtain ⟨hn1, hn2⟩ := hn
  rw [List.Nodup, List.pairwise_flatten] at hn2
  have hdis := List.pairwise_iff_getElem.1 hn2.2
  have hall : ∀ j : Nat, ∃ a : Option Addr × Nat, ∀ x G, l[j]? = some x → Fs[j]? = some G → atL w b (off + j * 3) (sCells (x, a)) ∧ freeL w b (off + j * 3) 3 ∧ nums .u8 lo hi w (sv (x, a)) x.2.2 ∧ ∀ g, Proofs.Ytpeeagkfhdeagaa.blk (sv (x, a)) = some g → g ∈ G := fun j => by
    cases hx : l[j]? with
    | none => exact ⟨(none, 0), fun x G hx' => by cases hx'⟩
    | some y =>
      have hj := (List.getElem?_eq_some_iff.1 hx).1
      have hG : Fs[j]? = some (Fs[j]'(by omega)) := List.getElem?_eq_getElem (by omega)
      obtain ⟨xs, h1, h2, h3⟩ := h j y _ hx hG
      obtain ⟨A', c', rfl, hu, hm⟩ := slot_own (lo := lo) (hi := hi) h1 fun b' hb' => hF b' (List.mem_cons_of_mem _ (List.mem_flatten.2 ⟨_, List.mem_of_getElem? hG, hb'⟩))
      refine ⟨(A', c'), fun x G hx' hG' => ?_⟩
      cases hx'
      rw [hG] at hG'
      cases hG'
      exact ⟨h2, h3, hu, hm⟩
  obtain ⟨f, hf⟩ := Classical.skolem.1 hall
  have hget : ∀ (j : Nat) (x : SlotV), ((List.range l.length).map fun j => ((l.getD j (⟨#[]⟩, ⟨#[]⟩, []), f j) : SlotV))[j]? = some x → j < l.length ∧ l[j]? = some x.1 ∧ x = (x.1, f j) := fun j x hx => by
    rw [List.getElem?_map] at hx
    obtain ⟨k, hk, rfl⟩ := Option.map_eq_some_iff.1 hx
    obtain ⟨h1, h2⟩ := List.getElem?_eq_some_iff.1 hk
    rw [List.length_range] at h1
    rw [List.getElem_range] at h2
    subst h2
    exact ⟨h1, by rw [List.getD_eq_getElem?_getD, List.getElem?_eq_getElem h1]; rfl, rfl⟩
  have hFs : ∀ j, j < l.length → Fs[j]? = some (Fs.getD j []) := fun j hj => by rw [List.getD_eq_getElem?_getD, List.getElem?_eq_getElem (by omega : j < Fs.length)]; rfl
  refine .inr ⟨b, off, (List.range l.length).map fun j => (l.getD j (⟨#[]⟩, ⟨#[]⟩, []), f j), rfl, ?_, ⟨hF b (List.mem_cons_self ..), fun j x hx => ?_, fun j t hj ht => ?_, fun j x hx => ?_, fun j x hx e => ?_, fun i j x y hij hx hy g h1 h2 => ?_⟩⟩
  · apply List.ext_getElem?
    intro j
    rw [List.map_map, List.getElem?_map]
    by_cases hj : j < l.length
    · rw [List.getElem?_range hj, List.getElem?_eq_getElem hj]
      show some (l.getD j _) = _
      rw [List.getD_eq_getElem?_getD, List.getElem?_eq_getElem hj]; rfl
    · rw [List.getElem?_eq_none (by simp; omega), List.getElem?_eq_none (by omega)]; rfl
  · obtain ⟨hj, h1, h2⟩ := hget j x hx
    rw [h2]
    exact (hf j x.1 _ h1 (hFs j hj)).1
  · rw [List.length_map, List.length_range] at hj
    exact (hf j _ _ (List.getElem?_eq_getElem hj) (hFs j hj)).2.1 t ht
  · obtain ⟨hj, h1, h2⟩ := hget j x hx
    rw [h2]
    exact (hf j x.1 _ h1 (hFs j hj)).2.2.1
  · obtain ⟨hj, h1, h2⟩ := hget j x hx
    rw [h2] at e
    exact hn1 (List.mem_flatten.2 ⟨_, List.mem_of_getElem? (hFs j hj), (hf j x.1 _ h1 (hFs j hj)).2.2.2 b e⟩)
  · obtain ⟨hi', h3, h4⟩ := hget i x hx
    obtain ⟨hj, h5, h6⟩ := hget j y hy
    rw [h4] at h1
    rw [h6] at h2
    have m1 := (hf i x.1 _ h3 (hFs i hi')).2.2.2 g h1
    have m2 := (hf j y.1 _ h5 (hFs j hj)).2.2.2 g h2
    have e1 : Fs.getD i [] = Fs[i]'(by omega) := by rw [List.getD_eq_getElem?_getD, List.getElem?_eq_getElem (by omega : i < Fs.length)]; rfl
    have e2 : Fs.getD j [] = Fs[j]'(by omega) := by rw [List.getD_eq_getElem?_getD, List.getElem?_eq_getElem (by omega : j < Fs.length)]; rfl
    rw [e1] at m1
    rw [e2] at m2
    rcases Nat.lt_or_gt_of_ne hij with h7 | h7
    · exact hdis i j (by omega) (by omega) h7 g m1 g m2 rfl
    · exact hdis j i (by omega) (by omega) h7 g m2 g m1 rfl
set_option maxRecDepth 100000 in
theorem SlotsM.mine {lo hi b off c : Nat} {w : World} {ps : List SlotV} (h : SlotsM lo hi w b off ps) (hc : ps.length ≤ c) : SlotsR.mine lo hi w [.slice (some ⟨b, off, none⟩) ps.length c] (ps.map (·.1)) := by
  have hmem : ∀ g ∈ List.flatten (ps.map fun x => (Proofs.Ytpeeagkfhdeagaa.blk (sv x)).toList), ∃ (j : Nat) (x : SlotV), ps[j]? = some x ∧ Proofs.Ytpeeagkfhdeagaa.blk (sv x) = some g := fun g hg => by
    obtain ⟨G, hG, hgG⟩ := List.mem_flatten.1 hg
    obtain ⟨x, hx, rfl⟩ := List.mem_map.1 hG
    obtain ⟨j, hj⟩ := List.mem_iff_getElem?.1 hx
    exact ⟨j, x, hj, by simpa using hgG⟩
  refine ⟨b :: List.flatten (ps.map fun x => (Proofs.Ytpeeagkfhdeagaa.blk (sv x)).toList), ⟨some ⟨b, off, none⟩, c, by rw [List.length_map], by rw [List.length_map]; exact hc, .inr ⟨b, off, _, rfl, rfl, by rw [List.length_map, List.length_map], fun j x G hx hG => ?_⟩⟩, ?_, ?_⟩
  · rw [List.getElem?_map] at hx hG
    obtain ⟨y, hy, rfl⟩ := Option.map_eq_some_iff.1 hx
    rw [hy] at hG
    cases hG
    exact ⟨sCells y, slot_own_of (h.own j y hy), h.cells j y hy, fun t ht => h.free j t (List.getElem?_eq_some_iff.1 hy).1 ht⟩
  · rw [List.nodup_cons]
    refine ⟨fun hb => ?_, ?_⟩
    · obtain ⟨j, x, hx, e⟩ := hmem b hb
      exact h.row j x hx e
    · rw [List.Nodup, List.pairwise_flatten]
      refine ⟨fun G hG => ?_, ?_⟩
      · obtain ⟨x, -, rfl⟩ := List.mem_map.1 hG
        cases Proofs.Ytpeeagkfhdeagaa.blk (sv x) <;> simp
      · rw [List.pairwise_map, List.pairwise_iff_getElem]
        intro i j hi' hj hij g h1 g' h2 e
        subst e
        exact h.sep i j _ _ (by omega) (List.getElem?_eq_getElem hi') (List.getElem?_eq_getElem hj) g (by simpa using h1) (by simpa using h2)
  · intro g hg
    rcases List.mem_cons.1 hg with rfl | hg
    · exact h.bnd
    · obtain ⟨j, x, hx, e⟩ := hmem g hg
      exact (h.own j x hx).blk g e
set_option maxRecDepth 100000 in
/-- one element made anew -/
theorem SlotsM.put {lo hi b off i : Nat} {w w' : World} {ps : List SlotV} {x y : SlotV} (h : SlotsM lo hi w b off ps) (hx : ps[i]? = some x) (hs : sv y = sv x) (hc : atL w' b (off + i * 3) (sCells y)) (hco : ∀ (j : Nat) (z : SlotV), j ≠ i → ps[j]? = some z → atL w' b (off + j * 3) (sCells z))
    (hf : ∀ t, w'.frozen? ⟨b, t, none⟩ = w.frozen? ⟨b, t, none⟩) (ho : nums .u8 lo hi w' (sv y) y.1.2.2) (hoo : ∀ (j : Nat) (z : SlotV), j ≠ i → ps[j]? = some z → nums .u8 lo hi w' (sv z) z.1.2.2) : SlotsM lo hi w' b off (ps.set i y) := by
  have hi' := (List.getElem?_eq_some_iff.1 hx).1
  have hget : ∀ (j : Nat) (z : SlotV), (ps.set i y)[j]? = some z → (j = i ∧ z = y) ∨ (j ≠ i ∧ ps[j]? = some z) := fun j z hz => by
    by_cases e : i = j
    · subst e
      rw [List.getElem?_set_self hi'] at hz
      exact .inl ⟨rfl, (Option.some.inj hz).symm⟩
    · rw [List.getElem?_set_ne e] at hz
      exact .inr ⟨fun e' => e e'.symm, hz⟩
  have hsv : ∀ (j : Nat) (z : SlotV), (ps.set i y)[j]? = some z → ∃ z', ps[j]? = some z' ∧ sv z = sv z' := fun j z hz => by
    rcases hget j z hz with ⟨rfl, rfl⟩ | ⟨-, h1⟩
    · exact ⟨x, hx, hs⟩
    · exact ⟨z, h1, rfl⟩
  refine ⟨h.bnd, fun j z hz => ?_, fun j t hj ht => ?_, fun j z hz => ?_, fun j z hz => ?_, fun j k z z' hjk hz hz' g => ?_⟩
  · rcases hget j z hz with ⟨rfl, rfl⟩ | ⟨h0, h1⟩
    · exact hc
    · exact hco j z h0 h1
  · rw [List.length_set] at hj
    rw [hf]; exact h.free j t hj ht
  · rcases hget j z hz with ⟨rfl, rfl⟩ | ⟨h0, h1⟩
    · exact ho
    · exact hoo j z h0 h1
  · obtain ⟨q, h1, h2⟩ := hsv j z hz
    rw [h2]; exact h.row j q h1
  · obtain ⟨q, h1, h2⟩ := hsv j z hz
    obtain ⟨q', h3, h4⟩ := hsv k z' hz'
    rw [h2, h4]; exact h.sep j k q q' hjk h1 h3 g
set_option maxRecDepth 100000 in
theorem SlotsM.below {lo hi b off B : Nat} {w w' : World} {ps : List SlotV} (h : SlotsM lo hi w b off ps) (hb : Below B w w') (hB : hi ≤ B) : SlotsM lo hi w' b off ps := by
  have hk : w'.heap[b]? = w.heap[b]? := hb.block b (by have := h.bnd; omega)
  exact ⟨h.bnd, fun j x hx => (h.cells j x hx).keep hk, fun j t hj ht => (frozen_keep hk).trans (h.free j t hj ht), fun j x hx => (h.own j x hx).below hb hB, h.row, h.sep⟩
set_option maxRecDepth 100000 in
theorem setL_cell {w : World} {b o t : Nat} {us : List Value} (h : atL w b o us) (ht : t < us.length) (u : Value) : atL (w.setCell ⟨b, o + t, none⟩ u) b o (us.set t u) := fun s v hs => by
  by_cases e : t = s
  · subst e
    rw [List.getElem?_set_self ht] at hs
    cases hs
    exact World.cell?_setCell_same w ⟨b, o + t, none⟩ u (h t _ (List.getElem?_eq_getElem ht))
  · rw [List.getElem?_set_ne e] at hs
    rw [World.cell?_setCell_other _ _ _ _ (fun he => e (by have := congrArg Addr.off he; simp at this; omega))]
    exact h s v hs
set_option maxRecDepth 100000 in
/-- a cell of element i stored anew, its reply as it was -/
theorem SlotsM.setCell {lo hi b off i t : Nat} {w : World} {ps : List SlotV} {x y : SlotV} {u : Value} (h : SlotsM lo hi w b off ps) (hx : ps[i]? = some x) (hs : sv y = sv x) (hr : y.1.2.2 = x.1.2.2) (ht : t < 3) (hy : sCells y = (sCells x).set t u) : SlotsM lo hi (w.setCell ⟨b, off + i * 3 + t, none⟩ u) b off (ps.set i y) := by
  refine h.put hx hs (by rw [hy]; exact setL_cell (h.cells i x hx) ht u) (fun j z hj hz => (h.cells j z hz).set_far (by show off + i * 3 + t < off + j * 3 ∨ off + j * 3 + 3 ≤ off + i * 3 + t; omega) u) (fun t => by simp) ?_ (fun j z hj hz => (h.own j z hz).far u (h.row j z hz))
  rw [hs, hr]
  exact (h.own i x hx).far u (h.row i x hx)
set_option maxRecDepth 100000 in
/-- its reply made anew in its own block -/
theorem SlotsM.reply {lo hi b off i : Nat} {w w' : World} {ps : List SlotV} {x : SlotV} {m : List Int} (h : SlotsM lo hi w b off ps) (hx : ps[i]? = some x) (hm : m.length = x.1.2.2.length) (hg : w.grownBy w' (Proofs.Ytpeeagkfhdeagaa.blk (sv x))) (hh : hi ≤ w.heap.size) (hn : nums .u8 lo hi w' (sv x) m) : SlotsM lo hi w' b off (ps.set i ((x.1.1, x.1.2.1, m), x.2)) := by
  have hk : w'.heap[b]? = w.heap[b]? := hg.block b (by have := h.bnd; omega) (fun e => h.row i x hx e.symm)
  have hs : sv (((x.1.1, x.1.2.1, m), x.2) : SlotV) = sv x := by unfold sv; simp only [hm]
  refine h.put hx hs ?_ (fun j z hj hz => (h.cells j z hz).keep hk) (fun t => frozen_keep hk) (by rw [hs]; exact hn) (fun j z hj hz => (h.own j z hz).apart hg hh fun g h1 h2 => h.sep j i z x hj hz hx g h1 h2)
  have hc : sCells (((x.1.1, x.1.2.1, m), x.2) : SlotV) = sCells x := by unfold sCells; simp only [hm]
  rw [hc]
  exact (h.cells i x hx).keep hk
end Go.Proofs.Ytpeeagkfhdeagaa
/- Fields and messages: what the law package's marks and looks at the marks do; no conditions. -/
set_option linter.unusedVariables false
namespace Go.Proofs.Ytpeeagkfhdeagaa
open Go.ChangeShapes Go.WideShapes Go.ChangeAt Go.RowKit

def fieldMark (k : Int) (j : Nat) : FieldD := (k + 2 * (j : Int), ⟨(markOf (k + 2 * (j : Int) + 1)).toArray⟩)
def fieldsMark (k : Int) (n : Nat) : List FieldD := (List.range n).map (fieldMark k)
set_option maxRecDepth 100000 in
theorem fieldsMark_len (k : Int) (n : Nat) : (fieldsMark k n).length = n := by simp [fieldsMark]
set_option maxRecDepth 100000 in
theorem fieldsMark_get (k : Int) (n j : Nat) (h : j < n) : (fieldsMark k n).getD j (0, ⟨#[]⟩) = fieldMark k j := by simp [fieldsMark, h]
set_option maxRecDepth 100000 in
theorem fieldsMark_at (k : Int) (n j : Nat) (h : j < n) : (fieldsMark k n)[j]? = some (fieldMark k j) := by simp [fieldsMark, h]
set_option maxRecDepth 100000 in
/-- a slice of fields of one's own: empty, or one block that may be written -/
theorem fields_own {lo hi : Nat} {w : World} {v : Value} {l : List FieldD} (h : FieldsR.mine lo hi w [v] l) :
    ∃ A c, v = .slice A l.length c ∧ l.length ≤ c ∧ (l = [] ∨ ∃ b off, A = some ⟨b, off, none⟩ ∧ lo ≤ b ∧ b < hi ∧ roomL w b off (l.length * 2)) := by
  obtain ⟨F, ⟨A, c, hv, hc, h⟩, -, hF⟩ := h
  simp only [List.cons.injEq, and_true] at hv
  refine ⟨A, c, hv, hc, ?_⟩
  rcases h with ⟨rfl, _⟩ | ⟨b, off, Fs, rfl, rfl, hl, h⟩
  · exact .inl rfl
  · have hb := hF b (List.mem_cons_self ..)
    refine .inr ⟨b, off, rfl, hb.1, hb.2, fun t ht => ?_⟩
    have hj : t / 2 < l.length := by omega
    obtain ⟨xs, h1, h2, h3⟩ := h (t / 2) _ _ (List.getElem?_eq_getElem hj) (List.getElem?_eq_getElem (by omega))
    rw [field_own] at h1
    obtain ⟨rfl, -⟩ := h1
    have hk : FieldR.k = 2 := rfl
    rw [hk] at h2 h3
    have e : off + t = off + t / 2 * 2 + t % 2 := by omega
    rw [e]
    refine ⟨?_, h3 (t % 2) (by omega)⟩
    rcases Nat.mod_two_eq_zero_or_one t with m | m
    · rw [m]; exact ⟨_, h2 0 _ rfl⟩
    · rw [m]; exact ⟨_, h2 1 _ rfl⟩
set_option maxRecDepth 100000 in
theorem markOf_size (k : Int) (h : k ≤ 1000000000) : (markOf k).length ≤ 21 := by
  have := mark_len k h
  unfold markOf
  simp; omega
def msgMark (m : MsgD) (k : Int) : List FieldD := fieldsMark k m.2.length
end Go.Proofs.Ytpeeagkfhdeagaa
/- Marks in slices of slots, and looks at them; no conditions. -/
set_option linter.unusedVariables false
namespace Go.Proofs.Ytpeeagkfhdeagaa
open Go.ChangeShapes Go.WideShapes Go.ChangeAt Go.RowKit

/-- a slot that bears the marks from k on -/
def slotMk (k : Int) (n : Nat) : SlotD := (⟨(markOf k).toArray⟩, ⟨(markOf (k + 1)).toArray⟩, marksL (· % 256) (k + 1 + 1) n)
/-- the mark that element j's begin with -/
def kAt (k : Int) (ns : List Nat) (j : Nat) : Int := k + (((ns.take j).map fun n => 2 + n).sum : Nat)
def slotsMark (k : Int) (ns : List Nat) : List SlotD := (List.range ns.length).map fun j => slotMk (kAt k ns j) (ns.getD j 0)
def lensOf (l : List SlotD) : List Nat := l.map (·.2.2.length)
set_option maxRecDepth 100000 in
theorem lensOf_len (l : List SlotD) : (lensOf l).length = l.length := List.length_map ..
set_option maxRecDepth 100000 in
theorem slotsMark_len (k : Int) (ns : List Nat) : (slotsMark k ns).length = ns.length := by simp [slotsMark]
set_option maxRecDepth 100000 in
theorem slotsMark_at {k : Int} {ns : List Nat} {j : Nat} (h : j < ns.length) : (slotsMark k ns)[j]? = some (slotMk (kAt k ns j) (ns.getD j 0)) := by simp [slotsMark, h]
set_option maxRecDepth 100000 in
theorem kAt_zero (k : Int) (ns : List Nat) : kAt k ns 0 = k := by simp [kAt]
set_option maxRecDepth 100000 in
theorem kAt_next {k : Int} {ns : List Nat} {j : Nat} (h : j < ns.length) : kAt k ns (j + 1) = kAt k ns j + 1 + 1 + (ns.getD j 0 : Nat) := by
  unfold kAt
  rw [List.take_succ_eq_append_getElem h, List.map_append, List.sum_append, List.getD_eq_getElem?_getD, List.getElem?_eq_getElem h]
  simp only [List.map_cons, List.map_nil, List.sum_cons, List.sum_nil, Option.getD_some]
  omega
set_option maxRecDepth 100000 in
theorem sum_take_le : ∀ (l : List Nat) (j : Nat), (l.take j).sum ≤ l.sum
  | [], j => by simp
  | x :: l, 0 => by simp
  | x :: l, j + 1 => by have := sum_take_le l j; simp only [List.take_succ_cons, List.sum_cons]; omega
set_option maxRecDepth 100000 in
theorem kAt_le (k : Int) (ns : List Nat) (j : Nat) : k ≤ kAt k ns j ∧ kAt k ns j ≤ kAt k ns ns.length := by
  unfold kAt
  have h := sum_take_le (ns.map fun n => 2 + n) j
  rw [List.take_length, List.map_take]
  omega
set_option maxRecDepth 100000 in
theorem two_sum : ∀ l : List Nat, 2 * l.length ≤ (l.map fun n => 2 + n).sum
  | [] => by simp
  | x :: l => by have := two_sum l; simp only [List.map_cons, List.sum_cons, List.length_cons]; omega
set_option maxRecDepth 100000 in
theorem kAt_two (k : Int) (ns : List Nat) : k + 2 * (ns.length : Int) ≤ kAt k ns ns.length := by
  unfold kAt
  rw [List.take_length]
  have := two_sum ns
  omega
set_option maxRecDepth 100000 in
theorem slotMk_len (k : Int) (n : Nat) : (slotMk k n).2.2.length = n := marks_length (· % 256) (k + 1 + 1) n
set_option maxRecDepth 100000 in
theorem lensOf_mark (k : Int) (ns : List Nat) : lensOf (slotsMark k ns) = ns := by
  apply List.ext_getElem?
  intro j
  unfold lensOf
  rw [List.getElem?_map]
  by_cases h : j < ns.length
  · rw [slotsMark_at h, Option.map_some, slotMk_len, List.getD_eq_getElem?_getD, List.getElem?_eq_getElem h]; rfl
  · rw [List.getElem?_eq_none (by rw [slotsMark_len]; omega), List.getElem?_eq_none (by omega)]; rfl

end Go.Proofs.Ytpeeagkfhdeagaa
/- SlotsOk of the reference; no conditions. -/
set_option linter.unusedVariables false
namespace Go.Proofs.Ytpeeagkfhdeagaa
open Go.ChangeShapes Go.WideShapes Go.ChangeAt Go.RowKit

/-- element i is right, and none before it has its trace and type -/
def slotAtOk (l : List SlotD) (i : Nat) : Bool := match l[i]? with | some x => slotOk x && (l.take i).all fun y => !isSlot x.1 x.2.1 y | none => true
def slotsOk (l : List SlotD) : Bool := (List.range l.length).all (slotAtOk l) && decide (l.length ≤ 6)
set_option maxRecDepth 100000 in
theorem slots_ok_not {l : List SlotD} {i : Nat} (hi : i < l.length) (h : slotAtOk l i = false) : slotsOk l = false := by
  unfold slotsOk
  have : (List.range l.length).all (slotAtOk l) = false := by
    rw [List.all_eq_false]
    exact ⟨i, List.mem_range.2 hi, by rw [h]; exact Bool.false_ne_true⟩
  rw [this]; rfl
set_option maxRecDepth 100000 in
theorem slots_ok_end {l : List SlotD} (h : ∀ j, j < l.length → slotAtOk l j = true) : slotsOk l = decide (l.length ≤ 6) := by
  unfold slotsOk
  have : (List.range l.length).all (slotAtOk l) = true := List.all_eq_true.2 fun j hj => h j (List.mem_range.1 hj)
  rw [this]; rfl
set_option maxRecDepth 100000 in
theorem slot_at {l : List SlotD} {i : Nat} {x : SlotD} (hx : l[i]? = some x) : slotAtOk l i = (slotOk x && (l.take i).all fun y => !isSlot x.1 x.2.1 y) := by
  unfold slotAtOk; rw [hx]
end Go.Proofs.Ytpeeagkfhdeagaa
/- SlotPut of the reference; no conditions. -/
set_option linter.unusedVariables false
namespace Go.Proofs.Ytpeeagkfhdeagaa
open Go.ChangeShapes Go.WideShapes Go.ChangeAt Go.RowKit

set_option maxRecDepth 100000 in
/-- append(s, T{..}) as a step of a region that draws its order, the element lying anywhere -/
theorem app_src_step {P : Program} {ops : Array Oper} {o : Oper} {a : Act} {Kn : Act → World → Prop} {Q : Exit → Act → World → Prop} {E : Prop} {α : Type} (enc : α → List Value) (k : Nat) (hk : ∀ x, (enc x).length = k) (hk0 : 0 < k) (hone : ∀ x, ∀ u ∈ enc x, u.oneCell' = true)
    (t e : TypeId) (zs : Array Value) (bytes : Nat) (ht : P.underlying t = some (.slice e)) (hinfo : (P.info? e).map (fun i => (i.zero.map (·.cells), i.size, i.bytes)) = some (some zs, k, bytes)) (hzs : zs.size = k)
    (s x : Operand) (hgd : o.guard = none) (ho : o.op = .call { callee := .builtin .append, args := #[s, x], argTypes := #[t, t] })
    (base : Nat) (W : World) (v : Value) (l : List α) (y : α) (n : Nat) (hs : a.eval s = v) (hx : a.eval x = .slice (some ⟨n, 0, none⟩) 1 1) (hc : ∀ j u, (enc y)[j]? = some u → W.cell? ⟨n, j, none⟩ = some u)
    (hown : owE e k enc base W v l) (h63 : l.length + 1 ≤ maxLen) (hbytes : (l.length + 1) * bytes ≤ 140737488355328) (hbase : base ≤ W.heap.size)
    (h : ∀ A c w', owE e k enc base w' (.slice A (l.length + 1) c) (l ++ [y]) → l.length + 1 ≤ c → W.grownBy w' v.ownBlock → ((Value.slice A (l.length + 1) c).ownBlock = v.ownBlock ∨ (Value.slice A (l.length + 1) c).ownBlock = some W.heap.size) → Kn (a.put o.dst (.slice A (l.length + 1) c)) w') : if Region.wanted o (yielded ops a.tmps) = true then o.wp P a W Kn Q else E := by
  rw [if_pos (by simp [Region.wanted, hgd])]
  obtain ⟨i, hi, hxx⟩ := Option.map_eq_some_iff.1 hinfo
  simp only [Prod.mk.injEq] at hxx
  obtain ⟨hz, hsize, hby⟩ := hxx
  obtain ⟨z, hzz, hzc⟩ := Option.map_eq_some_iff.1 hz
  have hcells : ∀ j u, (enc y)[j]? = some u → W.cell? ((⟨n, 0, none⟩ : Addr).add j) = some u := by
    intro j u hu
    have e1 : (⟨n, 0, none⟩ : Addr).add j = ⟨n, j, none⟩ := by
      unfold Addr.add
      split
      · next h0 => rw [h0]
      · simp
    rw [e1]
    exact hc j u hu
  obtain ⟨v', w1, hr, hown', hgrow, _, hlies⟩ := run_append_own_at (P := P) W base t o.type e i z k bytes ht hi hzz hsize hby (by rw [hzc, hzs]) hk0 v l.length (l.flatMap enc) hown ⟨n, 0, none⟩ 1 1 (enc y) (by rw [hk]; omega) hcells (hone y) h63 hbytes hbase
  have ho' : owE e k enc base w1 v' (l ++ [y]) := by
    unfold owE
    rw [List.length_append, List.flatMap_append]
    simpa using hown'
  obtain ⟨A, c, rfl, hc'⟩ := ho'.form
  rw [List.length_append] at ho' hc' hlies hr
  unfold Oper.wp execOp
  simp only [ho, resolve, invoke, builtin, Sem.run_bind, Sem.run_pure, Result.andThen_ok, List.map_toArray, List.map_cons, List.map_nil, hs, hx, hr]
  exact h A c w1 ho' hc' hgrow (by simpa using hlies)
set_option maxRecDepth 100000 in
/-- such a row is read -/
theorem owE_slots_rd {T : TypeId} {B : Nat} {w : World} {v : Value} {ps : List SlotV} (ho : owE T 3 sCells B w v ps) (hr : ∀ (j : Nat) (y : SlotV), ps[j]? = some y → rd .u8 w.heap.size w (sv y) y.1.2.2) : SlotsR.rd w.heap.size w [v] (ps.map (·.1)) := by
  obtain ⟨A, c, rfl, hc⟩ := ho.form
  refine ⟨A, c, by rw [List.length_map], by rw [List.length_map]; exact hc, fun j x hx => ?_⟩
  rw [List.getElem?_map] at hx
  obtain ⟨y, hy, rfl⟩ := Option.map_eq_some_iff.1 hx
  have hj := (List.getElem?_eq_some_iff.1 hy).1
  rcases ho.filled (fun _ => rfl) ((⟨#[]⟩, ⟨#[]⟩, []), (none, 0)) with ⟨rfl, -⟩ | ⟨b, c', hv, -, h1, h2, hf⟩
  · simp at hj
  · simp only [Value.slice.injEq, true_and] at hv
    obtain ⟨rfl, rfl⟩ := hv
    have hat := hf.at_ j hj
    have hg : ps.getD j ((⟨#[]⟩, ⟨#[]⟩, []), (none, 0)) = y := by rw [List.getD_eq_getElem?_getD, hy]; rfl
    rw [hg] at hat
    exact ⟨b, 0, sCells y, rfl, h2, slot_rd_of (hr j y hy), hat⟩
set_option maxRecDepth 100000 in
theorem put_read {T : TypeId} {B hi : Nat} {w : World} {A AX : Option Addr} {c cX : Nat} {ps : List SlotV} {p q : Nat → Nat} {row : Option Nat} {l : List SlotD} {x : SlotD} (ho : owE T 3 sCells B w (.slice A (ps.length + 1) c) (ps ++ [((x, (AX, cX)) : SlotV)])) (hr : replies w row B ps p q) (hu : rd .u8 hi w (.slice AX x.2.2.length cX) x.2.2) (hh : hi ≤ w.heap.size) (hm : ps.map (·.1) = l) : SlotsR.rd w.heap.size w [.slice A (ps.length + 1) c] (l ++ [x]) := by
  have h := owE_slots_rd ho fun j y hy => by
    by_cases e : j = ps.length
    · subst e
      have : y = (x, (AX, cX)) := by simpa using hy.symm
      subst this
      exact rd.mono hu hh
    · have hj : j < ps.length := by have := (List.getElem?_eq_some_iff.1 hy).1; simp at this; omega
      rw [List.getElem?_append_left hj] at hy
      exact rd.mono (hr.own j y hy).rd (hr.in_ j hj).2
  rw [List.map_append, hm] at h
  exact h
def slotPutL (l : List SlotD) (x : SlotD) : List SlotD × Bool := if slotsOk (l ++ [x]) = true then (l ++ [x], true) else ([], false)
def slotsRes (l : List SlotD) (ok : Bool) (w : World) (e : Ending) (w' : World) : Prop := ∃ u, e = .returned (.tuple #[u, .bool ok]) ∧ SlotsR.mine w.heap.size w'.heap.size w' [u] l ∧ Below w.heap.size w w'
end Go.Proofs.Ytpeeagkfhdeagaa
/- What the laws ask of slots' sizes; marks in one slot; no conditions. -/
set_option linter.unusedVariables false
namespace Go.Proofs.Ytpeeagkfhdeagaa
open Go.ChangeShapes Go.WideShapes Go.ChangeAt Go.RowKit

set_option maxRecDepth 100000 in
theorem mem_sum {α : Type} (f : α → Nat) : ∀ {l : List α} {x : α}, x ∈ l → f x ≤ (l.map f).sum
  | [], x, h => by simp at h
  | y :: l, x, h => by
    rw [List.map_cons, List.sum_cons]
    rcases List.mem_cons.1 h with rfl | h
    · omega
    · have := mem_sum f h; omega
set_option maxRecDepth 100000 in
theorem lens_sum : ∀ l : List SlotD, ((lensOf l).map fun n => 2 + n).sum ≤ 2 * l.length + (l.map slotSz).sum
  | [] => by simp [lensOf]
  | x :: l => by
    have := lens_sum l
    unfold lensOf slotSz at this ⊢
    simp only [List.map_cons, List.sum_cons, List.length_cons] at this ⊢
    omega
set_option maxRecDepth 100000 in
theorem kAt_sz {l : List SlotD} {N : Nat} (h : slotsSz l ≤ N) (k : Int) : kAt k (lensOf l) l.length ≤ k + 2 * (N : Int) := by
  unfold kAt
  have h1 := lens_sum l
  have h2 : (lensOf l).take l.length = lensOf l := List.take_of_length_le (by rw [lensOf_len]; exact Nat.le_refl _)
  rw [h2]
  unfold slotsSz at h
  omega
set_option maxRecDepth 100000 in
theorem kAt_up (l : List SlotD) (k : Int) : k ≤ kAt k (lensOf l) l.length := (kAt_le k (lensOf l) l.length).1
set_option maxRecDepth 100000 in
theorem sz_len {l : List SlotD} {N : Nat} (h : slotsSz l ≤ N) : l.length ≤ N := by unfold slotsSz at h; omega
set_option maxRecDepth 100000 in
theorem sz_reply {l : List SlotD} {N : Nat} (h : slotsSz l ≤ N) : ∀ x ∈ l, x.2.2.length ≤ N := fun x hx => by
  have h1 := mem_sum slotSz hx
  have h2 : x.2.2.length ≤ slotSz x := by unfold slotSz; omega
  unfold slotsSz at h
  omega
set_option maxRecDepth 100000 in
theorem sz_marks {l : List SlotD} {N : Nat} {k : Int} (h : slotsSz l ≤ N) (hk : k + 2 * (N : Int) ≤ 1000000000) : kAt k (lensOf l) l.length ≤ 1000000000 := by
  have := kAt_sz h k
  omega
set_option maxRecDepth 100000 in
theorem slotsSz_snoc (l : List SlotD) (x : SlotD) : slotsSz (l ++ [x]) = slotsSz l + slotSz x + 1 := by
  unfold slotsSz
  simp only [List.length_append, List.length_singleton, List.map_append, List.map_cons, List.map_nil, List.sum_append, List.sum_cons, List.sum_nil]
  omega
set_option maxRecDepth 100000 in
theorem slotOfL_len {l : List SlotD} {t m : ByteArray} {N : Nat} (h : ∀ x ∈ l, x.2.2.length ≤ N) : (slotOfL l t m).1.length ≤ N := by
  unfold slotOfL
  split
  · rename_i x hx
    exact h x (List.mem_of_find?_eq_some hx)
  · exact Nat.zero_le _
set_option maxRecDepth 100000 in
theorem slotPutL_sz (l : List SlotD) (x : SlotD) : slotsSz (slotPutL l x).1 ≤ slotsSz l + slotSz x + 1 := by
  unfold slotPutL
  split
  · rw [slotsSz_snoc]; exact Nat.le_refl _
  · exact Nat.zero_le _
end Go.Proofs.Ytpeeagkfhdeagaa
/- Accounts: what a size says; no conditions. -/
set_option linter.unusedVariables false
namespace Go.Proofs.Ytpeeagkfhdeagaa
set_option maxRecDepth 100000 in
theorem acct_small {a : AcctD} {N : Nat} (h : acctSz a ≤ N) : acctSmall N a := by
  unfold acctSz at h
  have hs : slotsSz (aS a) ≤ N := by omega
  exact ⟨by unfold holdsSz at h; omega, by omega, by omega, sz_len hs, sz_reply hs⟩
end Go.Proofs.Ytpeeagkfhdeagaa
/- isDigit; the characters of a string of digits; no conditions. -/
set_option linter.unusedVariables false
namespace Go.Proofs.Ytpeeagkfhdeagaa
open Go.ChangeShapes Go.WideShapes Go.ChangeAt Go.RowKit

/-- is the number of a character a digit's? -/
def runeDig (r : Int) : Bool := decide (48 ≤ r) && decide (r ≤ 57)
set_option maxRecDepth 100000 in
theorem isDigit_any (r : Int) (w : World) : Calls Try.prog 43 #[.int .i32 r] w fun e w' => e = .returned (.bool (runeDig r)) ∧ w = w' := by
  by_cases h0 : 48 ≤ r
  all_goals
    go_enter Try.func43, Try.ntmps43
    go_wp2
    go_ret
    exact ⟨by simp [runeDig]; omega, rfl⟩

set_option maxRecDepth 100000 in
/-- The character at a place: a digit there, or none. -/
theorem rune_dig (s : ByteArray) (pos : Nat) (h : pos < s.size) (hd : isDig s[pos] = true) : Utf8.decode s pos = (s[pos].toNat, 1) ∧ runeDig (s[pos].toNat : Int) = true := by
  have h1 := (isDig_iff _).1 hd
  exact ⟨decode_ascii s pos h (by omega), by simp [runeDig]; omega⟩
set_option maxRecDepth 100000 in
theorem rune_not (s : ByteArray) (pos : Nat) (h : pos < s.size) (hd : isDig s[pos] = false) : runeDig ((Utf8.decode s pos).1 : Int) = false := by
  have h1 := (isDig_no _).1 hd
  rcases Nat.lt_or_ge s[pos].toNat 128 with h2 | h2
  · rw [decode_ascii s pos h h2]; simp [runeDig]; omega
  · have := (decode_high s pos h h2).1; simp [runeDig]; omega

end Go.Proofs.Ytpeeagkfhdeagaa
/- Digits: both functions tell whether a string is not empty and holds digits alone; no conditions. -/
set_option linter.unusedVariables false
namespace Go.Proofs.Ytpeeagkfhdeagaa
open Go.ChangeShapes Go.WideShapes Go.ChangeAt Go.RowKit

set_option maxRecDepth 100000 in
theorem implDigits_any (s : ByteArray) (w : World) (hs : s.size ≤ maxLen) :
    Calls Try.prog 29 #[.string s] w fun e w' => e = .returned (.bool (digs s)) ∧ Below w.heap.size w w' := by
  unfold maxLen at hs
  go_enter Try.func29, Try.ntmps29
  go_wp2
  go_loopw [2] (fun _ wr => ∃ k : Nat, k ≤ s.size ∧ wr = w.iter s k ∧ (s.data.toList.take k).all isDig = true) (fun _ wr => s.size - wr.iterPos w.heap.size)
  case atStart => exact ⟨0, Nat.zero_le _, rfl, rfl⟩
  case round =>
    obtain ⟨k, hk, rfl, ha0⟩ := hrel
    have ha := Lib.hid ha0
    clear ha0
    by_cases hlt : k < s.size
    · cases hd : isDig s[k]
      · have hr := rune_not s k hlt hd
        have hnx : ∀ ty, (Instr.next (.pointer (some ⟨w.heap.size, 0, none⟩)) true ty).run Try.prog (w.iter s k) = _ := fun ty => run_next_any w s k ty hlt
        generalize hq : Utf8.decode s k = q at hnx hr
        obtain ⟨r, wd⟩ := q
        clear hq
        go_wp2_with (go_at_call 43; refine (isDigit_any _ _).mono ?_; rintro e w' ⟨rfl, rfl⟩)
        go_ret
        exact ⟨ret_bool (digs_no s k hlt hd).symm, below_iter _ _ _⟩
      · obtain ⟨hdec, hr⟩ := rune_dig s k hlt hd
        have hnx : ∀ ty, (Instr.next (.pointer (some ⟨w.heap.size, 0, none⟩)) true ty).run Try.prog (w.iter s k) = _ := fun ty => run_next_any w s k ty hlt
        rw [hdec] at hnx
        have hb := Lib.hid (all_one s k hlt ha.out hd)
        clear hdec hd
        go_wp2_with (go_at_call 43; refine (isDigit_any _ _).mono ?_; rintro e w' ⟨rfl, rfl⟩)
        go_roundw
        case rel => exact ⟨k + 1, by omega, rfl, hb.out⟩
        case measure => simp <;> omega
    · have hnx : ∀ ty, (Instr.next (.pointer (some ⟨w.heap.size, 0, none⟩)) true ty).run Try.prog (w.iter s k) = _ := fun ty => run_next_end w s k ty hlt
      go_wp2
      go_ret
      exact ⟨ret_bool ((not_empty s).trans (digs_end s k hlt ha.out)), below_iter _ _ _⟩
end Go.Proofs.Ytpeeagkfhdeagaa
/- A message's type: four digits; no conditions. -/
set_option linter.unusedVariables false
namespace Go.Proofs.Ytpeeagkfhdeagaa
open Go.ChangeShapes Go.WideShapes Go.ChangeAt Go.RowKit

def mtiOk (s : ByteArray) : Bool := digs s && decide (s.size = 4)
end Go.Proofs.Ytpeeagkfhdeagaa
/- SlotOk of the program and what it calls; no conditions. -/
set_option linter.unusedVariables false
namespace Go.Proofs.Ytpeeagkfhdeagaa
open Go.ChangeShapes Go.WideShapes Go.ChangeAt Go.RowKit

def traceOk (s : ByteArray) : Bool := digs s && decide (s.size = 6)
set_option maxRecDepth 100000 in
theorem slotOk_parts (x : SlotD) : slotOk x = (traceOk x.1 && (mtiOk x.2.1 && inB (x.2.2.length : Int) 1 200)) := by
  unfold slotOk traceOk mtiOk
  simp only [Bool.and_assoc]
end Go.Proofs.Ytpeeagkfhdeagaa
/- The key of a slot: compared as a struct, and what it reads as in a map; no conditions. -/
set_option linter.unusedVariables false
namespace Go.Proofs.Ytpeeagkfhdeagaa
open Go.ChangeShapes Go.WideShapes Go.ChangeAt Go.RowKit
open Go.Maps (Keyed IsMap)

set_option maxRecDepth 100000 in
theorem str_beq (a b : ByteArray) : (a.toList == b.toList) = decide (a = b) := by
  by_cases h : a = b
  · subst h; simp
  · have h' : ¬ a.toList = b.toList := fun e => h (str_eq_list.1 e)
    rw [decide_eq_false h]; simpa using h'
set_option maxRecDepth 100000 in
theorem keyFields : (Try.prog.fieldsOf 78).toList.map (fun f => (f.type, f.offset, decide (f.name ≠ "_"))) = [(9, 0, true), (9, 1, true)] := by kernel_rfl
set_option maxRecDepth 100000 in
theorem keyUnder : Try.prog.underlying 78 = some (.struct (Try.prog.fieldsOf 78)) := by kernel_rfl
set_option maxRecDepth 100000 in
theorem keyEql (a b c d : ByteArray) (w : World) : (binOp .eql 78 (.agg #[.string a, .string b]) (.agg #[.string c, .string d])).run Try.prog w = .ok (.bool (decide (a = c) && decide (b = d))) w := by
  have hs : Try.prog.stoodInHeld 78 = false := by kernel_rfl
  rw [run_eql_struct, run_equalIn_struct w 9999 _ _ _ keyUnder hs, ← str_beq, ← str_beq]
  have hf := keyFields
  generalize (Try.prog.fieldsOf 78).toList = fs at hf
  have hl : fs.length = 2 := by simpa using congrArg List.length hf
  match fs, hl, hf with
  | [f, g], _, hf =>
    simp only [List.map_cons, List.map_nil, List.cons.injEq, Prod.mk.injEq, and_true, decide_eq_true_eq] at hf
    obtain ⟨⟨f1, f2, f3⟩, g1, g2, g3⟩ := hf
    have p1 : ∀ u v : Value, (Go.part 9 #[u, v] 0).run Try.prog w = .ok u w := fun u v => by kernel_rfl
    have p2 : ∀ u v : Value, (Go.part 9 #[u, v] 1).run Try.prog w = .ok v w := fun u v => by kernel_rfl
    have s1 := fun a b => run_equalIn_string (P := Try.prog) w 9998 9 a b Try.underlying9
    simp only [Op.eqFields, f1, f2, f3, g1, g2, g3, if_true, Sem.run_bind, Sem.run_ite, Sem.run_pure, p1, p2, s1, Result.andThen_ok, ne_eq, not_false_eq_true]
    cases (a.toList == c.toList) <;> cases (b.toList == d.toList) <;> simp
set_option maxRecDepth 100000 in
theorem keyLaidOut : laidOutB Try.prog = true := by kernel_rfl
set_option maxRecDepth 100000 in
theorem keyRow : (78 : TypeId) < Try.prog.types.size := of_decide_eq_true (by kernel_rfl)
set_option maxRecDepth 100000 in
theorem keyWide : (match Try.prog.underlying 78 with | some (.array _ _) | some (.struct _) => true | _ => false) = true := by rw [keyUnder]
set_option maxRecDepth 100000 in
theorem lawKey : Keyed Try.prog 78 := Keyed.of_law (deep_law_laid keyLaidOut (m := 2) (by omega) keyRow (by kernel_rfl) keyWide)
/-- what a key reads as -/
def keyLit (t m : ByteArray) : Lit := .string (keyBytes [.string t.data.toList, .string m.data.toList])
set_option maxRecDepth 100000 in
theorem keyFormed (u v : Value) : (Value.agg #[u, v]).formed Try.prog 78 = true := by
  have hc : Try.prog.cellsOf 78 = 2 := by kernel_rfl
  simp [Value.formed, hc]
set_option maxRecDepth 100000 in
theorem keyDeep : Try.prog.keyType 78 = true := by kernel_rfl
set_option maxRecDepth 100000 in
theorem keyOf_slot (t m : ByteArray) (ht : t.size ≤ maxLen) (hm : m.size ≤ maxLen) : keyOf Try.prog 78 (.agg #[.string t, .string m]) = some (keyLit t m) := by
  obtain ⟨N, hN⟩ : ∃ N, Try.prog.types.size = N + 1 := ⟨_, (Nat.succ_pred_eq_of_pos (Nat.lt_of_le_of_lt (Nat.zero_le _) keyRow)).symm⟩
  have hc : Try.prog.cellsOf 78 = 2 := by kernel_rfl
  have hcs : Try.prog.cellsOf 9 = 1 := by kernel_rfl
  have hk : Try.prog.keyLits (Try.prog.types.size + 1) 78 [.string t, .string m] = some [.string t.data.toList, .string m.data.toList] := by
    rw [hN]
    unfold Program.keyLits
    rw [keyUnder]
    have hf := keyFields
    have hall : (Try.prog.fieldsOf 78).all (·.name != "_") = true := by kernel_rfl
    simp only [List.length_cons, List.length_nil, hc, hall, and_self, if_true]
    generalize (Try.prog.fieldsOf 78).toList = fs at hf ⊢
    have hl : fs.length = 2 := by simpa using congrArg List.length hf
    match fs, hl, hf with
    | [f, g], _, hf =>
      simp only [List.map_cons, List.map_nil, List.cons.injEq, Prod.mk.injEq, and_true, decide_eq_true_eq] at hf
      obtain ⟨⟨f1, f2, -⟩, g1, g2, -⟩ := hf
      have h1 : ∀ s : ByteArray, s.size ≤ maxLen → Try.prog.keyLits (N + 1) 9 [.string s] = some [.string s.data.toList] := fun s hs => by
        unfold Program.keyLits
        rw [Try.underlying9]
        simp [hs]
      simp [f1, f2, g1, g2, hcs, h1 t ht, h1 m hm]
  unfold keyOf
  rw [keyUnder]
  have hcells : (Value.agg #[.string t, .string m]).cells.toList = [.string t, .string m] := rfl
  simp only [keyDeep, keyFormed, Bool.and_self, if_true, hcells, hk, Option.map_some]
  rfl
set_option maxRecDepth 100000 in
theorem keyLit_inj {t m t' m' : ByteArray} (ht : t.size ≤ maxLen) (hm : m.size ≤ maxLen) (ht' : t'.size ≤ maxLen) (hm' : m'.size ≤ maxLen) (h : keyLit t m = keyLit t' m') : t = t' ∧ m = m' := by
  have h1 := keyOf_slot t m ht hm
  have h2 := keyOf_slot t' m' ht' hm'
  rw [h] at h1
  have := lawKey.inj h1 h2
  simp only [Value.agg.injEq, Array.mk.injEq, List.cons.injEq, Value.string.injEq, and_true] at this
  exact this
set_option maxRecDepth 100000 in
theorem keyLit_key (t m : ByteArray) : WideAt.IsKeyLit (keyLit t m) := by simp [keyLit, WideAt.IsKeyLit]
/-- the map holds just the keys of the slots of the list -/
structure keysAre (D : DataW Unit) (L : List SlotD) : Prop where
  isMap : IsMap D
  at_ : ∀ t m : ByteArray, t.size ≤ maxLen → m.size ≤ maxLen → D.atKey (keyLit t m) (.lit (.bool false)) = .lit (.bool (L.any (isSlot t m)))
set_option maxRecDepth 100000 in
theorem keysAre.start : keysAre (.map [] : DataW Unit) [] := ⟨Maps.isMap_empty, fun t m _ _ => rfl⟩
set_option maxRecDepth 100000 in
theorem keysAre.snoc {D : DataW Unit} {L : List SlotD} {x : SlotD} (h : keysAre D L) (h1 : x.1.size ≤ maxLen) (h2 : x.2.1.size ≤ maxLen) : keysAre (D.put (keyLit x.1 x.2.1) (.lit (.bool true))) (L ++ [x]) := by
  refine ⟨h.isMap.put _ _, fun t m ht hm => ?_⟩
  rw [List.any_append]
  by_cases e : t = x.1 ∧ m = x.2.1
  · obtain ⟨rfl, rfl⟩ := e
    rw [Maps.atKey_put_same h.isMap (keyLit_key _ _)]
    simp [isSlot]
  · have hne : keyLit t m ≠ keyLit x.1 x.2.1 := fun e' => e (keyLit_inj ht hm h1 h2 e')
    rw [Maps.atKey_put_other hne, h.at_ t m ht hm]
    have : isSlot t m x = false := by
      unfold isSlot
      rw [Bool.and_eq_false_iff]
      by_cases e1 : x.1 = t
      · exact .inr (decide_eq_false fun e2 => e ⟨e1.symm, e2.symm⟩)
      · exact .inl (decide_eq_false e1)
    simp [this]
set_option maxRecDepth 100000 in
theorem plainElem_bool_inv {P : Program} {e : TypeId} (he : P.underlying e = some .bool) {v : Value} {z : DataW Unit × List MemPlace} (h : plainElem P e v = some z) : ∃ b, v = .bool b ∧ z = (.lit (.bool b), []) := by
  unfold plainElem at h
  rw [he] at h
  split at h <;> simp_all
set_option maxRecDepth 100000 in
/-- the look-up of a bool, at the operation -/
theorem look_bool {P : Program} (w : World) {ops : Array Oper} {rest : List Oper} {o : Oper} {a : Act} {Q : Exit → Act → World → Prop}
    (hg : o.guard = none) (m x : Operand) (t : TypeId) (hop : o.op = Op.lookup t m x false)
    (k e : TypeId) (K : Keyed P k) (ht : P.underlying t = some (.map k e)) (he : P.underlying e = some .bool) (hz : (zeroValue e).run P w = .ok (.bool false) w) (b n : Nat) (D : DataW Unit)
    (hm : a.eval m = .map (some b)) (hown : w.ownsMap P k (plainElem P e) b n D) (key : Value) (kl : Lit) (hx : a.eval x = key) (hkey : keyOf P k key = some kl) (s : Bool) (hat : D.atKey kl (.lit (.bool false)) = .lit (.bool s))
    (hK : wpList P ops Q rest (a.put o.dst (.bool s)) w) :
    wpList P ops Q (o :: rest) a w := by
  refine wpList_plain hg fun K' hK' => ?_
  obtain ⟨v, ps, hrun, hv⟩ := hown.lookup K ht hz (plainElem_bool he false) hkey
  obtain ⟨c, rfl, hc⟩ := plainElem_bool_inv he hv
  rw [hat] at hc
  simp only [Prod.mk.injEq, DataW.lit.injEq, Lit.bool.injEq] at hc
  obtain rfl : s = c := hc.1
  unfold Oper.wp
  simp [execOp, hop, hm, hx, hrun, Result.andThen]
  exact hK' _ _ hK
set_option maxRecDepth 100000 in
theorem look_bool_run {P : Program} {w : World} {t k e : TypeId} (K : Keyed P k) (ht : P.underlying t = some (.map k e)) (he : P.underlying e = some .bool) (hz : (zeroValue e).run P w = .ok (.bool false) w) {b n : Nat} {D : DataW Unit}
    (hown : w.ownsMap P k (plainElem P e) b n D) {key : Value} {kl : Lit} (hkey : keyOf P k key = some kl) {s : Bool} (hat : D.atKey kl (.lit (.bool false)) = .lit (.bool s)) :
    (Instr.lookup t (.map (some b)) key false).run P w = .ok (.bool s) w := by
  obtain ⟨v, ps, hrun, hv⟩ := hown.lookup K ht hz (plainElem_bool he false) hkey
  obtain ⟨c, rfl, hc⟩ := plainElem_bool_inv he hv
  rw [hat] at hc
  simp only [Prod.mk.injEq, DataW.lit.injEq, Lit.bool.injEq] at hc
  obtain rfl : s = c := hc.1
  exact hrun
end Go.Proofs.Ytpeeagkfhdeagaa
/- SlotsOk of the program: a map keyed by a struct; no conditions. -/
set_option linter.unusedVariables false
namespace Go.Proofs.Ytpeeagkfhdeagaa
open Go.ChangeShapes Go.WideShapes Go.ChangeAt Go.RowKit
open Go.Maps (Keyed IsMap)

set_option maxRecDepth 100000 in
theorem implKeyOf_any (A : Option Addr) (n c : Nat) (s t : ByteArray) (w : World) :
    Calls Try.prog 51 #[.agg #[.string s, .string t, .slice A n c]] w fun e w' => e = .returned (.agg #[.string s, .string t]) ∧ Below w.heap.size w w' := by
  go_enter Try.func51, Try.ntmps51
  go_upto_region 1 with fail
  obtain ⟨W, hW⟩ : ∃ W, W = (w.alloc (.cells #[.string s, .string t, .slice A n c] 64)).alloc (.cells #[.string ⟨#[]⟩, .string ⟨#[]⟩] 78) := ⟨_, rfl⟩
  have b0 : bk W w.heap.size 64 [.string s, .string t, .slice A n c] := by rw [hW]; exact (bk.new w _ _).alloc _
  have b1 : bk W (w.heap.size + 1) 78 [.string ⟨#[]⟩, .string ⟨#[]⟩] := by rw [hW]; have := bk.new (w.alloc (.cells #[.string s, .string t, .slice A n c] 64)) 78 [.string ⟨#[]⟩, .string ⟨#[]⟩]; simpa using this
  have HB0 : Hid (Below w.heap.size w W) := Lib.hid (by rw [hW]; exact ((Below.refl _ _).alloc (Nat.le_refl _) _).alloc (by simp) _)
  rw [← hW]
  clear hW
  obtain ⟨p0, p1, p2⟩ := b0.cells3
  have q0 := b1.cell 0
  have q1 := b1.cell 1
  have f0 := b1.frozen 0
  have f1 := b1.frozen 1
  simp only [List.getElem?_cons_zero, List.getElem?_cons_succ] at q0 q1
  clear b0 b1
  go_wp2
  refine bodyPost_ret (v := .agg #[.string s, .string t]) (by simp [results, Try.results51, go_sem, q0, q1]) rfl ?_
  exact ⟨rfl, (HB0.out.setCell (p := ⟨w.heap.size + 1, 0, none⟩) (Nat.le_succ _) _).setCell (p := ⟨w.heap.size + 1, 1, none⟩) (Nat.le_succ _) _⟩
set_option maxRecDepth 100000 in
theorem zeroBool (w : World) : (zeroValue 4).run Try.prog w = .ok (.bool false) w := by kernel_rfl
/-- block b holds a map from keys to bools -/
abbrev keysAt (w : World) (b n : Nat) (D : DataW Unit) : Prop := w.ownsMap Try.prog 78 (plainElem Try.prog 4) b n D
set_option maxRecDepth 100000 in
theorem keysAt_below {w w' : World} {b n C : Nat} {D : DataW Unit} (h : keysAt w b n D) (hb : Below C w w') (hC : b < C) : keysAt w' b n D := by
  obtain ⟨es, clock, h1, rest⟩ := h
  exact ⟨es, clock, (hb.block b hC).trans h1, rest⟩
end Go.Proofs.Ytpeeagkfhdeagaa
/- A region that draws its order, whose operations only read, and whose callees read and make memory of their own: one walk in the order of the text, over the worlds that extend a given one; no conditions. -/
set_option linter.unusedVariables false
namespace Go.Proofs.Ytpeeagkfhdeagaa
open Go.ChangeShapes Go.WideShapes Go.ChangeAt Go.RowKit

/-- W is w0 and more: all blocks of w0 hold what they held. -/
def Ext (w0 W : World) : Prop := Below w0.heap.size w0 W
set_option maxRecDepth 100000 in
theorem Ext.refl (w0 : World) : Ext w0 w0 := Below.refl _ _
set_option maxRecDepth 100000 in
theorem Ext.drew {w0 W : World} (h : Ext w0 W) : Ext w0 W.drew := Below.drew h
set_option maxRecDepth 100000 in
theorem Ext.below {w0 W : World} (h : Ext w0 W) : Below w0.heap.size w0 W := h
set_option maxRecDepth 100000 in
theorem Ext.step {w0 W W' : World} (h : Ext w0 W) (hb : Below W.heap.size W W') : Ext w0 W' := Below.trans h (hb.mono (Below.size h))
set_option maxRecDepth 100000 in
theorem Ext.cell {w0 W : World} (h : Ext w0 W) {b off : Nat} {v : Value} (hc : w0.cell? ⟨b, off, none⟩ = some v) (hb : b < w0.heap.size) : W.cell? ⟨b, off, none⟩ = some v := (Below.cell h hb).trans hc
set_option maxRecDepth 100000 in
theorem quiet_region {P : Program} {C : World → Prop} {id : Nat} {Q : Exit → Act → World → Prop} {a : Act} {w : World} {l : List Oper} (hm : P.follows .mixedOrders = true) (hB : Region.lexB .any l.toArray = true) (hC : C w.drew)
    (h : wpQuiet P l.toArray C (fun a' => ∀ w', C w' → Q .normal a' w') l a) : (Code.region id l.toArray true).wp P Q a w :=
  wp_region_quiet (C := C) hm hB hC (by simpa using h)
end Go.Proofs.Ytpeeagkfhdeagaa
/- bytes.Equal, sameSlot, slices.EqualFunc over slots, SlotsSame of the program; no conditions. -/
set_option linter.unusedVariables false
namespace Go.Proofs.Ytpeeagkfhdeagaa
open Go.ChangeShapes Go.WideShapes Go.ChangeAt Go.RowKit

set_option maxRecDepth 100000 in
theorem bytesEqual_any (h1 h2 : Nat) (u v : Value) (a b : List Int) (w : World) (hu : rd .u8 h1 w u a) (hv : rd .u8 h2 w v b) :
    Calls Try.prog 52 #[u, v] w fun e w' => e = .returned (.bool (decide (byteStr a = byteStr b))) ∧ w = w' := by
  obtain ⟨A, c, rfl, -⟩ := hu.form
  obtain ⟨B, d, rfl, -⟩ := hv.form
  have hcv1 : (convert 61 9 (.slice A a.length c)).run Try.prog w = .ok (.string (byteStr a)) w := str_of_rd hu
  have hcv2 : (convert 61 9 (.slice B b.length d)).run Try.prog w = .ok (.string (byteStr b)) w := str_of_rd hv
  clear hu hv
  generalize byteStr a = s at hcv1 ⊢
  generalize byteStr b = t at hcv2 ⊢
  go_enter Try.func52, Try.ntmps52
  go_wp2
  go_ret
  exact ⟨by rw [str_beq]; rfl, rfl⟩
set_option maxRecDepth 100000 in
set_option maxHeartbeats 1600000 in
theorem sameSlot_any (h1 h2 : Nat) (u v : Value) (x y : SlotD) (w : World) (hu : rd .u8 h1 w u x.2.2) (hv : rd .u8 h2 w v y.2.2) (hh1 : h1 ≤ w.heap.size) (hh2 : h2 ≤ w.heap.size) :
    Calls Try.prog 49 #[.agg #[.string x.1, .string x.2.1, u], .agg #[.string y.1, .string y.2.1, v]] w fun e w' => e = .returned (.bool (slotEq x y)) ∧ Below w.heap.size w w' := by
  obtain ⟨A, c, rfl, -⟩ := hu.form
  obtain ⟨B, d, rfl, -⟩ := hv.form
  have HU := Lib.hid hu
  have HV := Lib.hid hv
  clear hu hv
  have HEQ : Hid (∀ V, Below w.heap.size w V → Calls Try.prog 52 #[.slice A x.2.2.length c, .slice B y.2.2.length d] V fun e w' => e = .returned (.bool (decide (byteStr x.2.2 = byteStr y.2.2))) ∧ V = w') := Lib.hid fun V hV => bytesEqual_any h1 h2 _ _ x.2.2 y.2.2 V (HU.out.below hV hh1) (HV.out.below hV hh2)
  have HSE : Hid (slotEq x y = ((decide (x.1 = y.1) && decide (x.2.1 = y.2.1)) && decide (byteStr x.2.2 = byteStr y.2.2))) := Lib.hid (by unfold slotEq; rw [Bool.and_assoc])
  have hkq : ∀ V : World, (binOp .eql 78 (.agg #[.string x.1, .string x.2.1]) (.agg #[.string y.1, .string y.2.1])).run Try.prog V = .ok (.bool (decide (x.1 = y.1) && decide (x.2.1 = y.2.1))) V := fun V => keyEql x.1 x.2.1 y.1 y.2.1 V
  rw [HSE.out]
  generalize decide (byteStr x.2.2 = byteStr y.2.2) = eb at HEQ ⊢
  generalize (decide (x.1 = y.1) && decide (x.2.1 = y.2.1)) = ek at hkq ⊢
  clear HSE HU HV
  go_enter Try.func49, Try.ntmps49
  go_upto_region 1 with fail
  obtain ⟨W, hW⟩ : ∃ W, W = (w.alloc (.cells #[.string x.1, .string x.2.1, .slice A x.2.2.length c] 64)).alloc (.cells #[.string y.1, .string y.2.1, .slice B y.2.2.length d] 64) := ⟨_, rfl⟩
  have b0 : bk W w.heap.size 64 [.string x.1, .string x.2.1, .slice A x.2.2.length c] := by rw [hW]; exact (bk.new w _ _).alloc _
  have b1 : bk W (w.heap.size + 1) 64 [.string y.1, .string y.2.1, .slice B y.2.2.length d] := by rw [hW]; have := bk.new (w.alloc (.cells #[.string x.1, .string x.2.1, .slice A x.2.2.length c] 64)) 64 [.string y.1, .string y.2.1, .slice B y.2.2.length d]; simpa using this
  have HB0 : Hid (Below w.heap.size w W) := Lib.hid (by rw [hW]; exact ((Below.refl _ _).alloc (Nat.le_refl _) _).alloc (by simp) _)
  have z0 : w.heap.size + 2 = W.heap.size := by rw [hW]; simp
  rw [← hW]
  clear hW
  obtain ⟨p0, p1, p2⟩ := b0.cells3
  obtain ⟨q0, q1, q2⟩ := b1.cells3
  have P0 := Lib.hid p0
  have P1 := Lib.hid p1
  have P2 := Lib.hid p2
  have Q0 := Lib.hid q0
  have Q1 := Lib.hid q1
  have Q2 := Lib.hid q2
  clear p0 p1 p2 q0 q1 q2 b0 b1
  have HBX : Hid (∀ V, Ext W V → Below w.heap.size w V) := Lib.hid fun V hV => HB0.out.trans (hV.below.mono (by omega))
  have HX : Hid (Ext W W.drew) := Lib.hid (Ext.refl W).drew
  cases ek
  all_goals
    refine quiet_region (C := Ext W) (by kernel_rfl) (by kernel_rfl) HX.out ?_
    repeat (first
      | go_big_quiet_skip
      | (go_big_quiet_want; go_big_quiet_op; go_big_quiet_on)
      | (go_big_quiet_want; go_big_quiet_op; apply Exists.intro; refine ⟨fun _ _ => rfl, ?_⟩; go_big_quiet_on)
      | (go_big_quiet_want
         apply Exists.intro
         refine ⟨fun V hV => ?_, ?_⟩
         (have p0 := hV.cell P0.out (by omega)
          have p1 := hV.cell P1.out (by omega)
          have p2 := hV.cell P2.out (by omega)
          have q0 := hV.cell Q0.out (by omega)
          have q1 := hV.cell Q1.out (by omega)
          have q2 := hV.cell Q2.out (by omega)
          unfold Oper.quietAt
          go_simp
          rfl)
         simp only [Act.put, List.setIfInBounds_toArray, List.set_cons_zero, List.set_cons_succ]
         go_big_quiet_on)
      | (go_big_quiet_want
         apply Exists.intro
         refine ⟨fun V hV => ?_, ?_⟩
         (unfold Oper.quietAt
          go_simp
          go_at_call 51
          (with_reducible refine (implKeyOf_any _ _ _ _ _ V).mono ?_)
          rintro e w4 ⟨rfl, hb4⟩
          exact ⟨rfl, hV.step hb4⟩)
         simp only [Act.put, List.setIfInBounds_toArray, List.set_cons_zero, List.set_cons_succ]
         go_big_quiet_on)
      | (go_big_quiet_want
         apply Exists.intro
         refine ⟨fun V hV => ?_, ?_⟩
         (unfold Oper.quietAt
          go_simp
          go_at_call 52
          refine (HEQ.out V (HBX.out V hV)).mono ?_
          rintro e w4 ⟨rfl, rfl⟩
          exact ⟨rfl, hV⟩)
         simp only [Act.put, List.setIfInBounds_toArray, List.set_cons_zero, List.set_cons_succ]
         go_big_quiet_on)
      | fail)
    refine wpQuiet_nil ?_
    intro W4 hW4
    go_wp2
    go_ret
    exact ⟨rfl, HB0.out.trans (hW4.below.mono (by omega))⟩
set_option maxRecDepth 100000 in
set_option maxHeartbeats 1600000 in
theorem equalSlots_any (hi : Nat) (va vb : Value) (a b : List SlotD) (w : World) (hn : a.length ≤ 1048576) (h1 : SlotsR.rd hi w [va] a) (h2 : SlotsR.rd hi w [vb] b) (hh : hi ≤ w.heap.size) :
    Calls Try.prog 48 #[va, vb, .func (.func 49) #[] #[]] w fun e w' => e = .returned (.bool (slotsSame a b)) ∧ Below w.heap.size w w' := by
  obtain ⟨A1, c1, rfl, -, h1⟩ := slots_rd h1
  obtain ⟨A2, c2, rfl, -, h2⟩ := slots_rd h2
  have H1 := Lib.hid h1
  have H2 := Lib.hid h2
  clear h1 h2
  by_cases hl : a.length = b.length
  · have HL := Lib.hid hl
    have hne : ((a.length : Int) != (b.length : Int)) = false := by simp [hl]
    clear hl
    go_enter Try.func48, Try.ntmps48
    go_wp2
    go_loopw [17] (fun iv wr => ∃ i : Nat, i ≤ a.length ∧ iv = .int .i64 i ∧ Hid (∀ (j : Nat) (x y : SlotD), j < i → a[j]? = some x → b[j]? = some y → slotEq x y = true) ∧ Hid (Below w.heap.size w wr) ∧ w.heap.size ≤ wr.heap.size) (fun iv _ => a.length - (intOf iv).toNat)
    case atStart => exact ⟨0, Nat.zero_le _, rfl, Lib.hid fun j x y hj => absurd hj (by omega), Lib.hid (Below.refl _ _), Nat.le_refl _⟩
    case round =>
      obtain ⟨i, hi', rfl, HN, HB, hz⟩ := hrel
      by_cases hin : i < a.length
      · obtain ⟨x, hx⟩ : ∃ x, a[i]? = some x := ⟨_, List.getElem?_eq_getElem hin⟩
        obtain ⟨y, hy⟩ : ∃ y, b[i]? = some y := ⟨_, List.getElem?_eq_getElem (by rw [← HL.out]; exact hin)⟩
        obtain ⟨b1, o1, B1, d1, rfl, hb1, x1, y1, v1, r1⟩ := H1.out i x hx
        obtain ⟨b2, o2, B2, d2, rfl, hb2, x2, y2, v2, r2⟩ := H2.out i y hy
        have x1 := (HB.out.cell (p := ⟨b1, _, none⟩) (show b1 < w.heap.size by omega)).trans x1
        have y1 := (HB.out.cell (p := ⟨b1, _, none⟩) (show b1 < w.heap.size by omega)).trans y1
        have v1 := (HB.out.cell (p := ⟨b1, _, none⟩) (show b1 < w.heap.size by omega)).trans v1
        have g1 : (i : Int) < (a.length : Int) := by omega
        have g2 : 0 ≤ (i : Int) := by omega
        have g3 : (i : Int) < (b.length : Int) := by rw [← HL.out]; exact g1
        have HX := Lib.hid hx
        have HY := Lib.hid hy
        have HR1 := Lib.hid r1
        have HR2 := Lib.hid r2
        have HC2 := Lib.hid (And.intro x2 (And.intro y2 v2))
        clear hx hy r1 r2 x2 y2 v2
        go_upto_region 6 with fail
        obtain ⟨W3, hW3⟩ : ∃ W3, W3 = wr.alloc (.cells #[.string x.1, .string x.2.1, .slice B1 x.2.2.length d1] 64) := ⟨_, rfl⟩
        have b3 : bk W3 wr.heap.size 64 [.string x.1, .string x.2.1, .slice B1 x.2.2.length d1] := by rw [hW3]; exact bk.new wr _ _
        have hb3 : Below wr.heap.size wr W3 := by rw [hW3]; exact (Below.refl _ _).alloc (Nat.le_refl _) _
        rw [← hW3]
        clear hW3 x1 y1 v1
        have z3 := b3.lt
        have HB3 : Hid (Below w.heap.size w W3) := Lib.hid (HB.out.trans (hb3.mono hz))
        have x2 := (HB3.out.cell (p := ⟨b2, _, none⟩) (show b2 < w.heap.size by omega)).trans HC2.out.1
        have y2 := (HB3.out.cell (p := ⟨b2, _, none⟩) (show b2 < w.heap.size by omega)).trans HC2.out.2.1
        have v2 := (HB3.out.cell (p := ⟨b2, _, none⟩) (show b2 < w.heap.size by omega)).trans HC2.out.2.2
        have HX3 := Lib.hid b3
        clear hb3 HB HC2 b3
        go_upto_region 7 with fail
        obtain ⟨W4, hW4⟩ : ∃ W4, W4 = W3.alloc (.cells #[.string y.1, .string y.2.1, .slice B2 y.2.2.length d2] 64) := ⟨_, rfl⟩
        have b4 : bk W4 W3.heap.size 64 [.string y.1, .string y.2.1, .slice B2 y.2.2.length d2] := by rw [hW4]; exact bk.new W3 _ _
        have hb4 : Below W3.heap.size W3 W4 := by rw [hW4]; exact (Below.refl _ _).alloc (Nat.le_refl _) _
        rw [← hW4]
        clear hW4 x2 y2 v2
        have z4 := b4.lt
        have HB4 : Hid (Below w.heap.size w W4) := Lib.hid (HB3.out.trans (hb4.mono (by omega)))
        have HX4 := Lib.hid (HX3.out.below hb4 z3)
        clear hb4 HX3 HB3
        obtain ⟨p0, p1, p2⟩ := HX4.out.cells3
        obtain ⟨q0, q1, q2⟩ := b4.cells3
        clear b4
        have HSM := Lib.hid (sameSlot_any hi hi _ _ x y W4 (HR1.out.below HB4.out hh) (HR2.out.below HB4.out hh) (by omega) (by omega))
        have HN2 : Hid (slotEq x y = true → ∀ (j : Nat) (x y : SlotD), j < i + 1 → a[j]? = some x → b[j]? = some y → slotEq x y = true) := Lib.hid fun he j x' y' hj hx' hy' => by
          by_cases e : j = i
          · subst e
            rw [HX.out] at hx'
            rw [HY.out] at hy'
            cases hx'
            cases hy'
            exact he
          · exact HN.out j x' y' (by omega) hx' hy'
        have HF := Lib.hid (fun he => same_not HX.out HY.out he)
        generalize slotEq x y = eq at HSM HN2 HF
        go_wp2_with fail
        refine HSM.out.mono ?_
        rintro e w5 ⟨rfl, hb5⟩
        have z5 := hb5.size
        have HB5 : Hid (Below w.heap.size w w5) := Lib.hid (HB4.out.trans (hb5.mono (by omega)))
        clear hb5 p0 p1 p2 q0 q1 q2
        cases eq
        · have HV := Lib.hid (HF.out rfl)
          go_wp2
          go_ret
          exact ⟨ret_bool HV.out.symm, HB5.out⟩
        · have HN3 := Lib.hid (HN2.out rfl)
          go_wp2
          go_roundw
          case rel => exact ⟨i + 1, by omega, by go_num, HN3, HB5, by omega⟩
          case measure => simp [intOf] <;> omega
      · obtain rfl : i = a.length := by omega
        have HV : Hid (slotsSame a b = true) := Lib.hid (same_all HL.out fun j x y hx hy => HN.out j x y (List.getElem?_eq_some_iff.1 hx).1 hx hy)
        go_wp2
        go_ret
        exact ⟨ret_bool HV.out.symm, HB.out⟩
  · have HV : Hid (slotsSame a b = false) := Lib.hid (same_len hl)
    have hne : ((a.length : Int) != (b.length : Int)) = true := by simp; omega
    clear hl
    go_enter Try.func48, Try.ntmps48
    go_wp2
    go_ret
    exact ⟨ret_bool HV.out.symm, Below.refl _ _⟩
set_option maxRecDepth 100000 in
theorem implSlotsSame_any (hi : Nat) (va vb : Value) (a b : List SlotD) (w : World) (hn : a.length ≤ 1048576) (h1 : SlotsR.rd hi w [va] a) (h2 : SlotsR.rd hi w [vb] b) (hh : hi ≤ w.heap.size) :
    Calls Try.prog 39 #[va, vb] w fun e w' => e = .returned (.bool (slotsSame a b)) ∧ Below w.heap.size w w' := by
  have HC := Lib.hid (equalSlots_any hi va vb a b w hn h1 h2 hh)
  clear h1 h2
  go_enter Try.func39, Try.ntmps39
  go_wp2_with fail
  refine HC.out.mono ?_
  rintro e w1 ⟨rfl, hb1⟩
  go_wp2
  go_ret
  exact ⟨rfl, hb1⟩
end Go.Proofs.Ytpeeagkfhdeagaa
/- accountOf of the program: an account whose amounts are one part; no conditions. -/
set_option linter.unusedVariables false
namespace Go.Proofs.Ytpeeagkfhdeagaa
open Go.ChangeShapes Go.WideShapes Go.ChangeAt Go.RowKit

set_option maxRecDepth 100000 in
set_option maxHeartbeats 1600000 in
/-- an account's cells as the program's own account holds them -/
theorem implAccountOf_any (id : ByteArray) (l p m s : Int) (A1 : Option Addr) (n1 c1 : Nat) (rs rh : Int) (A2 : Option Addr) (n2 c2 : Nat) (A3 : Option Addr) (n3 c3 : Nat) (A4 : Option Addr) (n4 c4 : Nat) (w : World) :
    Calls Try.prog 22 #[.agg #[.string id, .int .i64 l, .int .i64 p, .int .i64 m, .int .i64 s, .slice A1 n1 c1, .int .i64 rs, .int .i64 rh, .slice A2 n2 c2, .slice A3 n3 c3, .slice A4 n4 c4]] w fun e w' => e = .returned (.agg #[.int .i64 l, .int .i64 p, .int .i64 m, .int .i64 s, .string id, .slice A1 n1 c1, .int .i64 rs, .int .i64 rh, .slice A2 n2 c2, .slice A3 n3 c3, .slice A4 n4 c4]) ∧ Below w.heap.size w w' := by
  go_enter Try.func22, Try.ntmps22
  go_upto_region 1 with fail
  obtain ⟨W, hW⟩ : ∃ W, W = (w.alloc (.cells #[.string id, .int .i64 l, .int .i64 p, .int .i64 m, .int .i64 s, .slice A1 n1 c1, .int .i64 rs, .int .i64 rh, .slice A2 n2 c2, .slice A3 n3 c3, .slice A4 n4 c4] 36)).alloc (.cells #[.int .i64 0, .int .i64 0, .int .i64 0, .int .i64 0, .string ⟨#[]⟩, .slice none 0 0, .int .i64 0, .int .i64 0, .slice none 0 0, .slice none 0 0, .slice none 0 0] 52) := ⟨_, rfl⟩
  have b0 : bk W w.heap.size 36 [.string id, .int .i64 l, .int .i64 p, .int .i64 m, .int .i64 s, .slice A1 n1 c1, .int .i64 rs, .int .i64 rh, .slice A2 n2 c2, .slice A3 n3 c3, .slice A4 n4 c4] := by rw [hW]; exact (bk.new w _ _).alloc _
  have b1 : bk W (w.heap.size + 1) 52 [.int .i64 0, .int .i64 0, .int .i64 0, .int .i64 0, .string ⟨#[]⟩, .slice none 0 0, .int .i64 0, .int .i64 0, .slice none 0 0, .slice none 0 0, .slice none 0 0] := by rw [hW]; simpa using bk.new (w.alloc _) 52 [.int .i64 0, .int .i64 0, .int .i64 0, .int .i64 0, .string ⟨#[]⟩, .slice none 0 0, .int .i64 0, .int .i64 0, .slice none 0 0, .slice none 0 0, .slice none 0 0]
  have HB : Hid (Below w.heap.size w W) := Lib.hid (by rw [hW]; exact ((Below.refl _ _).alloc (Nat.le_refl _) _).alloc (by simp) _)
  have z : w.heap.size + 2 ≤ W.heap.size := by rw [hW]; simp
  rw [← hW]
  clear hW
  obtain ⟨⟨p0, p1, p2, p3, p4, p5, p6, p7, p8, p9, p10⟩, -⟩ := b0.eleven
  obtain ⟨⟨r0, r1, r2, r3, r4, r5, r6, r7, r8, r9, r10⟩, g0, g1, g2, g3, g4, g5, g6, g7, g8, g9, g10⟩ := b1.eleven
  clear b0 b1
  go_wp2
  refine bodyPost_ret (v := .agg #[.int .i64 l, .int .i64 p, .int .i64 m, .int .i64 s, .string id, .slice A1 n1 c1, .int .i64 rs, .int .i64 rh, .slice A2 n2 c2, .slice A3 n3 c3, .slice A4 n4 c4]) (by simp [results, Try.results22, go_sem, r0, r1, r2, r3, r4, r5, r6, r7, r8, r9, r10]) rfl ?_
  refine ⟨rfl, ?_⟩
  repeat (refine Below.setCell ?_ (by simp <;> omega) _)
  exact HB.out
end Go.Proofs.Ytpeeagkfhdeagaa
/- AcctSame of the program, with what it calls: slices.Equal over numbers and over holds, ringsSame; no conditions. -/
set_option linter.unusedVariables false
namespace Go.Proofs.Ytpeeagkfhdeagaa
open Go.ChangeShapes Go.WideShapes Go.ChangeAt Go.RowKit

set_option maxRecDepth 100000 in
theorem take_nextI {l m : List Int} {i : Nat} {x : Int} (h1 : l[i]? = some x) (h2 : m[i]? = some x) (h : l.take i = m.take i) : l.take (i + 1) = m.take (i + 1) := by
  obtain ⟨a1, a2⟩ := List.getElem?_eq_some_iff.1 h1
  obtain ⟨b1, b2⟩ := List.getElem?_eq_some_iff.1 h2
  rw [List.take_succ_eq_append_getElem a1, List.take_succ_eq_append_getElem b1, h, a2, b2]
set_option maxRecDepth 100000 in
set_option maxHeartbeats 4000000 in
theorem equalInts_any (hi : Nat) (v v' : Value) (l m : List Int) (w : World) (hn : l.length ≤ 1048576) (h1 : rd .i64 hi w v l) (h2 : rd .i64 hi w v' m) (hh : hi ≤ w.heap.size) :
    Calls Try.prog 47 #[v, v'] w fun e w' => e = .returned (.bool (decide (l = m))) ∧ Below w.heap.size w w' := by
  obtain ⟨A1, c1, rfl, -⟩ := h1.form
  obtain ⟨A2, c2, rfl, -⟩ := h2.form
  have H1 := Lib.hid h1
  have H2 := Lib.hid h2
  clear h1 h2
  by_cases hl : l.length = m.length
  rotate_left
  · have HV : Hid (decide (l = m) = false) := Lib.hid (decide_eq_false fun e => hl (by rw [e]))
    have hne : ((l.length : Int) != (m.length : Int)) = true := by simp; omega
    clear hl
    rw [HV.out]
    go_enter Try.func47, Try.ntmps47
    go_wp2
    go_ret
    exact ⟨rfl, Below.refl _ _⟩
  have HL := Lib.hid hl
  have hne : ((l.length : Int) != (m.length : Int)) = false := by simp [hl]
  have HD : Hid (∀ (i : Nat) (x y : Int), l[i]? = some x → m[i]? = some y → ¬ x = y → decide (l = m) = false) := Lib.hid fun i x y hx hy he => decide_eq_false fun e => by
    subst e
    rw [hx] at hy
    exact he (Option.some.inj hy)
  have HT0 : Hid (l.take l.length = m.take l.length → decide (l = m) = true) := Lib.hid fun h => decide_eq_true (by rwa [List.take_length, HL.out, List.take_length] at h)
  clear hl
  generalize decide (l = m) = res at HD HT0 ⊢
  go_enter Try.func47, Try.ntmps47
  go_wp2
  go_loopw [13] (fun iv wr => ∃ i k : Nat, i ≤ l.length ∧ iv = .int .i64 i ∧ Hid (l.take i = m.take i) ∧ wr = w.drewN k) (fun iv _ => l.length - (intOf iv).toNat)
  case atStart => exact ⟨0, 0, Nat.zero_le _, rfl, Lib.hid rfl, rfl⟩
  case round =>
    obtain ⟨i, k, hi', rfl, HT, rfl⟩ := hrel
    by_cases hin : i < l.length
    · obtain ⟨x, hx⟩ : ∃ x, l[i]? = some x := ⟨_, List.getElem?_eq_getElem hin⟩
      obtain ⟨y, hy⟩ : ∃ y, m[i]? = some y := ⟨_, List.getElem?_eq_getElem (by rw [← HL.out]; exact hin)⟩
      obtain ⟨a1, o1, rfl, -, d1⟩ := ring_at H1.out hx
      obtain ⟨a3, o3, rfl, -, d3⟩ := ring_at H2.out hy
      have g1 : (i : Int) < (l.length : Int) := by omega
      have g3 : (i : Int) < (m.length : Int) := by rw [← HL.out]; exact g1
      have g2 : 0 ≤ (i : Int) := by omega
      have HX := Lib.hid hx
      have HY := Lib.hid hy
      clear hx hy
      by_cases e : x = y
      · subst e
        have HN := Lib.hid (take_nextI HX.out HY.out HT.out)
        go_upto_region 6 with fail
        go_quiet (fail)
        go_wp2
        go_roundw
        case rel => exact ⟨i + 1, k + nq, by omega, by go_num, HN, by simp [World.drewN]⟩
        case measure => simp [intOf] <;> omega
      · have n1 : (x != y) = true := by simpa using e
        have HN := Lib.hid (HD.out i x y HX.out HY.out e)
        clear e
        go_upto_region 6 with fail
        go_quiet (fail)
        go_wp2
        go_ret
        exact ⟨by rw [HN.out]; rfl, below_drew' (below_drew' (Below.refl _ _) _) _⟩
    · obtain rfl : i = l.length := by omega
      have HN := Lib.hid (HT0.out HT.out)
      go_wp2
      go_ret
      exact ⟨by rw [HN.out]; rfl, below_drew' (Below.refl _ _) _⟩
set_option maxRecDepth 100000 in
set_option maxHeartbeats 4000000 in
theorem equalHolds_any (hi : Nat) (v v' : Value) (l m : List HoldD) (w : World) (hn : l.length ≤ 1048576) (h1 : HoldsR.rd hi w [v] l) (h2 : HoldsR.rd hi w [v'] m) (hh : hi ≤ w.heap.size) :
    Calls Try.prog 37 #[v, v'] w fun e w' => e = .returned (.bool (decide (l = m))) ∧ Below w.heap.size w w' := by
  obtain ⟨A1, c1, rfl, -, hr1⟩ := holds_rd h1
  obtain ⟨A2, c2, rfl, -, hr2⟩ := holds_rd h2
  have HR1 := Lib.hid hr1
  have HR2 := Lib.hid hr2
  clear h1 h2 hr1 hr2
  by_cases hl : l.length = m.length
  rotate_left
  · have HV : Hid (decide (l = m) = false) := Lib.hid (decide_eq_false fun e => hl (by rw [e]))
    have hne : ((l.length : Int) != (m.length : Int)) = true := by simp; omega
    clear hl
    rw [HV.out]
    go_enter Try.func37, Try.ntmps37
    go_wp2
    go_ret
    exact ⟨rfl, Below.refl _ _⟩
  have HL := Lib.hid hl
  have hne : ((l.length : Int) != (m.length : Int)) = false := by simp [hl]
  have HD : Hid (∀ (i : Nat) (x y : HoldD), l[i]? = some x → m[i]? = some y → ¬ x = y → decide (l = m) = false) := Lib.hid fun i x y hx hy he => decide_eq_false fun e => by
    subst e
    rw [hx] at hy
    exact he (Option.some.inj hy)
  have HT0 : Hid (l.take l.length = m.take l.length → decide (l = m) = true) := Lib.hid fun h => decide_eq_true (by rwa [List.take_length, HL.out, List.take_length] at h)
  clear hl
  generalize decide (l = m) = res at HD HT0 ⊢
  go_enter Try.func37, Try.ntmps37
  go_wp2
  go_loopw [13] (fun iv wr => ∃ i k : Nat, i ≤ l.length ∧ iv = .int .i64 i ∧ Hid (l.take i = m.take i) ∧ wr = w.drewN k) (fun iv _ => l.length - (intOf iv).toNat)
  case atStart => exact ⟨0, 0, Nat.zero_le _, rfl, Lib.hid rfl, rfl⟩
  case round =>
    obtain ⟨i, k, hi', rfl, HT, rfl⟩ := hrel
    by_cases hin : i < l.length
    · obtain ⟨x, hx⟩ : ∃ x, l[i]? = some x := ⟨_, List.getElem?_eq_getElem hin⟩
      obtain ⟨y, hy⟩ : ∃ y, m[i]? = some y := ⟨_, List.getElem?_eq_getElem (by rw [← HL.out]; exact hin)⟩
      obtain ⟨a1, o1, rfl, -, d0, d1, d2⟩ := HR1.out i x hx
      obtain ⟨a3, o3, rfl, -, d3, d4, d5⟩ := HR2.out i y hy
      have g1 : (i : Int) < (l.length : Int) := by omega
      have g3 : (i : Int) < (m.length : Int) := by rw [← HL.out]; exact g1
      have g2 : 0 ≤ (i : Int) := by omega
      have HX := Lib.hid hx
      have HY := Lib.hid hy
      clear hx hy
      have hneq := holdNeq x y
      have HXY : Hid (decide (x = y) = true → x = y) := Lib.hid of_decide_eq_true
      have HNE : Hid (decide (x = y) = false → ¬ x = y) := Lib.hid of_decide_eq_false
      generalize decide (x = y) = eb at hneq HXY HNE
      cases eb
      · have HN := Lib.hid (HD.out i x y HX.out HY.out (HNE.out rfl))
        go_upto_region 6 with fail
        go_quiet (fail)
        go_wp2
        go_ret
        exact ⟨by rw [HN.out]; rfl, below_drew' (Below.refl _ _) _⟩
      · have HN := Lib.hid (take_nextH HX.out (by rw [HXY.out rfl]; exact HY.out) HT.out)
        go_upto_region 6 with fail
        go_quiet (fail)
        go_wp2
        go_roundw
        case rel => exact ⟨i + 1, k + nq, by omega, by go_num, HN, by simp [World.drewN]⟩
        case measure => simp [intOf] <;> omega
    · obtain rfl : i = l.length := by omega
      have HN := Lib.hid (HT0.out HT.out)
      go_wp2
      go_ret
      exact ⟨by rw [HN.out]; rfl, below_drew' (Below.refl _ _) _⟩
set_option maxRecDepth 100000 in
set_option maxHeartbeats 4000000 in
theorem ringsSame_any (hi : Nat) (vc vs vc' vs' : Value) (r q : RingD) (w : World) (h1 : rd .i64 hi w vc r.2.2.1) (h2 : rd .i64 hi w vs r.2.2.2) (h3 : rd .i64 hi w vc' q.2.2.1) (h4 : rd .i64 hi w vs' q.2.2.2) (hh : hi ≤ w.heap.size) (hc : r.2.2.1.length ≤ 1048576) (hs : r.2.2.2.length ≤ 1048576) :
    Calls Try.prog 38 #[.agg #[.int .i64 r.1, .int .i64 r.2.1, vc, vs], .agg #[.int .i64 q.1, .int .i64 q.2.1, vc', vs']] w fun e w' => e = .returned (.bool (decide (r = q))) ∧ Below w.heap.size w w' := by
  obtain ⟨sp, hd, cs, ss⟩ := r
  obtain ⟨sp', hd', cs', ss'⟩ := q
  simp only at h1 h2 h3 h4 hc hs ⊢
  obtain ⟨A1, c1, rfl, -⟩ := h1.form
  obtain ⟨A2, c2, rfl, -⟩ := h2.form
  obtain ⟨A3, c3, rfl, -⟩ := h3.form
  obtain ⟨A4, c4, rfl, -⟩ := h4.form
  have HQ1 := Lib.hid (fun V (hV : Below w.heap.size w V) => equalInts_any hi _ _ cs cs' V hc (h1.below hV hh) (h3.below hV hh) (Nat.le_trans hh hV.size))
  have HQ2 := Lib.hid (fun V (hV : Below w.heap.size w V) => equalInts_any hi _ _ ss ss' V hs (h2.below hV hh) (h4.below hV hh) (Nat.le_trans hh hV.size))
  have HE : Hid (decide ((sp, hd, cs, ss) = (sp', hd', cs', ss')) = (decide (sp = sp') && (decide (hd = hd') && (decide (cs = cs') && decide (ss = ss'))))) := Lib.hid (by simp only [Prod.mk.injEq, Bool.decide_and])
  clear h1 h2 h3 h4
  generalize decide ((sp, hd, cs, ss) = (sp', hd', cs', ss')) = res at HE ⊢
  generalize decide (cs = cs') = t3 at HE HQ1
  generalize decide (ss = ss') = t4 at HE HQ2
  go_enter Try.func38, Try.ntmps38
  go_upto_region 1 with fail
  obtain ⟨W, hW⟩ : ∃ W, W = (w.alloc (.cells #[.int .i64 sp, .int .i64 hd, .slice A1 cs.length c1, .slice A2 ss.length c2] 33)).alloc (.cells #[.int .i64 sp', .int .i64 hd', .slice A3 cs'.length c3, .slice A4 ss'.length c4] 33) := ⟨_, rfl⟩
  have b0 : bk W w.heap.size 33 [.int .i64 sp, .int .i64 hd, .slice A1 cs.length c1, .slice A2 ss.length c2] := by rw [hW]; exact (bk.new w _ _).alloc _
  have b1 : bk W (w.heap.size + 1) 33 [.int .i64 sp', .int .i64 hd', .slice A3 cs'.length c3, .slice A4 ss'.length c4] := by rw [hW]; simpa using bk.new (w.alloc _) 33 [.int .i64 sp', .int .i64 hd', .slice A3 cs'.length c3, .slice A4 ss'.length c4]
  have HB : Hid (Below w.heap.size w W) := Lib.hid (by rw [hW]; exact ((Below.refl _ _).alloc (Nat.le_refl _) _).alloc (by simp) _)
  have y0 : w.heap.size + 2 ≤ W.heap.size := by rw [hW]; simp
  rw [← hW]
  clear hW

  obtain ⟨⟨p0, p1, p2, p3⟩, -⟩ := b0.cells
  obtain ⟨⟨q0, q1, q2, q3⟩, -⟩ := b1.cells
  by_cases e1 : sp = sp'
  rotate_left
  · have n1 : (sp == sp') = false := by simpa using e1
    have HN := Lib.hid (HE.out.trans (show _ = false by rw [decide_eq_false e1]; rfl))
    clear e1
    go_wp2
    go_ret
    exact ⟨by rw [HN.out]; rfl, HB.out⟩
  subst e1
  by_cases e2 : hd = hd'
  rotate_left
  · have n1 : (hd == hd') = false := by simpa using e2
    have HN := Lib.hid (HE.out.trans (show _ = false by rw [decide_eq_false e2]; simp))
    clear e2
    go_wp2
    go_ret
    exact ⟨by rw [HN.out]; rfl, HB.out⟩
  subst e2
  have HN : Hid (res = (t3 && t4)) := Lib.hid (HE.out.trans (by simp))
  clear HE
  have B0 := Lib.hid b0
  have B1 := Lib.hid b1
  clear b0 b1
  go_wp2_with fail
  refine (HQ1.out W HB.out).mono ?_
  rintro e w2 ⟨rfl, hb2⟩
  have z2 := hb2.size
  have HB2 : Hid (Below w.heap.size w w2) := Lib.hid (HB.out.trans (hb2.mono (by omega)))
  have HC0 := Lib.hid (B0.out.below hb2 (by omega))
  have HC1 := Lib.hid (B1.out.below hb2 (by omega))
  clear hb2 p0 p1 p2 p3 q0 q1 q2 q3
  cases t3
  · go_wp2
    go_ret
    exact ⟨by rw [HN.out]; rfl, HB2.out⟩
  obtain ⟨⟨p0, p1, p2, p3⟩, -⟩ := HC0.out.cells
  obtain ⟨⟨q0, q1, q2, q3⟩, -⟩ := HC1.out.cells
  go_wp2_with fail
  refine (HQ2.out w2 HB2.out).mono ?_
  rintro e w4 ⟨rfl, hb4⟩
  have HB4 : Hid (Below w.heap.size w w4) := Lib.hid (HB2.out.trans (hb4.mono (by omega)))
  clear hb4
  go_wp2
  go_ret
  exact ⟨by rw [HN.out]; rfl, HB4.out⟩
set_option maxRecDepth 100000 in
theorem amtUnder : Try.prog.underlying 50 = some (.struct (Try.prog.fieldsOf 50)) := by kernel_rfl
set_option maxRecDepth 100000 in
theorem amtFields : (Try.prog.fieldsOf 50).toList.map (fun f => (f.type, f.offset, decide (f.name ≠ "_"))) = [(3, 0, true), (3, 1, true), (3, 2, true), (3, 3, true)] := by kernel_rfl
set_option maxRecDepth 100000 in
theorem amtEql (a b c d a' b' c' d' : Int) (w : World) : (binOp .eql 50 (.agg #[.int .i64 a, .int .i64 b, .int .i64 c, .int .i64 d]) (.agg #[.int .i64 a', .int .i64 b', .int .i64 c', .int .i64 d'])).run Try.prog w = .ok (.bool (decide (a = a') && (decide (b = b') && (decide (c = c') && decide (d = d'))))) w := by
  have hs : Try.prog.stoodInHeld 50 = false := by kernel_rfl
  rw [run_eql_struct, run_equalIn_struct w 9999 _ _ _ amtUnder hs]
  have hf := amtFields
  generalize (Try.prog.fieldsOf 50).toList = fs at hf
  have hl : fs.length = 4 := by simpa using congrArg List.length hf
  match fs, hl, hf with
  | [f, g, h, k], _, hf =>
    simp only [List.map_cons, List.map_nil, List.cons.injEq, Prod.mk.injEq, and_true, decide_eq_true_eq] at hf
    obtain ⟨⟨f1, f2, f3⟩, ⟨g1, g2, g3⟩, ⟨h1, h2, h3⟩, k1, k2, k3⟩ := hf
    have p1 : ∀ u v x y : Value, (Go.part 3 #[u, v, x, y] 0).run Try.prog w = .ok u w := fun u v x y => by kernel_rfl
    have p2 : ∀ u v x y : Value, (Go.part 3 #[u, v, x, y] 1).run Try.prog w = .ok v w := fun u v x y => by kernel_rfl
    have p3 : ∀ u v x y : Value, (Go.part 3 #[u, v, x, y] 2).run Try.prog w = .ok x w := fun u v x y => by kernel_rfl
    have p4 : ∀ u v x y : Value, (Go.part 3 #[u, v, x, y] 3).run Try.prog w = .ok y w := fun u v x y => by kernel_rfl
    have s2 := fun a b => run_equalIn_int (P := Try.prog) w 9998 3 .i64 .i64 a b Try.underlying3
    simp only [Op.eqFields, f1, f2, f3, g1, g2, g3, h1, h2, h3, k1, k2, k3, if_true, Sem.run_bind, Sem.run_ite, Sem.run_pure, p1, p2, p3, p4, s2, Result.andThen_ok, ne_eq, not_false_eq_true]
    have q : ∀ x y : Int, (x == y) = decide (x = y) := fun x y => by by_cases h : x = y <;> simp [h]
    simp only [q]
    cases decide (a = a') <;> cases decide (b = b') <;> cases decide (c = c') <;> cases decide (d = d') <;> simp
set_option maxRecDepth 100000 in
set_option maxHeartbeats 8000000 in
theorem implSame_any (hi : Nat) (id : ByteArray) (lim pos most sum : Int) (hs : List HoldD) (sp hd : Int) (cs ss : List Int) (sl : List SlotD) (id' : ByteArray) (lim' pos' most' sum' : Int) (hs' : List HoldD) (sp' hd' : Int) (cs' ss' : List Int) (sl' : List SlotD) (vh vc vs vl vh' vc' vs' vl' : Value) (w : World) (z1 : hs.length ≤ 1048576) (z2 : cs.length ≤ 1048576) (z3 : ss.length ≤ 1048576) (z4 : sl.length ≤ 1048576) (r1 : HoldsR.rd hi w [vh] hs) (r2 : rd .i64 hi w vc cs) (r3 : rd .i64 hi w vs ss) (r4 : SlotsR.rd hi w [vl] sl) (r1b : HoldsR.rd hi w [vh'] hs') (r2b : rd .i64 hi w vc' cs') (r3b : rd .i64 hi w vs' ss') (r4b : SlotsR.rd hi w [vl'] sl') (hh : hi ≤ w.heap.size) :
    Calls Try.prog 23 #[.agg #[.int .i64 lim, .int .i64 pos, .int .i64 most, .int .i64 sum, .string id, vh, .int .i64 sp, .int .i64 hd, vc, vs, vl], .agg #[.int .i64 lim', .int .i64 pos', .int .i64 most', .int .i64 sum', .string id', vh', .int .i64 sp', .int .i64 hd', vc', vs', vl']] w fun e w' => e = .returned (.bool (acctSame (id, lim, pos, most, sum, hs, (sp, hd, cs, ss), sl) (id', lim', pos', most', sum', hs', (sp', hd', cs', ss'), sl'))) ∧ Below w.heap.size w w' := by
  have HEQ : Hid (acctSame (id, lim, pos, most, sum, hs, (sp, hd, cs, ss), sl) (id', lim', pos', most', sum', hs', (sp', hd', cs', ss'), sl') = (decide (id = id') && ((decide (lim = lim') && (decide (pos = pos') && (decide (most = most') && decide (sum = sum')))) && (decide (hs = hs') && (decide ((sp, hd, cs, ss) = (sp', hd', cs', ss')) && slotsSame sl sl'))))) := Lib.hid (by simp only [acctSame, Bool.and_assoc])
  obtain ⟨AH, cH, rfl, -⟩ := Rep.slice_form r1
  obtain ⟨AC, cC, rfl, -⟩ := r2.form
  obtain ⟨AS, cS, rfl, -⟩ := r3.form
  obtain ⟨AL, cL, rfl, -⟩ := Rep.slice_form r4
  obtain ⟨AH', cH', rfl, -⟩ := Rep.slice_form r1b
  obtain ⟨AC', cC', rfl, -⟩ := r2b.form
  obtain ⟨AS', cS', rfl, -⟩ := r3b.form
  obtain ⟨AL', cL', rfl, -⟩ := Rep.slice_form r4b
  have HQ0 := Lib.hid (fun W (hW : Below w.heap.size w W) => equalHolds_any hi _ _ hs hs' W z1 (Rep.below (R := HoldsR) r1 hW hh) (Rep.below (R := HoldsR) r1b hW hh) (Nat.le_trans hh hW.size))
  have HQ1 := Lib.hid (fun W (hW : Below w.heap.size w W) => ringsSame_any hi _ _ _ _ (sp, hd, cs, ss) (sp', hd', cs', ss') W (r2.below hW hh) (r3.below hW hh) (r2b.below hW hh) (r3b.below hW hh) (Nat.le_trans hh hW.size) z2 z3)
  have HQ2 := Lib.hid (fun W (hW : Below w.heap.size w W) => implSlotsSame_any hi _ _ sl sl' W z4 (Rep.below (R := SlotsR) r4 hW hh) (Rep.below (R := SlotsR) r4b hW hh) (Nat.le_trans hh hW.size))
  have hamt := amtEql lim pos most sum lim' pos' most' sum'
  clear r1 r2 r3 r4 r1b r2b r3b r4b z1 z2 z3 z4
  generalize acctSame (id, lim, pos, most, sum, hs, (sp, hd, cs, ss), sl) (id', lim', pos', most', sum', hs', (sp', hd', cs', ss'), sl') = am at HEQ ⊢
  generalize (decide (lim = lim') && (decide (pos = pos') && (decide (most = most') && decide (sum = sum')))) = bm at HEQ hamt
  generalize decide (hs = hs') = hm at HEQ HQ0
  generalize decide ((sp, hd, cs, ss) = (sp', hd', cs', ss')) = rm at HEQ HQ1
  generalize slotsSame sl sl' = sm at HEQ HQ2
  go_enter Try.func23, Try.ntmps23
  go_upto_region 1 with fail
  obtain ⟨W, hW⟩ : ∃ W, W = (w.alloc (.cells #[.int .i64 lim, .int .i64 pos, .int .i64 most, .int .i64 sum, .string id, .slice AH hs.length cH, .int .i64 sp, .int .i64 hd, .slice AC cs.length cC, .slice AS ss.length cS, .slice AL sl.length cL] 52)).alloc (.cells #[.int .i64 lim', .int .i64 pos', .int .i64 most', .int .i64 sum', .string id', .slice AH' hs'.length cH', .int .i64 sp', .int .i64 hd', .slice AC' cs'.length cC', .slice AS' ss'.length cS', .slice AL' sl'.length cL'] 52) := ⟨_, rfl⟩
  have b0 : bk W w.heap.size 52 [.int .i64 lim, .int .i64 pos, .int .i64 most, .int .i64 sum, .string id, .slice AH hs.length cH, .int .i64 sp, .int .i64 hd, .slice AC cs.length cC, .slice AS ss.length cS, .slice AL sl.length cL] := by rw [hW]; exact (bk.new w _ _).alloc _
  have b1 : bk W (w.heap.size + 1) 52 [.int .i64 lim', .int .i64 pos', .int .i64 most', .int .i64 sum', .string id', .slice AH' hs'.length cH', .int .i64 sp', .int .i64 hd', .slice AC' cs'.length cC', .slice AS' ss'.length cS', .slice AL' sl'.length cL'] := by rw [hW]; simpa using bk.new (w.alloc _) 52 [.int .i64 lim', .int .i64 pos', .int .i64 most', .int .i64 sum', .string id', .slice AH' hs'.length cH', .int .i64 sp', .int .i64 hd', .slice AC' cs'.length cC', .slice AS' ss'.length cS', .slice AL' sl'.length cL']
  have HB : Hid (Below w.heap.size w W) := Lib.hid (by rw [hW]; exact ((Below.refl _ _).alloc (Nat.le_refl _) _).alloc (by simp) _)
  have y0 : w.heap.size + 2 ≤ W.heap.size := by rw [hW]; simp
  rw [← hW]
  clear hW

  obtain ⟨⟨p0, p1, p2, p3, p4, p5, p6, p7, p8, p9, p10⟩, -⟩ := b0.eleven
  obtain ⟨⟨q0, q1, q2, q3, q4, q5, q6, q7, q8, q9, q10⟩, -⟩ := b1.eleven
  have B0 := Lib.hid b0
  have B1 := Lib.hid b1
  clear b0 b1
  by_cases e0 : id = id'
  rotate_left
  · have n2 : (id.toList == id'.toList) = false := by simpa using fun e => e0 (str_eq_list.1 e)
    have HN := Lib.hid (HEQ.out.trans (show _ = false by rw [decide_eq_false e0]; rfl))
    clear e0
    go_wp2
    go_ret
    exact ⟨by rw [HN.out]; rfl, HB.out⟩
  subst e0
  have HN : Hid (am = (bm && (hm && (rm && sm)))) := Lib.hid (HEQ.out.trans (by simp))
  clear HEQ
  cases bm
  · go_wp2
    go_ret
    exact ⟨by rw [HN.out]; rfl, HB.out⟩
  go_wp2_with fail
  refine (HQ0.out W HB.out).mono ?_
  rintro e w2 ⟨rfl, hb2⟩
  have z2 := hb2.size
  have HB2 : Hid (Below w.heap.size w w2) := Lib.hid (HB.out.trans (hb2.mono (by omega)))
  have HC0 := Lib.hid (B0.out.below hb2 (by omega))
  have HC1 := Lib.hid (B1.out.below hb2 (by omega))
  clear hb2 p0 p1 p2 p3 p4 p5 p6 p7 p8 p9 p10 q0 q1 q2 q3 q4 q5 q6 q7 q8 q9 q10
  cases hm
  · go_wp2
    go_ret
    exact ⟨by rw [HN.out]; rfl, HB2.out⟩
  obtain ⟨⟨p0, p1, p2, p3, p4, p5, p6, p7, p8, p9, p10⟩, -⟩ := HC0.out.eleven
  obtain ⟨⟨q0, q1, q2, q3, q4, q5, q6, q7, q8, q9, q10⟩, -⟩ := HC1.out.eleven
  go_wp2_with fail
  refine (HQ1.out w2 HB2.out).mono ?_
  rintro e w3 ⟨rfl, hb3⟩
  have z3 := hb3.size
  have HB3 : Hid (Below w.heap.size w w3) := Lib.hid (HB2.out.trans (hb3.mono (by omega)))
  have HD0 := Lib.hid (HC0.out.below hb3 (by omega))
  have HD1 := Lib.hid (HC1.out.below hb3 (by omega))
  clear hb3 p0 p1 p2 p3 p4 p5 p6 p7 p8 p9 p10 q0 q1 q2 q3 q4 q5 q6 q7 q8 q9 q10
  cases rm
  · go_wp2
    go_ret
    exact ⟨by rw [HN.out]; rfl, HB3.out⟩
  obtain ⟨⟨p0, p1, p2, p3, p4, p5, p6, p7, p8, p9, p10⟩, -⟩ := HD0.out.eleven
  obtain ⟨⟨q0, q1, q2, q3, q4, q5, q6, q7, q8, q9, q10⟩, -⟩ := HD1.out.eleven
  go_wp2_with fail
  refine (HQ2.out w3 HB3.out).mono ?_
  rintro e w4 ⟨rfl, hb4⟩
  have HB4 : Hid (Below w.heap.size w w4) := Lib.hid (HB3.out.trans (hb4.mono (by omega)))
  clear hb4
  go_wp2
  go_ret
  exact ⟨by rw [HN.out]; rfl, HB4.out⟩
set_option maxRecDepth 100000 in
set_option maxHeartbeats 8000000 in
theorem implAcctSame_any (hi : Nat) (vh vc vs vl vh' vc' vs' vl' : Value) (a b : AcctD) (w : World) (hz : acctSmall 1048576 a) (h1 : AcctR.rd hi w (aCells a vh vc vs vl) a) (h2 : AcctR.rd hi w (aCells b vh' vc' vs' vl') b) (hh : hi ≤ w.heap.size) :
    Calls Try.prog 10 #[.agg #[.string (aId a), .int .i64 (aLim a), .int .i64 (aPos a), .int .i64 (aMost a), .int .i64 (aSum a), vh, .int .i64 (aR a).1, .int .i64 (aR a).2.1, vc, vs, vl], .agg #[.string (aId b), .int .i64 (aLim b), .int .i64 (aPos b), .int .i64 (aMost b), .int .i64 (aSum b), vh', .int .i64 (aR b).1, .int .i64 (aR b).2.1, vc', vs', vl']] w fun e w' => e = .returned (.bool (acctSame a b)) ∧ Below w.heap.size w w' := by
  obtain ⟨vh0, vc0, vs0, vl0, hcs, r1, r2, r3, r4⟩ := acct_rd h1
  simp only [aCells, List.cons.injEq, and_true, true_and] at hcs
  obtain ⟨rfl, rfl, rfl, rfl⟩ := hcs
  clear h1
  obtain ⟨vh0, vc0, vs0, vl0, hcs, r1b, r2b, r3b, r4b⟩ := acct_rd h2
  simp only [aCells, List.cons.injEq, and_true, true_and] at hcs
  obtain ⟨rfl, rfl, rfl, rfl⟩ := hcs
  clear h2
  obtain ⟨z1, z2, z3, z4, z5⟩ := hz
  obtain ⟨id, lim, pos, most, sum, hs, ⟨sp, hd, cs, ss⟩, sl⟩ := a
  obtain ⟨id', lim', pos', most', sum', hs', ⟨sp', hd', cs', ss'⟩, sl'⟩ := b
  simp only [aId, aLim, aPos, aMost, aSum, aH, aS] at r1 r2 r3 r4 r1b r2b r3b r4b z1 z2 z3 z4 z5 ⊢
  have HQ := Lib.hid (fun W (hW : Below w.heap.size w W) => implSame_any hi id lim pos most sum hs sp hd cs ss sl id' lim' pos' most' sum' hs' sp' hd' cs' ss' sl' vh vc vs vl vh' vc' vs' vl' W z1 z2 z3 z4 (Rep.below (R := HoldsR) r1 hW hh) (r2.below hW hh) (r3.below hW hh) (Rep.below (R := SlotsR) r4 hW hh) (Rep.below (R := HoldsR) r1b hW hh) (r2b.below hW hh) (r3b.below hW hh) (Rep.below (R := SlotsR) r4b hW hh) (Nat.le_trans hh hW.size))
  obtain ⟨AH, cH, rfl, -⟩ := Rep.slice_form r1
  obtain ⟨AC, cC, rfl, -⟩ := r2.form
  obtain ⟨AS, cS, rfl, -⟩ := r3.form
  obtain ⟨AL, cL, rfl, -⟩ := Rep.slice_form r4
  obtain ⟨AH', cH', rfl, -⟩ := Rep.slice_form r1b
  obtain ⟨AC', cC', rfl, -⟩ := r2b.form
  obtain ⟨AS', cS', rfl, -⟩ := r3b.form
  obtain ⟨AL', cL', rfl, -⟩ := Rep.slice_form r4b
  have HA := Lib.hid (fun V => implAccountOf_any id lim pos most sum AH hs.length cH sp hd AC cs.length cC AS ss.length cS AL sl.length cL V)
  have HA2 := Lib.hid (fun V => implAccountOf_any id' lim' pos' most' sum' AH' hs'.length cH' sp' hd' AC' cs'.length cC' AS' ss'.length cS' AL' sl'.length cL' V)
  clear r1 r2 r3 r4 r1b r2b r3b r4b z1 z2 z3 z4 z5
  generalize acctSame (id, lim, pos, most, sum, hs, (sp, hd, cs, ss), sl) (id', lim', pos', most', sum', hs', (sp', hd', cs', ss'), sl') = am at HQ ⊢
  go_enter Try.func10, Try.ntmps10
  go_upto_region 1 with fail
  obtain ⟨W, hW⟩ : ∃ W, W = (w.alloc (.cells #[.string id, .int .i64 lim, .int .i64 pos, .int .i64 most, .int .i64 sum, .slice AH hs.length cH, .int .i64 sp, .int .i64 hd, .slice AC cs.length cC, .slice AS ss.length cS, .slice AL sl.length cL] 36)).alloc (.cells #[.string id', .int .i64 lim', .int .i64 pos', .int .i64 most', .int .i64 sum', .slice AH' hs'.length cH', .int .i64 sp', .int .i64 hd', .slice AC' cs'.length cC', .slice AS' ss'.length cS', .slice AL' sl'.length cL'] 36) := ⟨_, rfl⟩
  have b0 : bk W w.heap.size 36 [.string id, .int .i64 lim, .int .i64 pos, .int .i64 most, .int .i64 sum, .slice AH hs.length cH, .int .i64 sp, .int .i64 hd, .slice AC cs.length cC, .slice AS ss.length cS, .slice AL sl.length cL] := by rw [hW]; exact (bk.new w _ _).alloc _
  have b1 : bk W (w.heap.size + 1) 36 [.string id', .int .i64 lim', .int .i64 pos', .int .i64 most', .int .i64 sum', .slice AH' hs'.length cH', .int .i64 sp', .int .i64 hd', .slice AC' cs'.length cC', .slice AS' ss'.length cS', .slice AL' sl'.length cL'] := by rw [hW]; simpa using bk.new (w.alloc _) 36 [.string id', .int .i64 lim', .int .i64 pos', .int .i64 most', .int .i64 sum', .slice AH' hs'.length cH', .int .i64 sp', .int .i64 hd', .slice AC' cs'.length cC', .slice AS' ss'.length cS', .slice AL' sl'.length cL']
  have HB : Hid (Below w.heap.size w W) := Lib.hid (by rw [hW]; exact ((Below.refl _ _).alloc (Nat.le_refl _) _).alloc (by simp) _)
  have y0 : w.heap.size + 2 ≤ W.heap.size := by rw [hW]; simp
  rw [← hW]
  clear hW

  obtain ⟨⟨p0, p1, p2, p3, p4, p5, p6, p7, p8, p9, p10⟩, -⟩ := b0.eleven
  obtain ⟨⟨q0, q1, q2, q3, q4, q5, q6, q7, q8, q9, q10⟩, -⟩ := b1.eleven
  have P0 := Lib.hid p0
  have P1 := Lib.hid p1
  have P2 := Lib.hid p2
  have P3 := Lib.hid p3
  have P4 := Lib.hid p4
  have P5 := Lib.hid p5
  have P6 := Lib.hid p6
  have P7 := Lib.hid p7
  have P8 := Lib.hid p8
  have P9 := Lib.hid p9
  have P10 := Lib.hid p10
  have Q0 := Lib.hid q0
  have Q1 := Lib.hid q1
  have Q2 := Lib.hid q2
  have Q3 := Lib.hid q3
  have Q4 := Lib.hid q4
  have Q5 := Lib.hid q5
  have Q6 := Lib.hid q6
  have Q7 := Lib.hid q7
  have Q8 := Lib.hid q8
  have Q9 := Lib.hid q9
  have Q10 := Lib.hid q10
  clear b0 b1 p0 p1 p2 p3 p4 p5 p6 p7 p8 p9 p10 q0 q1 q2 q3 q4 q5 q6 q7 q8 q9 q10
  have HBX : Hid (∀ V, Ext W V → Below w.heap.size w V) := Lib.hid fun V hV => HB.out.trans (hV.below.mono (by omega))
  have HX : Hid (Ext W W.drew) := Lib.hid (Ext.refl W).drew
  refine quiet_region (C := Ext W) (by kernel_rfl) (by kernel_rfl) HX.out ?_
  repeat (first
    | go_big_quiet_skip
    | (go_big_quiet_want; go_big_quiet_op; go_big_quiet_on)
    | (go_big_quiet_want; go_big_quiet_op; apply Exists.intro; refine ⟨fun _ _ => rfl, ?_⟩; go_big_quiet_on)
    | (go_big_quiet_want
       apply Exists.intro
       refine ⟨fun V hV => ?_, ?_⟩
       (have l0 := hV.cell P0.out (by omega)
        have l1 := hV.cell P1.out (by omega)
        have l2 := hV.cell P2.out (by omega)
        have l3 := hV.cell P3.out (by omega)
        have l4 := hV.cell P4.out (by omega)
        have l5 := hV.cell P5.out (by omega)
        have l6 := hV.cell P6.out (by omega)
        have l7 := hV.cell P7.out (by omega)
        have l8 := hV.cell P8.out (by omega)
        have l9 := hV.cell P9.out (by omega)
        have l10 := hV.cell P10.out (by omega)
        unfold Oper.quietAt
        go_simp
        rfl)
       simp only [Act.put, List.setIfInBounds_toArray, List.set_cons_zero, List.set_cons_succ]
       go_big_quiet_on)
    | (go_big_quiet_want
       apply Exists.intro
       refine ⟨fun V hV => ?_, ?_⟩
       (have l0 := hV.cell Q0.out (by omega)
        have l1 := hV.cell Q1.out (by omega)
        have l2 := hV.cell Q2.out (by omega)
        have l3 := hV.cell Q3.out (by omega)
        have l4 := hV.cell Q4.out (by omega)
        have l5 := hV.cell Q5.out (by omega)
        have l6 := hV.cell Q6.out (by omega)
        have l7 := hV.cell Q7.out (by omega)
        have l8 := hV.cell Q8.out (by omega)
        have l9 := hV.cell Q9.out (by omega)
        have l10 := hV.cell Q10.out (by omega)
        unfold Oper.quietAt
        go_simp
        rfl)
       simp only [Act.put, List.setIfInBounds_toArray, List.set_cons_zero, List.set_cons_succ]
       go_big_quiet_on)
    | (go_big_quiet_want
       apply Exists.intro
       refine ⟨fun V hV => ?_, ?_⟩
       (unfold Oper.quietAt
        go_simp
        go_at_call 22
        (with_reducible refine (HA.out V).mono ?_)
        rintro e w4 ⟨rfl, hb4⟩
        exact ⟨rfl, hV.step hb4⟩)
       simp only [Act.put, List.setIfInBounds_toArray, List.set_cons_zero, List.set_cons_succ]
       go_big_quiet_on)
    | (go_big_quiet_want
       apply Exists.intro
       refine ⟨fun V hV => ?_, ?_⟩
       (unfold Oper.quietAt
        go_simp
        go_at_call 22
        (with_reducible refine (HA2.out V).mono ?_)
        rintro e w4 ⟨rfl, hb4⟩
        exact ⟨rfl, hV.step hb4⟩)
       simp only [Act.put, List.setIfInBounds_toArray, List.set_cons_zero, List.set_cons_succ]
       go_big_quiet_on)
    | (go_big_quiet_want
       apply Exists.intro
       refine ⟨fun V hV => ?_, ?_⟩
       (unfold Oper.quietAt
        go_simp
        go_at_call 23
        (with_reducible refine (HQ.out V (HBX.out V hV)).mono ?_)
        rintro e w4 ⟨rfl, hb4⟩
        exact ⟨rfl, hV.step hb4⟩)
       simp only [Act.put, List.setIfInBounds_toArray, List.set_cons_zero, List.set_cons_succ]
       go_big_quiet_on)
    | fail)
  refine wpQuiet_nil ?_
  intro W4 hW4
  go_wp2
  go_ret
  exact ⟨rfl, HBX.out W4 hW4⟩
end Go.Proofs.Ytpeeagkfhdeagaa
