/- SlotOf of the reference; no conditions. -/
import Derived.Test.YtkbakcnhhlmpkaaSlotS
import Derived.Test.YtkbakcnhhlmpkaaHoldA
set_option linter.unusedVariables false
namespace Go.Proofs.Ytkbakcnhhlmpkaa
open Go.ChangeShapes Go.WideShapes Go.ChangeAt Go.RowKit

set_option maxRecDepth 100000 in
theorem ow_made (T : TypeId) (K : IntKind) (w : World) : ow T K w.heap.size (w.alloc (.cells #[] T)) (.slice (some ⟨w.heap.size, 0, none⟩) 0 0) [] := by
  refine ⟨rfl, Or.inr ⟨w.heap.size, 0, #[], rfl, Nat.le_refl _, ?_, Nat.le_refl _, Nat.zero_le _, rfl, rfl⟩⟩
  show (w.heap.push _)[w.heap.size]? = _
  simp
/-- the first with this trace and this type: its reply -/
def isSlot (t m : ByteArray) (x : SlotD) : Bool := decide (x.1 = t) && decide (x.2.1 = m)
def slotOfL (l : List SlotD) (t m : ByteArray) : List Int × Bool := match l.find? (isSlot t m) with | some x => (x.2.2, true) | none => ([], false)
set_option maxRecDepth 100000 in
theorem slotOf_none {l : List SlotD} {t m : ByteArray} (h : ∀ x ∈ l, isSlot t m x = false) : slotOfL l t m = ([], false) := by
  have h1 : l.find? (isSlot t m) = none := List.find?_eq_none.2 fun x hx => by rw [h x hx]; exact Bool.false_ne_true
  unfold slotOfL
  rw [h1]
set_option maxRecDepth 100000 in
theorem slotOf_some {l : List SlotD} {t m : ByteArray} {i : Nat} {x : SlotD} (hx : l[i]? = some x) (he : isSlot t m x = true) (h : ∀ y ∈ l.take i, isSlot t m y = false) : slotOfL l t m = (x.2.2, true) := by
  obtain ⟨hi, rfl⟩ := List.getElem?_eq_some_iff.1 hx
  have h1 : l.find? (isSlot t m) = some l[i] := by
    rw [List.find?_eq_some_iff_getElem]
    refine ⟨he, i, hi, rfl, fun j hj => ?_⟩
    have hm : l[j] ∈ l.take i := by rw [List.mem_take_iff_getElem]; exact ⟨j, by omega, rfl⟩
    rw [h _ hm]; rfl
  unfold slotOfL
  rw [h1]
def bytesRes (l : List Int) (ok : Bool) (w : World) (e : Ending) (w' : World) : Prop := ∃ u, e = .returned (.tuple #[u, .bool ok]) ∧ nums .u8 w.heap.size w'.heap.size w' u l ∧ Below w.heap.size w w'
set_option maxRecDepth 100000 in
set_option maxHeartbeats 3200000 in
theorem specSlotOf_any (hi : Nat) (v : Value) (l : List SlotD) (t m : ByteArray) (w : World) (hn : l.length ≤ 1048576) (hs : ∀ x ∈ l, x.2.2.length ≤ 1048576) (h : SlotsR.rd hi w [v] l) (hh : hi ≤ w.heap.size) :
    Calls Try.prog 18 #[v, .string t, .string m] w (bytesRes (slotOfL l t m).1 (slotOfL l t m).2 w) := by
  obtain ⟨A, c, rfl, hc, h⟩ := slots_rd h
  have HR := Lib.hid h
  have HS := Lib.hid hs
  clear h hs
  go_enter Try.func18, Try.ntmps18
  go_wp2
  go_loopw [12] (fun iv wr => ∃ i : Nat, i ≤ l.length ∧ iv = .int .i64 i ∧ Hid (∀ y ∈ l.take i, isSlot t m y = false) ∧ Hid (Below w.heap.size w wr) ∧ w.heap.size ≤ wr.heap.size) (fun iv _ => l.length - (intOf iv).toNat)
  case atStart => exact ⟨0, Nat.zero_le _, rfl, Lib.hid (by simp), Lib.hid (Below.refl _ _), Nat.le_refl _⟩
  case round =>
    obtain ⟨i, hi', rfl, HN, HB, hz⟩ := hrel
    by_cases hin : i < l.length
    · obtain ⟨x, hx⟩ : ∃ x, l[i]? = some x := ⟨_, List.getElem?_eq_getElem hin⟩
      obtain ⟨b, off, A', c', rfl, hbl, c0, c1, c2, hrd⟩ := HR.out i x hx
      have hxs := HS.out x (List.mem_of_getElem? hx)
      have c0 := (HB.out.cell (p := ⟨b, off + i * 3, none⟩) (show b < w.heap.size by omega)).trans c0
      have c1 := (HB.out.cell (p := ⟨b, off + i * 3 + 1, none⟩) (show b < w.heap.size by omega)).trans c1
      have c2 := (HB.out.cell (p := ⟨b, off + i * 3 + 2, none⟩) (show b < w.heap.size by omega)).trans c2
      have HRD := Lib.hid (hrd.below HB.out hh)
      clear hrd
      have g1 : (i : Int) < (l.length : Int) := by omega
      have g2 : 0 ≤ (i : Int) := by omega
      have HX := Lib.hid hx
      clear hx
      go_upto_region 4 with fail
      obtain ⟨W3, hW3⟩ : ∃ W3, W3 = wr.alloc (.cells #[.string x.1, .string x.2.1, .slice A' x.2.2.length c'] 27) := ⟨_, rfl⟩
      have b3 : bk W3 wr.heap.size 27 [.string x.1, .string x.2.1, .slice A' x.2.2.length c'] := by rw [hW3]; exact bk.new wr _ _
      have hb3 : Below wr.heap.size wr W3 := by rw [hW3]; exact (Below.refl _ _).alloc (Nat.le_refl _) _
      rw [← hW3]
      clear hW3
      have z3 := b3.lt
      have HB3 : Hid (Below w.heap.size w W3) := Lib.hid (HB.out.trans (hb3.mono hz))
      have HRD3 := Lib.hid (HRD.out.below hb3 (by omega))
      clear hb3 HB HRD c0 c1 c2
      obtain ⟨q0, q1, q2⟩ := b3.cells3
      clear b3
      by_cases e1 : x.1 = t
      · have hel1 : x.1.toList = t.toList := by rw [e1]
        by_cases e2 : x.2.1 = m
        · have hel2 : x.2.1.toList = m.toList := by rw [e2]
          have HV := Lib.hid (slotOf_some HX.out (show isSlot t m x = true from by unfold isSlot; rw [decide_eq_true e1, decide_eq_true e2]; rfl) HN.out)
          clear e1 e2
          go_wp2_with (at_builtin; refine app_all (W3.alloc (.cells #[] 5)) rfl _ _ 22 rfl W3.heap.size 5 .u8 1 Try.underlying22 infoU8 _ [] rfl (ow_made _ _ W3) hi _ x.2.2 (by rfl) (HRD3.out.below ((Below.refl _ _).alloc (Nat.le_refl _) _) (by omega)) (by unfold maxLen; simp; omega) (by simp; omega) (by simp) ?_)
          intro v1 w5 hv1 hg1 hb5
          have hn1 := hv1.nums
          have hz5 : W3.heap.size + 1 ≤ w5.heap.size := by have := hg1.size; simpa using this
          obtain ⟨AU, cU, rfl, -⟩ := hn1.form
          have HU := Lib.hid hn1
          have HB5 : Hid (Below w.heap.size w w5) := Lib.hid ((HB3.out.alloc (by omega) _).trans (hb5.mono (by omega)))
          clear hv1 hg1 hb5 hn1
          go_wp2
          refine bodyPost_ret (v := .tuple #[.slice AU x.2.2.length cU, .bool true]) (by simp [results, Try.results18, go_sem]) rfl ?_
          rw [HV.out]
          exact ⟨_, rfl, HU.out.mono (by omega) (Nat.le_refl _), HB5.out⟩
        · have hel2 : ¬ x.2.1.toList = m.toList := fun e => e2 (str_eq_list.1 e)
          have hel3 : (x.2.1.toList == m.toList) = false := by simpa using hel2
          have HN2 : Hid (∀ y ∈ l.take (i + 1), isSlot t m y = false) := Lib.hid (by
            obtain ⟨h1, h2⟩ := List.getElem?_eq_some_iff.1 HX.out
            rw [List.take_succ_eq_append_getElem h1, h2]
            intro y hy
            rcases List.mem_append.1 hy with hy | hy
            · exact HN.out y hy
            · rw [List.mem_singleton.1 hy]; unfold isSlot; rw [decide_eq_false e2, Bool.and_false])
          clear e1 e2
          go_wp2
          go_roundw
          case rel => exact ⟨i + 1, by omega, by go_num, HN2, HB3, by omega⟩
          case measure => simp [intOf] <;> omega
      · have hel1 : ¬ x.1.toList = t.toList := fun e => e1 (str_eq_list.1 e)
        have hel3 : (x.1.toList == t.toList) = false := by simpa using hel1
        have HN2 : Hid (∀ y ∈ l.take (i + 1), isSlot t m y = false) := Lib.hid (by
          obtain ⟨h1, h2⟩ := List.getElem?_eq_some_iff.1 HX.out
          rw [List.take_succ_eq_append_getElem h1, h2]
          intro y hy
          rcases List.mem_append.1 hy with hy | hy
          · exact HN.out y hy
          · rw [List.mem_singleton.1 hy]; unfold isSlot; rw [decide_eq_false e1, Bool.false_and])
        clear e1
        go_wp2
        go_roundw
        case rel => exact ⟨i + 1, by omega, by go_num, HN2, HB3, by omega⟩
        case measure => simp [intOf] <;> omega
    · obtain rfl : i = l.length := by omega
      have HV : Hid (slotOfL l t m = ([], false)) := Lib.hid (slotOf_none (by have := HN.out; rwa [List.take_length] at this))
      go_wp2
      refine bodyPost_ret (v := .tuple #[.slice none 0 0, .bool false]) (by simp [results, Try.results18, go_sem]) rfl ?_
      rw [HV.out]
      exact ⟨_, rfl, nums_none _ _ _ _, HB.out⟩
end Go.Proofs.Ytkbakcnhhlmpkaa
