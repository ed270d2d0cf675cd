/- SlotsOk of the reference; no conditions. -/
import Derived.Test.YtpeeagkfhdeagaaGreatDoorSlotF
set_option linter.unusedVariables false
namespace Go.Proofs.YtpeeagkfhdeagaaGreatDoor
open Go.ChangeShapes Go.WideShapes Go.ChangeAt Go.RowKit

/-- element i is right, and none before it has its trace and type -/
def slotAtOk (l : List SlotD) (i : Nat) : Bool := match l[i]? with | some x => slotOk x && (l.take i).all fun y => !isSlot x.1 x.2.1 y | none => true
def slotsOk (l : List SlotD) : Bool := (List.range l.length).all (slotAtOk l) && decide (l.length ≤ 6)
set_option maxRecDepth 100000 in
theorem slots_ok_not {l : List SlotD} {i : Nat} (hi : i < l.length) (h : slotAtOk l i = false) : slotsOk l = false := by
  unfold slotsOk
  have : (List.range l.length).all (slotAtOk l) = false := by
    rw [List.all_eq_false]
    exact ⟨i, List.mem_range.2 hi, by rw [h]; exact Bool.false_ne_true⟩
  rw [this]; rfl
set_option maxRecDepth 100000 in
theorem slots_ok_end {l : List SlotD} (h : ∀ j, j < l.length → slotAtOk l j = true) : slotsOk l = decide (l.length ≤ 6) := by
  unfold slotsOk
  have : (List.range l.length).all (slotAtOk l) = true := List.all_eq_true.2 fun j hj => h j (List.mem_range.1 hj)
  rw [this]; rfl
set_option maxRecDepth 100000 in
theorem slot_at {l : List SlotD} {i : Nat} {x : SlotD} (hx : l[i]? = some x) : slotAtOk l i = (slotOk x && (l.take i).all fun y => !isSlot x.1 x.2.1 y) := by
  unfold slotAtOk; rw [hx]
set_option maxRecDepth 100000 in
set_option maxHeartbeats 3200000 in
theorem specSlotsOk_any (hi : Nat) (v : Value) (l : List SlotD) (w : World) (hn : l.length ≤ 2000000) (hs : ∀ x ∈ l, x.1.size ≤ maxLen ∧ x.2.1.size ≤ maxLen) (h : SlotsR.rd hi w [v] l) (hh : hi ≤ w.heap.size) :
    Calls Tryz.prog 53 #[v] w fun e w' => e = .returned (.bool (slotsOk l)) ∧ Below w.heap.size w w' := by
  obtain ⟨A, c, rfl, hc, h⟩ := slots_rd h
  have HR := Lib.hid h
  have HS := Lib.hid hs
  clear h hs
  go_enter Tryz.func53, Tryz.ntmps53
  go_wp2
  go_loopw [9] (fun iv wr => ∃ i : Nat, i ≤ l.length ∧ iv = .int .i64 i ∧ Hid (∀ j, j < i → slotAtOk l j = true) ∧ Hid (Below w.heap.size w wr) ∧ w.heap.size ≤ wr.heap.size) (fun iv _ => l.length - (intOf iv).toNat)
  case atStart => exact ⟨0, Nat.zero_le _, rfl, Lib.hid (fun j hj => absurd hj (by omega)), Lib.hid (Below.refl _ _), Nat.le_refl _⟩
  case round =>
    obtain ⟨i, hi', rfl, HN, HB, hz⟩ := hrel
    by_cases hin : i < l.length
    · obtain ⟨x, hx⟩ : ∃ x, l[i]? = some x := ⟨_, List.getElem?_eq_getElem hin⟩
      obtain ⟨b, off, A', c', rfl, hbl, d0, d1, d2, hrd⟩ := HR.out i x hx
      obtain ⟨hs1, hs2⟩ := HS.out x (List.mem_of_getElem? hx)
      have d0 := (HB.out.cell (p := ⟨b, off + i * 3, none⟩) (show b < w.heap.size by omega)).trans d0
      have d1 := (HB.out.cell (p := ⟨b, off + i * 3 + 1, none⟩) (show b < w.heap.size by omega)).trans d1
      have d2 := (HB.out.cell (p := ⟨b, off + i * 3 + 2, none⟩) (show b < w.heap.size by omega)).trans d2
      have HRD := Lib.hid hrd
      have HAT := Lib.hid (slot_at hx)
      have g1 : (i : Int) < (l.length : Int) := by omega
      have g2 : 0 ≤ (i : Int) := by omega
      have g3 : (i : Int) ≤ (c : Int) := by omega
      clear hx hrd
      go_upto_region 4 with fail
      obtain ⟨W3, hW3⟩ : ∃ W3, W3 = wr.alloc (.cells #[.string x.1, .string x.2.1, .slice A' x.2.2.length c'] 82) := ⟨_, rfl⟩
      have b3 : bk W3 wr.heap.size 82 [.string x.1, .string x.2.1, .slice A' x.2.2.length c'] := by rw [hW3]; exact bk.new wr _ _
      have hb3 : Below wr.heap.size wr W3 := by rw [hW3]; exact (Below.refl _ _).alloc (Nat.le_refl _) _
      rw [← hW3]
      clear hW3
      have z3 := b3.lt
      have HB3 : Hid (Below w.heap.size w W3) := Lib.hid (HB.out.trans (hb3.mono hz))
      have HOK := Lib.hid (specSlotOk_any hi _ x W3 hs1 hs2 (HRD.out.below HB3.out hh))
      have HX3 := Lib.hid b3
      obtain ⟨q0, q1, q2⟩ := b3.cells3
      clear b3 hb3 HB d0 d1 d2 HRD hs1 hs2
      generalize slotOk x = ok at HOK HAT
      go_wp2_with fail
      refine HOK.out.mono ?_
      rintro e w4 ⟨rfl, hb4⟩
      have z4 := hb4.size
      have HB4 : Hid (Below w.heap.size w w4) := Lib.hid (HB3.out.trans (hb4.mono (by omega)))
      have HX4 := Lib.hid (HX3.out.below hb4 z3)
      clear hb4 HX3 HB3 q0 q1 q2 HOK
      cases ok
      · have HV : Hid (slotsOk l = false) := Lib.hid (slots_ok_not hin (by rw [HAT.out]; rfl))
        go_wp2
        go_ret
        exact ⟨ret_bool HV.out.symm, HB4.out⟩
      generalize wr.heap.size = gx at *
      go_wp2
      go_loopw [21] (fun kv wr => ∃ k : Nat, k ≤ i ∧ kv = .int .i64 k ∧ Hid (∀ y ∈ l.take k, isSlot x.1 x.2.1 y = false) ∧ Hid (bk wr gx 82 [.string x.1, .string x.2.1, .slice A' x.2.2.length c']) ∧ Hid (Below w.heap.size w wr) ∧ gx < wr.heap.size) (fun kv _ => i - (intOf kv).toNat)
      case atStart => exact ⟨0, Nat.zero_le _, rfl, Lib.hid (by simp), HX4, HB4, by omega⟩
      case round =>
        obtain ⟨k, hk, rfl, HK, HXs, HBs, hzs⟩ := hrel
        by_cases hki : k < i
        · obtain ⟨y, hy⟩ : ∃ y, l[k]? = some y := ⟨_, List.getElem?_eq_getElem (by omega)⟩
          obtain ⟨b', off', A2, c2, e', -, d0, d1, d2, -⟩ := HR.out k y hy
          simp only [Option.some.injEq, Addr.mk.injEq, and_true] at e'
          obtain ⟨rfl, rfl⟩ := e'
          have d0 := (HBs.out.cell (p := ⟨b, off + k * 3, none⟩) (show b < w.heap.size by omega)).trans d0
          have d1 := (HBs.out.cell (p := ⟨b, off + k * 3 + 1, none⟩) (show b < w.heap.size by omega)).trans d1
          have d2 := (HBs.out.cell (p := ⟨b, off + k * 3 + 2, none⟩) (show b < w.heap.size by omega)).trans d2
          have k1 : (k : Int) < (i : Int) := by omega
          have k2 : 0 ≤ (k : Int) := by omega
          have HYI := Lib.hid hy
          clear hy
          go_upto_region 9 with fail
          obtain ⟨W5, hW5⟩ : ∃ W5, W5 = wr.alloc (.cells #[.string y.1, .string y.2.1, .slice A2 y.2.2.length c2] 82) := ⟨_, rfl⟩
          have b5 : bk W5 wr.heap.size 82 [.string y.1, .string y.2.1, .slice A2 y.2.2.length c2] := by rw [hW5]; exact bk.new wr _ _
          have hb5 : Below wr.heap.size wr W5 := by rw [hW5]; exact (Below.refl _ _).alloc (Nat.le_refl _) _
          rw [← hW5]
          clear hW5
          have HX5 := Lib.hid (HXs.out.below hb5 hzs)
          have HB5 : Hid (Below w.heap.size w W5) := Lib.hid (HBs.out.trans (hb5.mono HBs.out.size))
          have z5 := hb5.size
          obtain ⟨q0, q1, q2⟩ := HX5.out.cells3
          obtain ⟨r0, r1, r2⟩ := b5.cells3
          clear b5 hb5 d0 d1 d2 HXs HBs
          have HNY : isSlot x.1 x.2.1 y = false → Hid (∀ y ∈ l.take (k + 1), isSlot x.1 x.2.1 y = false) := fun hne => Lib.hid (by
            obtain ⟨h1, h2⟩ := List.getElem?_eq_some_iff.1 HYI.out
            rw [List.take_succ_eq_append_getElem h1, h2]
            intro z hz'
            rcases List.mem_append.1 hz' with hz' | hz'
            · exact HK.out z hz'
            · rw [List.mem_singleton.1 hz']; exact hne)
          by_cases e1 : y.1 = x.1
          · have hel1 : y.1.toList = x.1.toList := by rw [e1]
            by_cases e2 : y.2.1 = x.2.1
            · have hel2 : y.2.1.toList = x.2.1.toList := by rw [e2]
              have HV : Hid (slotsOk l = false) := Lib.hid (slots_ok_not hin (by
                rw [HAT.out, Bool.true_and, List.all_eq_false]
                refine ⟨y, ?_, ?_⟩
                · obtain ⟨h1, h2⟩ := List.getElem?_eq_some_iff.1 HYI.out
                  rw [List.mem_take_iff_getElem]; exact ⟨k, by omega, h2⟩
                · unfold isSlot; rw [decide_eq_true e1, decide_eq_true e2]; decide))
              clear e1 e2 HNY
              go_wp2
              go_ret
              exact ⟨ret_bool HV.out.symm, HB5.out⟩
            · have hel2 : ¬ y.2.1.toList = x.2.1.toList := fun e => e2 (str_eq_list.1 e)
              have hel3 : (y.2.1.toList == x.2.1.toList) = false := by simpa using hel2
              have HN2 := HNY (by unfold isSlot; rw [decide_eq_false e2, Bool.and_false])
              clear e1 e2 HNY
              go_wp2
              go_roundw
              case rel => exact ⟨k + 1, by omega, by go_num, HN2, HX5, HB5, by omega⟩
              case measure => simp [intOf] <;> omega
          · have hel1 : ¬ y.1.toList = x.1.toList := fun e => e1 (str_eq_list.1 e)
            have hel3 : (y.1.toList == x.1.toList) = false := by simpa using hel1
            have HN2 := HNY (by unfold isSlot; rw [decide_eq_false e1, Bool.false_and])
            clear e1 HNY
            go_wp2
            go_roundw
            case rel => exact ⟨k + 1, by omega, by go_num, HN2, HX5, HB5, by omega⟩
            case measure => simp [intOf] <;> omega
        · obtain rfl : k = i := by omega
          have HOKI : Hid (∀ j, j < k + 1 → slotAtOk l j = true) := Lib.hid (fun j hj => by
            by_cases e : j = k
            · subst e
              rw [HAT.out, Bool.true_and, List.all_eq_true]
              intro y hy
              rw [HK.out y hy]; rfl
            · exact HN.out j (by omega))
          go_wp2
          go_roundw
          case rel => exact ⟨k + 1, by omega, by go_num, HOKI, HBs, by omega⟩
          case measure => simp [intOf] <;> omega
    · obtain rfl : i = l.length := by omega
      have HV : Hid (slotsOk l = decide (l.length ≤ 6)) := Lib.hid (slots_ok_end HN.out)
      go_wp2
      go_ret
      exact ⟨ret_bool (by rw [HV.out]; simp; omega), HB.out⟩
end Go.Proofs.YtpeeagkfhdeagaaGreatDoor
