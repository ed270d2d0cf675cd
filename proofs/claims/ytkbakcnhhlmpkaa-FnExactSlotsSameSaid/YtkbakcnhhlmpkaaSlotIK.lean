/- SlotsOk of the program: a map keyed by a struct; no conditions. -/
import Derived.Test.YtkbakcnhhlmpkaaSlotIO
import Derived.Test.YtkbakcnhhlmpkaaSlotE
import Derived.Test.YtkbakcnhhlmpkaaSlotK
import Derived.Maps.OwnOps
import Derived.Carry
set_option linter.unusedVariables false
namespace Go.Proofs.Ytkbakcnhhlmpkaa
open Go.ChangeShapes Go.WideShapes Go.ChangeAt Go.RowKit
open Go.Maps (Keyed IsMap)

set_option maxRecDepth 100000 in
theorem implKeyOf_any (A : Option Addr) (n c : Nat) (s t : ByteArray) (w : World) :
    Calls Try.prog 36 #[.agg #[.string s, .string t, .slice A n c]] w fun e w' => e = .returned (.agg #[.string s, .string t]) ∧ Below w.heap.size w w' := by
  go_enter Try.func36, Try.ntmps36
  go_upto_region 1 with fail
  obtain ⟨W, hW⟩ : ∃ W, W = (w.alloc (.cells #[.string s, .string t, .slice A n c] 27)).alloc (.cells #[.string ⟨#[]⟩, .string ⟨#[]⟩] 54) := ⟨_, rfl⟩
  have b0 : bk W w.heap.size 27 [.string s, .string t, .slice A n c] := by rw [hW]; exact (bk.new w _ _).alloc _
  have b1 : bk W (w.heap.size + 1) 54 [.string ⟨#[]⟩, .string ⟨#[]⟩] := by rw [hW]; have := bk.new (w.alloc (.cells #[.string s, .string t, .slice A n c] 27)) 54 [.string ⟨#[]⟩, .string ⟨#[]⟩]; simpa using this
  have HB0 : Hid (Below w.heap.size w W) := Lib.hid (by rw [hW]; exact ((Below.refl _ _).alloc (Nat.le_refl _) _).alloc (by simp) _)
  rw [← hW]
  clear hW
  obtain ⟨p0, p1, p2⟩ := b0.cells3
  have q0 := b1.cell 0
  have q1 := b1.cell 1
  have f0 := b1.frozen 0
  have f1 := b1.frozen 1
  simp only [List.getElem?_cons_zero, List.getElem?_cons_succ] at q0 q1
  clear b0 b1
  go_wp2
  refine bodyPost_ret (v := .agg #[.string s, .string t]) (by simp [results, Try.results36, go_sem, q0, q1]) rfl ?_
  exact ⟨rfl, (HB0.out.setCell (p := ⟨w.heap.size + 1, 0, none⟩) (Nat.le_succ _) _).setCell (p := ⟨w.heap.size + 1, 1, none⟩) (Nat.le_succ _) _⟩
set_option maxRecDepth 100000 in
theorem zeroBool (w : World) : (zeroValue 4).run Try.prog w = .ok (.bool false) w := by kernel_rfl
/-- block b holds a map from keys to bools -/
abbrev keysAt (w : World) (b n : Nat) (D : DataW Unit) : Prop := w.ownsMap Try.prog 54 (plainElem Try.prog 4) b n D
set_option maxRecDepth 100000 in
theorem keys_look {w : World} {b n : Nat} {D : DataW Unit} {L : List SlotD} {x : SlotD} (ho : keysAt w b n D) (hk : keysAre D L) (h1 : x.1.size ≤ maxLen) (h2 : x.2.1.size ≤ maxLen) :
    (Instr.lookup 52 (.map (some b)) (.agg #[.string x.1, .string x.2.1]) false).run Try.prog w = .ok (.bool (L.any (isSlot x.1 x.2.1))) w :=
  look_bool_run lawKey Try.underlying52 Try.underlying4 (zeroBool w) ho (keyOf_slot _ _ h1 h2) (hk.at_ _ _ h1 h2)
set_option maxRecDepth 100000 in
theorem keysAt_below {w w' : World} {b n C : Nat} {D : DataW Unit} (h : keysAt w b n D) (hb : Below C w w') (hC : b < C) : keysAt w' b n D := by
  obtain ⟨es, clock, h1, rest⟩ := h
  exact ⟨es, clock, (hb.block b hC).trans h1, rest⟩
set_option maxRecDepth 100000 in
set_option maxHeartbeats 3200000 in
theorem implSlotsOk_any (hi : Nat) (v : Value) (l : List SlotD) (w : World) (hn : l.length ≤ 2000000) (hs : ∀ x ∈ l, x.1.size ≤ maxLen ∧ x.2.1.size ≤ maxLen) (h : SlotsR.rd hi w [v] l) (hh : hi ≤ w.heap.size) :
    Calls Try.prog 16 #[v] w fun e w' => e = .returned (.bool (slotsOk l)) ∧ Below w.heap.size w w' := by
  obtain ⟨A, c, rfl, hc, h⟩ := slots_rd h
  have HR := Lib.hid h
  have HS := Lib.hid hs
  clear h hs
  by_cases hbig : 6 < l.length
  · have HV : Hid (slotsOk l = false) := Lib.hid (by unfold slotsOk; rw [decide_eq_false (by omega), Bool.and_false])
    have g0 : (6 : Int) < (l.length : Int) := by omega
    go_enter Try.func16, Try.ntmps16
    go_wp2
    go_ret
    exact ⟨ret_bool HV.out.symm, Below.refl _ _⟩
  have g0 : ¬ (6 : Int) < (l.length : Int) := by omega
  have hmm := @run_makeMap Try.prog
  have HO0 := Lib.hid (World.ownsMap_made w Try.prog 54 (plainElem (H := Unit) Try.prog 4))
  have HB0 : Hid (Below w.heap.size w (w.alloc (.map #[] 0))) := Lib.hid ((Below.refl _ _).alloc (Nat.le_refl _) _)
  have z0 : w.heap.size < (w.alloc (.map #[] 0)).heap.size := by simp
  go_enter Try.func16, Try.ntmps16
  go_wp2
  go_loopw [13] (fun iv wr => ∃ (i : Nat) (D : DataW Unit), i ≤ l.length ∧ iv = .int .i64 i ∧ Hid (∀ j, j < i → slotAtOk l j = true) ∧ Hid (keysAt wr w.heap.size i D) ∧ Hid (keysAre D (l.take i)) ∧ Hid (Below w.heap.size w wr) ∧ w.heap.size < wr.heap.size) (fun iv _ => l.length - (intOf iv).toNat)
  case atStart => exact ⟨0, _, Nat.zero_le _, rfl, Lib.hid (fun j hj => absurd hj (by omega)), HO0, Lib.hid keysAre.start, HB0, z0⟩
  case round =>
    obtain ⟨i, D, hi', rfl, HN, HO, HD, HB, hz⟩ := hrel
    by_cases hin : i < l.length
    · obtain ⟨x, hx⟩ : ∃ x, l[i]? = some x := ⟨_, List.getElem?_eq_getElem hin⟩
      obtain ⟨b, off, A', c', rfl, hbl, d0, d1, d2, hrd⟩ := HR.out i x hx
      obtain ⟨hs1, hs2⟩ := HS.out x (List.mem_of_getElem? hx)
      have d0 := (HB.out.cell (p := ⟨b, off + i * 3, none⟩) (show b < w.heap.size by omega)).trans d0
      have d1 := (HB.out.cell (p := ⟨b, off + i * 3 + 1, none⟩) (show b < w.heap.size by omega)).trans d1
      have d2 := (HB.out.cell (p := ⟨b, off + i * 3 + 2, none⟩) (show b < w.heap.size by omega)).trans d2
      have HRD := Lib.hid hrd
      have HAT := Lib.hid (slot_at hx)
      have HTK : Hid (l.take (i + 1) = l.take i ++ [x]) := Lib.hid (by
        obtain ⟨h1, h2⟩ := List.getElem?_eq_some_iff.1 hx
        rw [List.take_succ_eq_append_getElem h1, h2])
      have HALL : Hid (((l.take i).all fun y => !isSlot x.1 x.2.1 y) = !(l.take i).any (isSlot x.1 x.2.1)) := Lib.hid (by rw [List.all_eq_not_any_not]; simp)
      have HSZ := Lib.hid (And.intro hs1 hs2)
      have g1 : (i : Int) < (l.length : Int) := by omega
      have g2 : 0 ≤ (i : Int) := by omega
      have g3 : (i : Int) ≤ (c : Int) := by omega
      clear hx hrd
      go_upto_region 7 with fail
      obtain ⟨W3, hW3⟩ : ∃ W3, W3 = wr.alloc (.cells #[.string x.1, .string x.2.1, .slice A' x.2.2.length c'] 27) := ⟨_, rfl⟩
      have b3 : bk W3 wr.heap.size 27 [.string x.1, .string x.2.1, .slice A' x.2.2.length c'] := by rw [hW3]; exact bk.new wr _ _
      have hb3 : Below wr.heap.size wr W3 := by rw [hW3]; exact (Below.refl _ _).alloc (Nat.le_refl _) _
      rw [← hW3]
      clear hW3
      have z3 := b3.lt
      have HB3 : Hid (Below w.heap.size w W3) := Lib.hid (HB.out.trans (hb3.mono (by omega)))
      have HO3 : Hid (keysAt W3 w.heap.size i D) := Lib.hid (keysAt_below HO.out hb3 (by omega))
      have HX3 := Lib.hid b3
      obtain ⟨q0, q1, q2⟩ := b3.cells3
      have HKY := Lib.hid (implKeyOf_any A' x.2.2.length c' x.1 x.2.1 W3)
      clear b3 hb3 HB HO d0 d1 d2
      go_wp2_with fail
      refine HKY.out.mono ?_
      rintro e w4 ⟨rfl, hb4⟩
      have z4 := hb4.size
      have HB4 : Hid (Below w.heap.size w w4) := Lib.hid (HB3.out.trans (hb4.mono (by omega)))
      have HX4 := Lib.hid (HX3.out.below hb4 z3)
      have HO4 : Hid (keysAt w4 w.heap.size i D) := Lib.hid (keysAt_below HO3.out hb4 (by omega))
      clear hb4 HX3 HB3 q0 q1 q2 HKY HO3
      go_upto_region 8 with fail
      obtain ⟨W5, hW5⟩ : ∃ W5, W5 = w4.alloc (.cells #[.string x.1, .string x.2.1] 54) := ⟨_, rfl⟩
      have b5 : bk W5 w4.heap.size 54 [.string x.1, .string x.2.1] := by rw [hW5]; exact bk.new w4 _ _
      have hb5 : Below w4.heap.size w4 W5 := by rw [hW5]; exact (Below.refl _ _).alloc (Nat.le_refl _) _
      rw [← hW5]
      clear hW5
      have z5 := b5.lt
      have HB5 : Hid (Below w.heap.size w W5) := Lib.hid (HB4.out.trans (hb5.mono (by omega)))
      have HX5 := Lib.hid (HX4.out.below hb5 (by omega))
      have HO5 : Hid (keysAt W5 w.heap.size i D) := Lib.hid (keysAt_below HO4.out hb5 (by omega))
      have HOK := Lib.hid (implSlotOk_any hi _ x W5 hs1 hs2 (HRD.out.below HB5.out hh))
      have HK5 := Lib.hid b5
      obtain ⟨q0, q1, q2⟩ := HX5.out.cells3
      clear b5 hb5 HX4 HB4 HO4 HRD
      generalize slotOk x = ok at HOK HAT
      go_wp2_with fail
      refine HOK.out.mono ?_
      rintro e w6 ⟨rfl, hb6⟩
      have z6 := hb6.size
      have HB6 : Hid (Below w.heap.size w w6) := Lib.hid (HB5.out.trans (hb6.mono (by omega)))
      have HO6 : Hid (keysAt w6 w.heap.size i D) := Lib.hid (keysAt_below HO5.out hb6 (by omega))
      have b6 := HK5.out.below hb6 (by omega)
      have k0 := b6.cell 0
      have k1 := b6.cell 1
      simp only [List.getElem?_cons_zero, List.getElem?_cons_succ] at k0 k1
      clear hb6 HX5 HB5 q0 q1 q2 HOK HO5 HK5 b6
      cases ok
      · have HV : Hid (slotsOk l = false) := Lib.hid (slots_ok_not hin (by rw [HAT.out]; rfl))
        go_wp2
        go_ret
        exact ⟨ret_bool HV.out.symm, HB6.out⟩
      have hlk := keys_look HO6.out HD.out HSZ.out.1 HSZ.out.2
      have HA2 := Lib.hid HALL.out
      clear HALL
      generalize (l.take i).any (isSlot x.1 x.2.1) = met at hlk HA2
      cases met
      · have HN2 : Hid (∀ j, j < i + 1 → slotAtOk l j = true) := Lib.hid (fun j hj => by
          by_cases e : j = i
          · subst e; rw [HAT.out, HA2.out]; rfl
          · exact HN.out j (by omega))
        have HD2 : Hid (keysAre (D.put (keyLit x.1 x.2.1) (.lit (.bool true))) (l.take (i + 1))) := Lib.hid (by rw [HTK.out]; exact HD.out.snoc HSZ.out.1 HSZ.out.2)
        have hkey := keyOf_slot x.1 x.2.1 HSZ.out.1 HSZ.out.2
        go_wp2_with (at_mapUpdate; refine wpList_mapUpdate_own _ rfl _ _ _ 52 rfl 54 4 lawKey Try.underlying52 _ w.heap.size i D rfl HO6.out (by unfold maxLen; omega) _ _ _ rfl rfl hkey _ [] (plainElem_bool Try.underlying4 true) ?_)
        intro w7 hown7 hg7
        have z7 : w6.heap.size ≤ w7.heap.size := hg7.size
        have HB7 : Hid (Below w.heap.size w w7) := Lib.hid (HB6.out.grown hg7 (by omega) (fun j hj => by cases hj; exact Nat.le_refl _))
        have HO7 : Hid (keysAt w7 w.heap.size (i + 1) (D.put (keyLit x.1 x.2.1) (.lit (.bool true)))) := Lib.hid hown7
        clear hown7 hg7 hkey hlk k0 k1
        go_wp2
        go_roundw
        case rel => exact ⟨i + 1, _, by omega, by go_num, HN2, HO7, HD2, HB7, by omega⟩
        case measure => simp [intOf] <;> omega
      · have HV : Hid (slotsOk l = false) := Lib.hid (slots_ok_not hin (by rw [HAT.out, HA2.out]; rfl))
        go_wp2
        go_ret
        exact ⟨ret_bool HV.out.symm, HB6.out⟩
    · obtain rfl : i = l.length := by omega
      have HV : Hid (slotsOk l = true) := Lib.hid (by rw [slots_ok_end HN.out]; exact decide_eq_true (by omega))
      go_wp2
      go_ret
      exact ⟨ret_bool HV.out.symm, HB.out⟩
end Go.Proofs.Ytkbakcnhhlmpkaa
