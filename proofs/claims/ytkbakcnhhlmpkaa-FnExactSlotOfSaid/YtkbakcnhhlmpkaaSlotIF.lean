/- bytes.Clone; SlotOf of the program; no conditions. -/
import Derived.Test.YtkbakcnhhlmpkaaSlotIK
import Derived.Test.YtkbakcnhhlmpkaaAppAll
import Derived.Lib.SliceRun
import Derived.Deep.RegionHeld3
set_option linter.unusedVariables false
namespace Go.Proofs.Ytkbakcnhhlmpkaa
open Go.ChangeShapes Go.WideShapes Go.ChangeAt Go.RowKit

set_option maxRecDepth 100000 in
set_option maxHeartbeats 1600000 in
theorem bytesClone_any (hi : Nat) (v : Value) (l : List Int) (w : World) (hl : l.length ≤ 1048576) (h : rd .u8 hi w v l) (hh : hi ≤ w.heap.size) :
    Calls Try.prog 37 #[v] w fun e w' => ∃ v', e = .returned v' ∧ nums .u8 w.heap.size w'.heap.size w' v' l ∧ Below w.heap.size w w' := by
  obtain ⟨A, c, rfl, -⟩ := h.form
  have HC := Lib.hid h
  have hq : ∀ (w : World) (a : Option Addr) (n c n' c' : Nat), (binOp .eql 22 (.slice a n c) (.slice none n' c')).run Try.prog w = .ok (.bool a.isNone) w := fun w a n c n' c' => Lib.run_eql_slice_nil w _ _ a n c n' c' Try.underlying22
  cases A with
  | none =>
    have hz : l = [] := by
      cases l with
      | nil => rfl
      | cons x l =>
        obtain ⟨A', c', e, -, hj⟩ := h
        obtain ⟨b, off, rfl, -⟩ := hj 0 (by simp)
        cases e
    subst hz
    clear h
    go_enter Try.func37, Try.ntmps37
    go_wp2
    go_ret
    exact ⟨_, rfl, nums_none _ _ _ _, Below.refl _ _⟩
  | some a =>
    clear h
    go_enter Try.func37, Try.ntmps37
    have y0 : w.heap.size < w.heap.size + 1 := by omega
    go_wp2_with (at_builtin; refine app_all (w.alloc (.cells #[] 5)) rfl _ _ 22 rfl w.heap.size 5 .u8 1 Try.underlying22 infoU8 _ [] rfl (ow_made _ _ w) hi _ l (by rfl) (HC.out.below ((Below.refl w.heap.size w).alloc (by omega) _) hh) (by unfold maxLen; simp; omega) (by simp; omega) (by simp) ?_)
    intro v1 w1 hv1 hg1 hb1
    have hn1 := hv1.nums
    go_wp2
    go_ret
    exact ⟨_, rfl, hn1.mono (Nat.le_refl _) (Nat.le_refl _), ((Below.refl _ _).alloc (Nat.le_refl _) _).trans hb1⟩
set_option maxRecDepth 100000 in
set_option maxHeartbeats 3200000 in
theorem implSlotOf_any (hi : Nat) (v : Value) (l : List SlotD) (t m : ByteArray) (w : World) (hn : l.length ≤ 1048576) (hs : ∀ x ∈ l, x.2.2.length ≤ 1048576) (h : SlotsR.rd hi w [v] l) (hh : hi ≤ w.heap.size) :
    Calls Try.prog 19 #[v, .string t, .string m] w (bytesRes (slotOfL l t m).1 (slotOfL l t m).2 w) := by
  obtain ⟨A, c, rfl, hc, h⟩ := slots_rd h
  have HR := Lib.hid h
  have HS := Lib.hid hs
  clear h hs
  go_enter Try.func19, Try.ntmps19
  go_upto_region 2 with fail
  obtain ⟨W0, hW0⟩ : ∃ W0, W0 = w.alloc (.cells #[.string t, .string m] 54) := ⟨_, rfl⟩
  have HK0 : Hid (bk W0 w.heap.size 54 [.string t, .string m]) := Lib.hid (by rw [hW0]; exact bk.new w _ _)
  have HB0 : Hid (Below w.heap.size w W0) := Lib.hid (by rw [hW0]; exact (Below.refl _ _).alloc (Nat.le_refl _) _)
  have z0 := HK0.out.lt
  rw [← hW0]
  clear hW0
  go_wp2
  go_loopw [16] (fun iv wr => ∃ i : Nat, i ≤ l.length ∧ iv = .int .i64 i ∧ Hid (∀ y ∈ l.take i, isSlot t m y = false) ∧ Hid (bk wr w.heap.size 54 [.string t, .string m]) ∧ Hid (Below w.heap.size w wr) ∧ w.heap.size < wr.heap.size) (fun iv _ => l.length - (intOf iv).toNat)
  case atStart => exact ⟨0, Nat.zero_le _, rfl, Lib.hid (by simp), HK0, HB0, z0⟩
  case round =>
    obtain ⟨i, hi', rfl, HN, HK, HB, hz⟩ := hrel
    by_cases hin : i < l.length
    · obtain ⟨x, hx⟩ : ∃ x, l[i]? = some x := ⟨_, List.getElem?_eq_getElem hin⟩
      obtain ⟨b, off, A', c', rfl, hbl, c0, c1, c2, hrd⟩ := HR.out i x hx
      have hxs := HS.out x (List.mem_of_getElem? hx)
      have c0 := (HB.out.cell (p := ⟨b, off + i * 3, none⟩) (show b < w.heap.size by omega)).trans c0
      have c1 := (HB.out.cell (p := ⟨b, off + i * 3 + 1, none⟩) (show b < w.heap.size by omega)).trans c1
      have c2 := (HB.out.cell (p := ⟨b, off + i * 3 + 2, none⟩) (show b < w.heap.size by omega)).trans c2
      have HRD := Lib.hid (hrd.below HB.out hh)
      clear hrd
      have g1 : (i : Int) < (l.length : Int) := by omega
      have g2 : 0 ≤ (i : Int) := by omega
      have HX := Lib.hid hx
      clear hx
      go_upto_region 5 with fail
      obtain ⟨W3, hW3⟩ : ∃ W3, W3 = wr.alloc (.cells #[.string x.1, .string x.2.1, .slice A' x.2.2.length c'] 27) := ⟨_, rfl⟩
      have b3 : bk W3 wr.heap.size 27 [.string x.1, .string x.2.1, .slice A' x.2.2.length c'] := by rw [hW3]; exact bk.new wr _ _
      have hb3 : Below wr.heap.size wr W3 := by rw [hW3]; exact (Below.refl _ _).alloc (Nat.le_refl _) _
      rw [← hW3]
      clear hW3
      have z3 := b3.lt
      have HB3 : Hid (Below w.heap.size w W3) := Lib.hid (HB.out.trans (hb3.mono (by omega)))
      have HRD3 := Lib.hid (HRD.out.below hb3 (by omega))
      have HK3 := Lib.hid (HK.out.below hb3 (by omega))
      have HX3 := Lib.hid b3
      clear hb3 HB HRD HK c0 c1 c2 b3
      obtain ⟨q0, q1, q2⟩ := HX3.out.cells3
      have k0 := HK3.out.cell 0
      have k1 := HK3.out.cell 1
      simp only [List.getElem?_cons_zero, List.getElem?_cons_succ] at k0 k1
      have hkq : ∀ V : World, (binOp .eql 54 (.agg #[.string x.1, .string x.2.1]) (.agg #[.string t, .string m])).run Try.prog V = .ok (.bool (isSlot t m x)) V := fun V => keyEql x.1 x.2.1 t m V
      have HYES := Lib.hid (fun he => slotOf_some HX.out (t := t) (m := m) he HN.out)
      have HNO : Hid (isSlot t m x = false → ∀ y ∈ l.take (i + 1), isSlot t m y = false) := Lib.hid (fun he => by
        obtain ⟨h1, h2⟩ := List.getElem?_eq_some_iff.1 HX.out
        rw [List.take_succ_eq_append_getElem h1, h2]
        intro y hy
        rcases List.mem_append.1 hy with hy | hy
        · exact HN.out y hy
        · rw [List.mem_singleton.1 hy]; exact he)
      generalize isSlot t m x = hit at hkq HYES HNO
      have HSZ : Hid (wr.heap.size < W3.heap.size) := Lib.hid z3
      go_region_held3 (fun V => V.cell? ⟨wr.heap.size, 0, none⟩ = some (.string x.1) ∧ V.cell? ⟨wr.heap.size, 1, none⟩ = some (.string x.2.1) ∧ V.cell? ⟨wr.heap.size, 2, none⟩ = some (.slice A' x.2.2.length c') ∧ V.cell? ⟨w.heap.size, 0, none⟩ = some (.string t) ∧ V.cell? ⟨w.heap.size, 1, none⟩ = some (.string m)) (go_keep) (first
        | (go_at_call 36; (with_reducible refine (implKeyOf_any A' x.2.2.length c' x.1 x.2.1 _).mono ?_); rintro e w4 ⟨rfl, hb4⟩; have hW4 : Below W3.heap.size W3 w4 := ((Below.refl W3.heap.size W3).drew).trans (hb4.mono (Nat.le_refl _)); obtain ⟨r0, r1, r2⟩ := (HX3.out.below hW4 HSZ.out).cells3; have m0 := (HK3.out.below hW4 (by omega)).cell 0; have m1 := (HK3.out.below hW4 (by omega)).cell 1; simp only [List.getElem?_cons_zero, List.getElem?_cons_succ] at m0 m1; have HW4 := Lib.hid hW4; clear hb4 hW4)
        | fail)
      all_goals
        have z4 : W3.heap.size ≤ w4.heap.size := HW4.out.size
        have HB4 : Hid (Below w.heap.size w w4) := Lib.hid (HB3.out.trans (HW4.out.mono (by omega)))
        cases hit
      · have HN2 := Lib.hid (HNO.out rfl)
        have HK4 := Lib.hid (HK3.out.below HW4.out (by omega))
        go_wp2
        go_roundw
        case rel => exact ⟨i + 1, by omega, by go_num, HN2, HK4, HB4, by omega⟩
        case measure => simp [intOf] <;> omega
      · have HV := Lib.hid (HYES.out rfl)
        have HCL := Lib.hid (bytesClone_any hi _ x.2.2 w4 hxs (HRD3.out.below HW4.out (by omega)) (by omega))
        go_wp2_with fail
        refine HCL.out.mono ?_
        rintro e w5 ⟨u, rfl, hu, hb5⟩
        obtain ⟨AU, cU, rfl, -⟩ := hu.form
        have HU := Lib.hid hu
        have HB5 : Hid (Below w.heap.size w w5) := Lib.hid (HB4.out.trans (hb5.mono (by omega)))
        clear hu hb5
        go_wp2
        refine bodyPost_ret (v := .tuple #[.slice AU x.2.2.length cU, .bool true]) (by simp [results, Try.results19, go_sem]) rfl ?_
        rw [HV.out]
        exact ⟨_, rfl, HU.out.mono (by omega) (Nat.le_refl _), HB5.out⟩
    · obtain rfl : i = l.length := by omega
      have HV : Hid (slotOfL l t m = ([], false)) := Lib.hid (slotOf_none (by have := HN.out; rwa [List.take_length] at this))
      go_wp2
      refine bodyPost_ret (v := .tuple #[.slice none 0 0, .bool false]) (by simp [results, Try.results19, go_sem]) rfl ?_
      rw [HV.out]
      exact ⟨_, rfl, nums_none _ _ _ _, HB.out⟩
end Go.Proofs.Ytkbakcnhhlmpkaa
