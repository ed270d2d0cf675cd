/- The reference's draw of a field and its content, and the laws' search in a list; no conditions. -/
import Derived.Test.YtfbdcjlmbflehaaDoorText
set_option linter.unusedVariables false
namespace Go.Proofs.YtfbdcjlmbflehaaDoor
open Go.ChangeShapes Go.WideShapes Go.ChangeAt Go.RowKit

set_option maxRecDepth 100000 in
set_option maxHeartbeats 800000 in
theorem makeField_any (sv : Value) (w : World) (hr : readable w w.heap.size sv) (hlen : lenOf sv ≤ 1048576) :
    Calls Tryd.prog 12 #[sv] w fun e w' => ∃ (no : Int) (s : ByteArray), e = .returned (.tuple #[.int .i64 no, .string s]) ∧ no ∈ fNos ∧ fOk no s = true ∧ Below w.heap.size w w' := by
  go_enter Tryd.func12, Tryd.ntmps12
  go_wp2_with fail
  refine (new_any sv w hr hlen).mono ?_
  rintro e w1 ⟨h, rfl, rfl⟩
  have hc := made_cur sv w h
  have hb1 : Below w.heap.size w (w.alloc (.cells #[sv, .int .i64 0, .int .i64 h] 67)) := (Below.refl _ _).alloc (Nat.le_refl _) _
  generalize w.alloc (.cells #[sv, .int .i64 0, .int .i64 h] 67) = w1 at hc hb1 ⊢
  have hlt := lt_of_cur hc
  go_wp2_with fail
  refine (specFieldNos_any w1).mono ?_
  rintro e w2 ⟨v, rfl, hv, hb2⟩
  have hg2 : w1.grownBy w2 (some w.heap.size) := grown_below hb2
  have hc2 : curAt w2 w.heap.size sv 0 h := (hb2.block _ hlt).trans hc
  have hr2 := (hr.below hb1).grownAt hg2 (by omega)
  obtain ⟨A, c, hve, hcc, hj⟩ := hv
  have hl : fNos.length = 16 := by decide
  rw [hl] at hve hcc hj
  subst hve
  obtain ⟨p, off, rfl, hp, -⟩ := hj 0 (by omega)
  have hj' : ∀ j, j < 16 → w2.cell? ⟨p, off + j, none⟩ = some (.int .i64 (fNos.getD j 0)) := fun j hjl => by
    obtain ⟨b', off', e, _, _, hx, _⟩ := hj j hjl
    simp only [Option.some.injEq, Addr.mk.injEq, and_true] at e
    obtain ⟨rfl, rfl⟩ := e
    exact hx
  have HJ := Lib.hid hj'
  clear hj hj'
  go_wp2_with fail
  refine (below_any w.heap.size sv 0 h 16 w2 hc2 (Nat.zero_le _) hr2 (by decide) (by decide)).mono ?_
  rintro e w3 ⟨x, i3, h3, rfl, hx0, hx1, hi3, hc3, ho3⟩
  obtain ⟨k, rfl⟩ := Int.eq_ofNat_of_zero_le hx0
  have hk : k < 16 := by omega
  have hcell := (ho3.cell (p := ⟨p, off + k, none⟩) (by show p ≠ _; omega)).trans (HJ.out k hk)
  have HK : Hid (fKind (fNos.getD k 0) ≠ 0) := Lib.hid (known_iff k hk)
  have HM : Hid (fNos.getD k 0 ∈ fNos) := Lib.hid (by rw [List.getD_eq_getElem?_getD, List.getElem?_eq_getElem (by omega)]; exact List.getElem_mem _)
  generalize fNos.getD k 0 = no at hcell HK HM
  have hg3 := grown_trans hg2 ho3.grown
  have hr3 := (hr.below hb1).grownAt hg3 (by omega)
  go_wp2_with fail
  refine (text_any w.heap.size sv i3 h3 no w3 hc3 hi3 hr3 HK.out).mono ?_
  rintro e w4 ⟨t, i4, h4, rfl, hok, hi4, hc4, hg4⟩
  have HO := Lib.hid hok
  clear hok
  go_wp2
  go_ret2
  exact ⟨no, ⟨t.toArray⟩, rfl, HM.out, HO.out, hb1.trans (below_of_grown (grown_trans hg3 hg4) (by omega) (fun k hk => by cases hk; exact Nat.le_refl _))⟩

set_option maxRecDepth 100000 in
theorem take_mem {l : List Int} {n : Int} {k : Nat} (h : k < l.length) (hn : ¬ n ∈ l.take k) (he : l.getD k 0 ≠ n) : ¬ n ∈ l.take (k + 1) := by
  rw [List.take_succ_eq_append_getElem h, List.mem_append, List.mem_singleton]
  rintro (h1 | h1)
  · exact hn h1
  · exact he (by rw [List.getD_eq_getElem?_getD, List.getElem?_eq_getElem h]; exact h1.symm)
set_option maxRecDepth 100000 in
set_option maxHeartbeats 800000 in
theorem has_any (hi : Nat) (v : Value) (l : List Int) (n : Int) (w : World) (hl : l.length ≤ 1000000) (h : rd .i64 hi w v l) :
    Calls Tryd.prog 17 #[v, .int .i64 n] w fun e w' => e = .returned (.bool (decide (n ∈ l))) ∧ w = w' := by
  obtain ⟨A, c, rfl, hc, hj⟩ := h
  have HJ := Lib.hid hj
  clear hj
  go_enter Tryd.func17, Tryd.ntmps17
  go_wp2
  go_loop [9] (fun iv => ∃ k : Nat, k ≤ l.length ∧ iv = .int .i64 k ∧ Hid (¬ n ∈ l.take k)) (fun iv => l.length - (intOf iv).toNat)
  case atStart => exact ⟨0, Nat.zero_le _, rfl, Lib.hid (by simp)⟩
  case round =>
    obtain ⟨k, hk, rfl, hN⟩ := hrel
    by_cases hlt : k < l.length
    · obtain ⟨p, off, rfl, hp, hcell⟩ := HJ.out k hlt
      have HG : Hid (∀ y, l.getD k 0 = y → y = n → n ∈ l) := Lib.hid fun y h1 h2 => by
        rw [← h2, ← h1, List.getD_eq_getElem?_getD, List.getElem?_eq_getElem hlt]; exact List.getElem_mem _
      have HN : Hid (∀ y, l.getD k 0 = y → y ≠ n → ¬ n ∈ l.take (k + 1)) := Lib.hid fun y h1 h2 => take_mem hlt hN.out (by rw [h1]; exact h2)
      generalize hy : l.getD k 0 = y at hcell HG HN
      have HG' := Lib.hid (HG.out y rfl)
      have HN' := Lib.hid (HN.out y rfl)
      clear HG HN hy
      by_cases he : y = n
      · subst he
        have HM := Lib.hid (HG'.out rfl)
        go_wp2
        go_ret
        exact ⟨ret_bool (by simp [HM.out]), rfl⟩
      · have he' : (y == n) = false := beq_eq_false_iff_ne.2 he
        have HM := Lib.hid (HN'.out he)
        go_wp2
        go_round
        case rel => exact ⟨k + 1, by omega, by go_num, HM⟩
        case measure => simp [intOf] <;> omega
    · have HM : Hid (¬ n ∈ l) := Lib.hid (by have := hN.out; rwa [List.take_of_length_le (by omega)] at this)
      go_wp2
      go_ret
      exact ⟨ret_bool (by simp [HM.out]), rfl⟩
end Go.Proofs.YtfbdcjlmbflehaaDoor
