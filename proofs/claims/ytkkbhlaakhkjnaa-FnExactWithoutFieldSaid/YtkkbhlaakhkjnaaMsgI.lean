/- FieldOf and WithoutField of the program; no conditions. -/
import Derived.Test.YtkkbhlaakhkjnaaMsgF
set_option linter.unusedVariables false
namespace Go.Proofs.Ytkkbhlaakhkjnaa
open Go.ChangeShapes Go.WideShapes Go.ChangeAt Go.RowKit

set_option maxRecDepth 100000 in
set_option maxHeartbeats 1600000 in
theorem implFieldOf_any (hi : Nat) (v : Value) (m : MsgD) (no : Int) (w : World) (hn : m.2.length ≤ 1048576) (h : FieldsR.rd hi w [v] m.2) (hh : hi ≤ w.heap.size) :
    Calls Try.prog 9 #[.agg #[.string m.1, v], .int .i64 no] w fun e w' => e = .returned (.tuple #[.string (fldTxt m.2 no), .bool (fldHas m.2 no)]) ∧ Below w.heap.size w w' := by
  obtain ⟨A, c, rfl, hc, h'⟩ := fields_rd h
  have HR := Lib.hid h'
  clear h' h
  go_enter Try.func9, Try.ntmps9
  go_wp2
  have HB0 : Hid (Below w.heap.size w (w.alloc (.cells #[.string m.1, .slice A m.2.length c] 30))) := Lib.hid ((Below.refl _ _).alloc (Nat.le_refl _) _)
  go_loopw [11] (fun iv wr => ∃ i : Nat, i ≤ m.2.length ∧ iv = .int .i64 i ∧ Hid (∀ j y, j < i → m.2[j]? = some y → y.1 ≠ no) ∧ Hid (Below w.heap.size w wr) ∧ w.heap.size ≤ wr.heap.size) (fun iv _ => m.2.length - (intOf iv).toNat)
  case atStart => exact ⟨0, Nat.zero_le _, rfl, Lib.hid (fun j y hj => absurd hj (by omega)), HB0, by simp⟩
  case round =>
    obtain ⟨i, hi', rfl, HN, HB, hz⟩ := hrel
    by_cases hin : i < m.2.length
    · obtain ⟨x, hx⟩ : ∃ x, m.2[i]? = some x := ⟨_, List.getElem?_eq_getElem hin⟩
      obtain ⟨b, off, rfl, hbl, c0, c1⟩ := HR.out i x hx
      have HX := Lib.hid hx
      have c0 := (HB.out.cell (p := ⟨b, off + i * 2, none⟩) (show b < w.heap.size by omega)).trans c0
      have c1 := (HB.out.cell (p := ⟨b, off + i * 2 + 1, none⟩) (show b < w.heap.size by omega)).trans c1
      have g1 : (i : Int) < (m.2.length : Int) := by omega
      have g2 : 0 ≤ (i : Int) := by omega
      clear hx
      by_cases he : x.1 = no
      · have HF := Lib.hid (find_at HN.out HX.out he)
        have he' : (x.1 == no) = true := by simpa using he
        clear he
        go_wp2
        go_ret2
        rw [HF.out.1, HF.out.2]
        exact ⟨rfl, HB.out.alloc hz _⟩
      · have he' : (x.1 == no) = false := by simpa using he
        have HE := Lib.hid he
        clear he
        go_wp2
        go_roundw
        case rel => exact ⟨i + 1, by omega, by go_num, Lib.hid (fun j y hj hy => by
          by_cases e : j = i
          · subst e; rw [HX.out] at hy; cases hy; exact HE.out
          · exact HN.out j y (by omega) hy), Lib.hid (HB.out.alloc hz _), by simp; omega⟩
        case measure => simp [intOf] <;> omega
    · obtain rfl : i = m.2.length := by omega
      have HF := Lib.hid (find_none HN.out)
      go_wp2
      go_ret2
      rw [HF.out.1, HF.out.2]
      exact ⟨rfl, HB.out⟩
set_option maxRecDepth 100000 in
/-- the answer is a message whose list is a row of the call's own -/
theorem mine_own {lo hi : Nat} {w : World} {v : Value} {L : List FieldD} (h : owE 39 2 fCells lo w v L) (hh : w.heap.size ≤ hi) : FieldsR.mine lo hi w [v] L := by
  rcases h.filled (fun _ => rfl) noF with ⟨rfl, A, c, rfl⟩ | ⟨g, c, rfl, hc, h1, h2, hf⟩
  · exact ⟨[], ⟨A, c, rfl, Nat.zero_le _, .inl ⟨rfl, rfl⟩⟩, List.nodup_nil, by simp⟩
  · exact fields_mine rfl hc h1 (by omega) hf
set_option maxRecDepth 100000 in
set_option maxHeartbeats 3200000 in
theorem implWithoutField_any (hi : Nat) (v : Value) (m : MsgD) (no : Int) (w : World) (hn : m.2.length ≤ 1048576) (h : FieldsR.rd hi w [v] m.2) (hh : hi ≤ w.heap.size) :
    Calls Try.prog 12 #[.agg #[.string m.1, v], .int .i64 no] w (msgOnly (m.1, withoutL m.2 no) w) := by
  obtain ⟨A, c, rfl, hc, h'⟩ := fields_rd h
  have HR := Lib.hid h'
  clear h' h
  go_enter Try.func12, Try.ntmps12
  go_wp2
  have HB0 : Hid (Below w.heap.size w ((w.alloc (.cells #[.string m.1, .slice A m.2.length c] 30)).alloc (.cells #[.string ⟨#[]⟩, .slice none 0 0] 30))) := Lib.hid (((Below.refl _ _).alloc (Nat.le_refl _) _).alloc (by simp) _)
  have HX0 : Hid (((w.alloc (.cells #[.string m.1, .slice A m.2.length c] 30)).alloc (.cells #[.string ⟨#[]⟩, .slice none 0 0] 30)).cell? ⟨w.heap.size, 0, none⟩ = some (.string m.1)) := Lib.hid (by simp)
  have HRES : Hid (((w.alloc (.cells #[.string m.1, .slice A m.2.length c] 30)).alloc (.cells #[.string ⟨#[]⟩, .slice none 0 0] 30)).heap[w.heap.size + 1]? = some (.cells #[.string ⟨#[]⟩, .slice none 0 0] 30 (0, 0))) := Lib.hid (by simpa using heap_alloc_new (w.alloc (.cells #[.string m.1, .slice A m.2.length c] 30)) (.cells #[.string ⟨#[]⟩, .slice none 0 0] 30))
  generalize hW0 : (w.alloc (.cells #[.string m.1, .slice A m.2.length c] 30)).alloc (.cells #[.string ⟨#[]⟩, .slice none 0 0] 30) = W0 at HB0 HX0 HRES ⊢
  have hs0 : W0.heap.size = w.heap.size + 2 := by rw [← hW0]; simp
  clear hW0
  go_loopw [5, 11] (fun lv iv wr => ∃ (i : Nat) (A : Option Addr) (c : Nat) (L : List FieldD), i ≤ m.2.length ∧ iv = .int .i64 i ∧ lv = .slice A L.length c ∧ Hid (L = withoutL (m.2.take i) no) ∧ L.length ≤ i ∧ Hid (owE 39 2 fCells W0.heap.size wr (.slice A L.length c) L) ∧ Hid (Below W0.heap.size W0 wr) ∧ W0.heap.size ≤ wr.heap.size) (fun _ iv _ => m.2.length - (intOf iv).toNat)
  case atStart => exact ⟨0, none, 0, [], Nat.zero_le _, rfl, rfl, Lib.hid rfl, Nat.le_refl _, Lib.hid (owE_none _ _ _ _ _), Lib.hid (Below.refl _ _), Nat.le_refl _⟩
  case round =>
    obtain ⟨i, A', c', L, hi', rfl, rfl, HL, hLl, HO, HB, hz⟩ := hrel
    have HBr : Hid (Below w.heap.size w wr) := Lib.hid (HB0.out.trans (HB.out.mono (by omega)))
    by_cases hin : i < m.2.length
    · obtain ⟨x, hx⟩ : ∃ x, m.2[i]? = some x := ⟨_, List.getElem?_eq_getElem hin⟩
      obtain ⟨b, off, rfl, hbl, c0, c1⟩ := HR.out i x hx
      have HX := Lib.hid (take_next hx)
      have c0 := (HBr.out.cell (p := ⟨b, off + i * 2, none⟩) (show b < w.heap.size by omega)).trans c0
      have c1 := (HBr.out.cell (p := ⟨b, off + i * 2 + 1, none⟩) (show b < w.heap.size by omega)).trans c1
      have g1 : (i : Int) < (m.2.length : Int) := by omega
      have g2 : 0 ≤ (i : Int) := by omega
      have HF := Lib.hid (HO.out.alloc (.cells #[.int .i64 x.1, .string x.2] 39))
      have HBF := Lib.hid (HB.out.alloc hz (.cells #[.int .i64 x.1, .string x.2] 39))
      clear hx
      by_cases he : x.1 = no
      · have he' : (x.1 != no) = false := by simpa using he
        have HE := Lib.hid he
        clear he
        go_wp2
        go_roundw
        case rel => exact ⟨i + 1, A', c', L, by omega, by go_num, rfl, Lib.hid (by rw [HX.out, without_snoc, if_pos HE.out]; exact HL.out), by omega, HF, HBF, by simp; omega⟩
        case measure => simp [intOf] <;> omega
      · have he' : (x.1 != no) = true := by simpa using he
        have HE := Lib.hid he
        clear he
        go_wp2_with (at_builtin; refine app_elem fCells 2 (fun _ => rfl) (by decide) fCells_one 28 39 #[.int .i64 0, .string ⟨#[]⟩] 24 Try.underlying28 infoField rfl _ _ rfl (by rfl) W0.heap.size _ _ L x _ _ (by rfl) (by rfl) (by rfl) (by simp) HF.out (by unfold maxLen; omega) (by omega) (by first | omega | (simp; omega)) ?_)
        intro A2 c2 w2 hown2 hc2 hg2 _
        have hs2 : wr.heap.size + 2 ≤ w2.heap.size := by have := hg2.size; simp at this; omega
        have HB2 : Hid (Below W0.heap.size W0 w2) := Lib.hid ((HBF.out.alloc (by simp; omega) _).grown hg2 (by simp; omega) (fun g hg => (HF.out.lt g hg).1))
        have HO2 := Lib.hid hown2
        clear hown2 hg2
        go_wp2
        go_roundw
        case rel => exact ⟨i + 1, A2, c2, L ++ [x], by omega, by go_num, by rw [List.length_append]; rfl, Lib.hid (by rw [HX.out, without_snoc, if_neg HE.out, ← HL.out]), by simp; omega, Lib.hid (by rw [List.length_append, hs0]; exact HO2.out), HB2, by omega⟩
        case measure => simp [intOf] <;> omega
    · obtain rfl : i = m.2.length := by omega
      have HLL : Hid (L = withoutL m.2 no) := Lib.hid (by have := HL.out; rwa [List.take_length] at this)
      have x0 := (HB.out.cell (p := ⟨w.heap.size, 0, none⟩) (show w.heap.size < _ by omega)).trans HX0.out
      have hrb := (HB.out.block (w.heap.size + 1) (by omega)).trans HRES.out
      have r0 := cell_of_row _ _ 0 _ _ (0, 0) hrb
      have r1 := cell_of_row _ _ 1 _ _ (0, 0) hrb
      simp only [List.getElem?_toArray, List.getElem?_cons_zero, List.getElem?_cons_succ] at r0 r1
      have f0 : wr.frozen? ⟨w.heap.size + 1, 0, none⟩ = false := by unfold World.frozen?; rw [hrb]; simp
      have f1 : wr.frozen? ⟨w.heap.size + 1, 1, none⟩ = false := by unfold World.frozen?; rw [hrb]; simp
      clear hrb
      go_wp2
      refine bodyPost_ret (v := .agg #[.string m.1, .slice A' L.length c']) (by simp [results, Try.results12, go_sem, r0, r1]) rfl ⟨_, rfl, ?_, (HBr.out.setCell (p := ⟨_, _, none⟩) (show _ ≤ w.heap.size + 1 by omega) _).setCell (p := ⟨_, _, none⟩) (show _ ≤ w.heap.size + 1 by omega) _⟩
      have ht := ((Turned.refl (w.heap.size + 1) (w.heap.size + 2) wr).set (b := w.heap.size + 1) 0 (.string m.1) (by omega) (by omega)).set (b := w.heap.size + 1) 1 (.slice A' L.length c') (by omega) (by omega)
      show FieldsR.mine _ _ _ _ (withoutL m.2 no)
      rw [← HLL.out]
      exact ((mine_own HO.out (Nat.le_refl _)).turned ht (.inr (by omega)) (Nat.le_refl _)).mono (by omega) ht.size
end Go.Proofs.Ytkkbhlaakhkjnaa
