/- FieldOf, WithoutField and MsgSame of the reference; no conditions. -/
import Derived.Test.YtkkbhlaakhkjnaaMsgRow
import Derived.BigQuiet
import Derived.Deep.QuietTactic
set_option linter.unusedVariables false
namespace Go.Proofs.Ytkkbhlaakhkjnaa
open Go.ChangeShapes Go.WideShapes Go.ChangeAt Go.RowKit

def fldHas (l : List FieldD) (no : Int) : Bool := l.any fun x => decide (x.1 = no)
def fldTxt (l : List FieldD) (no : Int) : ByteArray := ((l.find? fun x => decide (x.1 = no)).map (·.2)).getD ⟨#[]⟩
set_option maxRecDepth 100000 in
theorem find_at {l : List FieldD} {no : Int} {i : Nat} {x : FieldD} (hN : ∀ j y, j < i → l[j]? = some y → y.1 ≠ no) (hx : l[i]? = some x) (he : x.1 = no) : fldHas l no = true ∧ fldTxt l no = x.2 := by
  obtain ⟨hi, rfl⟩ := List.getElem?_eq_some_iff.1 hx
  have h1 : l.find? (fun x => decide (x.1 = no)) = some l[i] := by
    rw [List.find?_eq_some_iff_getElem]
    refine ⟨by simpa using he, i, hi, rfl, fun j hj => ?_⟩
    have := hN j _ hj (List.getElem?_eq_getElem (by omega))
    simpa using this
  constructor
  · unfold fldHas; rw [List.any_eq_true]; exact ⟨_, List.getElem_mem hi, by simpa using he⟩
  · unfold fldTxt; rw [h1]; rfl
set_option maxRecDepth 100000 in
theorem find_none {l : List FieldD} {no : Int} (hN : ∀ j y, j < l.length → l[j]? = some y → y.1 ≠ no) : fldHas l no = false ∧ fldTxt l no = ⟨#[]⟩ := by
  have hall : ∀ x ∈ l, ¬ x.1 = no := fun x hx => by
    obtain ⟨j, hj⟩ := List.mem_iff_getElem?.1 hx
    exact hN j x (List.getElem?_eq_some_iff.1 hj).1 hj
  constructor
  · unfold fldHas; rw [List.any_eq_false]; intro x hx; simpa using hall x hx
  · unfold fldTxt
    rw [List.find?_eq_none.2 (fun x hx => by simpa using hall x hx)]
    rfl
set_option maxRecDepth 100000 in
set_option maxHeartbeats 1600000 in
theorem specFieldOf_any (hi : Nat) (v : Value) (m : MsgD) (no : Int) (w : World) (hn : m.2.length ≤ 1048576) (h : FieldsR.rd hi w [v] m.2) (hh : hi ≤ w.heap.size) :
    Calls Try.prog 7 #[.agg #[.string m.1, v], .int .i64 no] w fun e w' => e = .returned (.tuple #[.string (fldTxt m.2 no), .bool (fldHas m.2 no)]) ∧ Below w.heap.size w w' := by
  obtain ⟨A, c, rfl, hc, h'⟩ := fields_rd h
  have HR := Lib.hid h'
  clear h' h
  go_enter Try.func7, Try.ntmps7
  go_wp2
  have HB0 : Hid (Below w.heap.size w (w.alloc (.cells #[.string m.1, .slice A m.2.length c] 30))) := Lib.hid ((Below.refl _ _).alloc (Nat.le_refl _) _)
  go_loopw [11] (fun iv wr => ∃ i : Nat, i ≤ m.2.length ∧ iv = .int .i64 i ∧ Hid (∀ j y, j < i → m.2[j]? = some y → y.1 ≠ no) ∧ Hid (Below w.heap.size w wr) ∧ w.heap.size ≤ wr.heap.size) (fun iv _ => m.2.length - (intOf iv).toNat)
  case atStart => exact ⟨0, Nat.zero_le _, rfl, Lib.hid (fun j y hj => absurd hj (by omega)), HB0, by simp⟩
  case round =>
    obtain ⟨i, hi', rfl, HN, HB, hz⟩ := hrel
    by_cases hin : i < m.2.length
    · obtain ⟨x, hx⟩ : ∃ x, m.2[i]? = some x := ⟨_, List.getElem?_eq_getElem hin⟩
      obtain ⟨b, off, rfl, hbl, c0, c1⟩ := HR.out i x hx
      have HX := Lib.hid hx
      have c0 := (HB.out.cell (p := ⟨b, off + i * 2, none⟩) (show b < w.heap.size by omega)).trans c0
      have c1 := (HB.out.cell (p := ⟨b, off + i * 2 + 1, none⟩) (show b < w.heap.size by omega)).trans c1
      have g1 : (i : Int) < (m.2.length : Int) := by omega
      have g2 : 0 ≤ (i : Int) := by omega
      clear hx
      by_cases he : x.1 = no
      · have HF := Lib.hid (find_at HN.out HX.out he)
        have he' : (x.1 == no) = true := by simpa using he
        clear he
        go_wp2
        go_ret2
        rw [HF.out.1, HF.out.2]
        exact ⟨rfl, HB.out.alloc hz _⟩
      · have he' : (x.1 == no) = false := by simpa using he
        have HE := Lib.hid he
        clear he
        go_wp2
        go_roundw
        case rel => exact ⟨i + 1, by omega, by go_num, Lib.hid (fun j y hj hy => by
          by_cases e : j = i
          · subst e; rw [HX.out] at hy; cases hy; exact HE.out
          · exact HN.out j y (by omega) hy), Lib.hid (HB.out.alloc hz _), by simp; omega⟩
        case measure => simp [intOf] <;> omega
    · obtain rfl : i = m.2.length := by omega
      have HF := Lib.hid (find_none HN.out)
      go_wp2
      go_ret2
      rw [HF.out.1, HF.out.2]
      exact ⟨rfl, HB.out⟩
def withoutL (l : List FieldD) (no : Int) : List FieldD := l.filter fun x => decide (x.1 ≠ no)
set_option maxRecDepth 100000 in
theorem without_snoc (l : List FieldD) (x : FieldD) (no : Int) : withoutL (l ++ [x]) no = if x.1 = no then withoutL l no else withoutL l no ++ [x] := by
  unfold withoutL
  rw [List.filter_append]
  by_cases h : x.1 = no <;> simp [h]
set_option maxRecDepth 100000 in
theorem take_next {α : Type} {l : List α} {i : Nat} {x : α} (h : l[i]? = some x) : l.take (i + 1) = l.take i ++ [x] := by
  obtain ⟨hi, rfl⟩ := List.getElem?_eq_some_iff.1 h
  rw [List.take_succ_eq_append_getElem hi]
/-- a message alone -/
def msgOnly (r : MsgD) (w : World) (e : Ending) (w' : World) : Prop := ∃ u, e = .returned (.agg #[.string r.1, u]) ∧ FieldsR.mine w.heap.size w'.heap.size w' [u] r.2 ∧ Below w.heap.size w w'
set_option maxRecDepth 100000 in
set_option maxHeartbeats 3200000 in
theorem specWithoutField_any (hi : Nat) (v : Value) (m : MsgD) (no : Int) (w : World) (hn : m.2.length ≤ 1048576) (h : FieldsR.rd hi w [v] m.2) (hh : hi ≤ w.heap.size) :
    Calls Try.prog 11 #[.agg #[.string m.1, v], .int .i64 no] w (msgOnly (m.1, withoutL m.2 no) w) := by
  obtain ⟨A, c, rfl, hc, h'⟩ := fields_rd h
  have HR := Lib.hid h'
  clear h' h
  go_enter Try.func11, Try.ntmps11
  go_wp2
  have HB0 : Hid (Below w.heap.size w ((w.alloc (.cells #[.string m.1, .slice A m.2.length c] 30)).alloc (.cells #[.string ⟨#[]⟩, .slice none 0 0] 30))) := Lib.hid (((Below.refl _ _).alloc (Nat.le_refl _) _).alloc (by simp) _)
  have HRES : Hid (((w.alloc (.cells #[.string m.1, .slice A m.2.length c] 30)).alloc (.cells #[.string ⟨#[]⟩, .slice none 0 0] 30)).heap[w.heap.size + 1]? = some (.cells #[.string ⟨#[]⟩, .slice none 0 0] 30 (0, 0))) := Lib.hid (by simpa using heap_alloc_new (w.alloc (.cells #[.string m.1, .slice A m.2.length c] 30)) (.cells #[.string ⟨#[]⟩, .slice none 0 0] 30))
  have HST : Hid (growMsg (w.heap.size + 1 + 1) m.1 ((w.alloc (.cells #[.string m.1, .slice A m.2.length c] 30)).alloc (.cells #[.string ⟨#[]⟩, .slice none 0 0] 30)) (((w.alloc (.cells #[.string m.1, .slice A m.2.length c] 30)).alloc (.cells #[.string ⟨#[]⟩, .slice none 0 0] 30)).alloc (.cells #[.string m.1, .slice none 0 0] 30)) (.slice none 0 0) []) := Lib.hid (by simpa using growMsg.start m.1 ((w.alloc (.cells #[.string m.1, .slice A m.2.length c] 30)).alloc (.cells #[.string ⟨#[]⟩, .slice none 0 0] 30)))
  generalize hW0 : (w.alloc (.cells #[.string m.1, .slice A m.2.length c] 30)).alloc (.cells #[.string ⟨#[]⟩, .slice none 0 0] 30) = W0 at HB0 HRES HST ⊢
  have hs0 : W0.heap.size = w.heap.size + 1 + 1 := by rw [← hW0]; simp
  have HS0 := Lib.hid hs0
  clear hW0 hs0
  go_loopw [14] (fun iv wr => ∃ (i : Nat) (A : Option Addr) (c : Nat) (L : List FieldD), i ≤ m.2.length ∧ iv = .int .i64 i ∧ Hid (L = withoutL (m.2.take i) no) ∧ L.length ≤ i ∧ Hid (growMsg (w.heap.size + 1 + 1) m.1 W0 wr (.slice A L.length c) L) ∧ w.heap.size + 1 + 1 < wr.heap.size) (fun iv _ => m.2.length - (intOf iv).toNat)
  case atStart => exact ⟨0, none, 0, [], Nat.zero_le _, rfl, Lib.hid rfl, Nat.le_refl _, HST, by have := HS0.out; simp; omega⟩
  case round =>
    obtain ⟨i, A', c', L, hi', rfl, HL, hLl, HG, hz⟩ := hrel
    have HBr : Hid (Below w.heap.size w wr) := Lib.hid (HB0.out.trans (HG.out.below.mono (by omega)))
    by_cases hin : i < m.2.length
    · obtain ⟨x, hx⟩ : ∃ x, m.2[i]? = some x := ⟨_, List.getElem?_eq_getElem hin⟩
      obtain ⟨b, off, rfl, hbl, c0, c1⟩ := HR.out i x hx
      have HX := Lib.hid (take_next hx)
      have c0 := (HBr.out.cell (p := ⟨b, off + i * 2, none⟩) (show b < w.heap.size by omega)).trans c0
      have c1 := (HBr.out.cell (p := ⟨b, off + i * 2 + 1, none⟩) (show b < w.heap.size by omega)).trans c1
      have g1 : (i : Int) < (m.2.length : Int) := by omega
      have g2 : 0 ≤ (i : Int) := by omega
      have HF := Lib.hid (HG.out.alloc (.cells #[.int .i64 x.1, .string x.2] 39))
      have hcell := HG.out.cell1
      have hfree := HG.out.free 1
      have hfb : w.heap.size + 1 + 1 ≠ wr.heap.size := by omega
      clear hx
      by_cases he : x.1 = no
      · have he' : (x.1 != no) = false := by simpa using he
        have HE := Lib.hid he
        clear he
        go_wp2
        go_roundw
        case rel => exact ⟨i + 1, A', c', L, by omega, by go_num, Lib.hid (by rw [HX.out, without_snoc, if_pos HE.out]; exact HL.out), by omega, HF, by simp; omega⟩
        case measure => simp [intOf] <;> omega
      · have he' : (x.1 != no) = true := by simpa using he
        have HE := Lib.hid he
        clear he
        go_wp2_with (at_builtin; refine app_elem fCells 2 (fun _ => rfl) (by decide) fCells_one 28 39 #[.int .i64 0, .string ⟨#[]⟩] 24 Try.underlying28 infoField rfl _ _ rfl (by rfl) (w.heap.size + 1 + 1 + 1) _ _ L x _ _ (by rfl) (by rfl) (by rfl) (by simp) HF.out.own (by unfold maxLen; omega) (by omega) (by first | omega | (simp; omega)) ?_)
        intro A2 c2 w2 hown2 hc2 hg2 _
        obtain ⟨q2, k2⟩ := HF.out.app_cell hg2
        have HG2 := Lib.hid (HF.out.app hg2 hown2)
        have hs2 : wr.heap.size + 2 ≤ w2.heap.size := by have := hg2.size; simp at this; omega
        clear hown2 hg2
        go_wp2
        go_roundw
        case rel => exact ⟨i + 1, A2, c2, L ++ [x], by omega, by go_num, Lib.hid (by rw [HX.out, without_snoc, if_neg HE.out, ← HL.out]), by simp; omega, Lib.hid (by simpa using HG2.out), by simp [World.setCell]; omega⟩
        case measure => simp [intOf] <;> omega
    · obtain rfl : i = m.2.length := by omega
      have HLL : Hid (L = withoutL m.2 no) := Lib.hid (by have := HL.out; rwa [List.take_length] at this)
      have hrb := (HG.out.below.block (w.heap.size + 1) (by omega)).trans HRES.out
      have r0 := cell_of_row _ _ 0 _ _ (0, 0) hrb
      have r1 := cell_of_row _ _ 1 _ _ (0, 0) hrb
      simp only [List.getElem?_toArray, List.getElem?_cons_zero, List.getElem?_cons_succ] at r0 r1
      have f0 : wr.frozen? ⟨w.heap.size + 1, 0, none⟩ = false := by unfold World.frozen?; rw [hrb]; simp
      have f1 : wr.frozen? ⟨w.heap.size + 1, 1, none⟩ = false := by unfold World.frozen?; rw [hrb]; simp
      have e0 := HG.out.cell0
      have e1 := HG.out.cell1
      clear hrb
      go_wp2
      refine bodyPost_ret (v := .agg #[.string m.1, .slice A' L.length c']) (by simp [results, Try.results11, go_sem, r0, r1]) rfl ?_
      have HZ := HG.out.ret (w2 := w) (r := w.heap.size + 1) (by omega) (by omega) HBr.out (.string m.1) (.slice A' L.length c')
      exact ⟨_, rfl, by show FieldsR.mine _ _ _ _ (withoutL m.2 no); rw [← HLL.out]; exact HZ.1, HZ.2⟩
set_option maxRecDepth 100000 in
theorem str_ne {a b : ByteArray} (h : a ≠ b) : (a.toList == b.toList) = false := by
  rw [beq_eq_false_iff_ne, ByteArray.toList_eq, ByteArray.toList_eq]
  intro e
  exact h (ByteArray.ext (Array.toList_inj.1 e))
set_option maxRecDepth 100000 in
theorem same_no {a b : MsgD} {i : Nat} {x y : FieldD} (hx : a.2[i]? = some x) (hy : b.2[i]? = some y) (h : x ≠ y) : decide (a = b) = false := by
  rw [decide_eq_false_iff_not]
  rintro rfl
  exact h (Option.some.inj (hx.symm.trans hy))
set_option maxRecDepth 100000 in
theorem same_yes {a b : MsgD} (h1 : a.1 = b.1) (hl : a.2.length = b.2.length) (h : ∀ j x, j < a.2.length → a.2[j]? = some x → b.2[j]? = some x) : decide (a = b) = true := by
  rw [decide_eq_true_eq]
  refine Prod.ext h1 (List.ext_getElem hl fun j hj1 hj2 => ?_)
  have := h j _ hj1 (List.getElem?_eq_getElem hj1)
  rw [List.getElem?_eq_getElem hj2] at this
  exact (Option.some.inj this).symm
set_option maxRecDepth 100000 in
set_option maxHeartbeats 3200000 in
theorem specMsgSame_any (hi1 hi2 : Nat) (va vb : Value) (a b : MsgD) (w : World) (hna : a.2.length ≤ 1048576) (hnb : b.2.length ≤ 1048576) (h1 : FieldsR.rd hi1 w [va] a.2) (h2 : FieldsR.rd hi2 w [vb] b.2) (hh1 : hi1 ≤ w.heap.size) (hh2 : hi2 ≤ w.heap.size) :
    Calls Try.prog 15 #[.agg #[.string a.1, va], .agg #[.string b.1, vb]] w fun e w' => e = .returned (.bool (decide (a = b))) ∧ Below w.heap.size w w' := by
  obtain ⟨A1, c1, rfl, hc1, h1'⟩ := fields_rd h1
  obtain ⟨A2, c2, rfl, hc2, h2'⟩ := fields_rd h2
  have H1 := Lib.hid h1'
  have H2 := Lib.hid h2'
  clear h1' h2' h1 h2
  have HB0 : Hid (∀ o1 o2, Below w.heap.size w ((w.alloc o1).alloc o2)) := Lib.hid fun o1 o2 => ((Below.refl _ _).alloc (Nat.le_refl _) o1).alloc (by simp) o2
  by_cases hm : a.1 = b.1
  · by_cases hl : a.2.length = b.2.length
    · have HM := Lib.hid hm
      have HL := Lib.hid hl
      have hl' : ((a.2.length : Int) != (b.2.length : Int)) = false := by rw [bne_eq_false_iff_eq]; omega
      have hln : b.2.length = a.2.length := hl.symm
      rw [hln] at hnb hc2 ⊢
      clear hl hl' hln
      rw [← hm]
      clear hm
      go_enter Try.func15, Try.ntmps15
      go_wp2
      have HBX := Lib.hid (HB0.out (.cells #[.string a.1, .slice A1 a.2.length c1] 30) (.cells #[.string a.1, .slice A2 a.2.length c2] 30))
      have hbox : ((w.alloc (.cells #[.string a.1, .slice A1 a.2.length c1] 30)).alloc (.cells #[.string a.1, .slice A2 a.2.length c2] 30)).cell? ⟨w.heap.size + 1, 1, none⟩ = some (.slice A2 a.2.length c2) := by simp
      generalize hW0 : (w.alloc (.cells #[.string a.1, .slice A1 a.2.length c1] 30)).alloc (.cells #[.string a.1, .slice A2 a.2.length c2] 30) = W0 at HBX hbox ⊢
      have hz0 : w.heap.size + 2 ≤ W0.heap.size := by rw [← hW0]; simp
      have HBO := Lib.hid hbox
      clear hW0 hbox
      go_loopw [24] (fun iv wr => ∃ i : Nat, i ≤ a.2.length ∧ iv = .int .i64 i ∧ Hid (∀ j x, j < i → a.2[j]? = some x → b.2[j]? = some x) ∧ Hid (Below W0.heap.size W0 wr) ∧ W0.heap.size ≤ wr.heap.size) (fun iv _ => a.2.length - (intOf iv).toNat)
      case atStart => exact ⟨0, Nat.zero_le _, rfl, Lib.hid (fun j x hj => absurd hj (by omega)), Lib.hid (Below.refl _ _), Nat.le_refl _⟩
      case round =>
        obtain ⟨i, hi', rfl, HE, HB, hz⟩ := hrel
        have HBW : Hid (Below w.heap.size w wr) := Lib.hid (HBX.out.trans (HB.out.mono (by omega)))
        by_cases hin : i < a.2.length
        · obtain ⟨x, hx⟩ : ∃ x, a.2[i]? = some x := ⟨_, List.getElem?_eq_getElem hin⟩
          obtain ⟨y, hy⟩ : ∃ y, b.2[i]? = some y := ⟨_, List.getElem?_eq_getElem (by have := HL.out; omega)⟩
          obtain ⟨p, o, rfl, hp, d0, d1⟩ := H1.out i x hx
          obtain ⟨q, r, rfl, hq, e0, e1⟩ := H2.out i y hy
          have d0 := (HBW.out.cell (p := ⟨p, _, none⟩) (show p < w.heap.size by omega)).trans d0
          have d1 := (HBW.out.cell (p := ⟨p, _, none⟩) (show p < w.heap.size by omega)).trans d1
          have e0 := (HBW.out.cell (p := ⟨q, _, none⟩) (show q < w.heap.size by omega)).trans e0
          have e1 := (HBW.out.cell (p := ⟨q, _, none⟩) (show q < w.heap.size by omega)).trans e1
          have hbox := (HB.out.cell (p := ⟨w.heap.size + 1, 1, none⟩) (show w.heap.size + 1 < W0.heap.size by omega)).trans HBO.out
          have hqz : q < wr.heap.size := by omega
          have hbz : w.heap.size + 1 < wr.heap.size := by omega
          have HX := Lib.hid hx
          have HY := Lib.hid hy
          have g1 : (i : Int) < (a.2.length : Int) := by omega
          have g2 : 0 ≤ (i : Int) := by omega
          clear hx hy
          by_cases h1 : x.1 = y.1
          · by_cases h2 : x.2 = y.2
            · have hxy : x = y := Prod.ext h1 h2
              subst hxy
              clear h1 h2
              go_wp2
              go_quiet (fail)
              go_wp2
              go_roundw
              case rel => exact ⟨i + 1, by omega, by go_num, Lib.hid (fun j z hj hz' => by
                by_cases e : j = i
                · subst e; rw [HX.out] at hz'; cases hz'; exact HY.out
                · exact HE.out j z (by omega) hz'), Lib.hid (below_drewN (HB.out.alloc hz _) _), by simp; omega⟩
              case measure => simp [intOf] <;> omega
            · have h2' := str_ne h2
              have HK : Hid (decide (a = b) = false) := Lib.hid (same_no HX.out HY.out (fun e => h2 (by rw [e])))
              have h1' : (x.1 == y.1) = true := by simpa using h1
              clear h1 h2
              go_wp2
              go_quiet (fail)
              go_wp2
              go_ret
              exact ⟨ret_bool HK.out.symm, below_drewN (HBW.out.alloc (by omega) _) _⟩
          · have HK : Hid (decide (a = b) = false) := Lib.hid (same_no HX.out HY.out (fun e => h1 (by rw [e])))
            have h1' : (x.1 == y.1) = false := by simpa using h1
            clear h1
            go_wp2
            go_quiet (fail)
            go_wp2
            go_ret
            exact ⟨ret_bool HK.out.symm, below_drewN (HBW.out.alloc (by omega) _) _⟩
        · obtain rfl : i = a.2.length := by omega
          have HK : Hid (decide (a = b) = true) := Lib.hid (same_yes HM.out HL.out HE.out)
          go_wp2
          go_ret
          exact ⟨ret_bool HK.out.symm, HBW.out⟩
    · have HK : Hid (decide (a = b) = false) := Lib.hid (by rw [decide_eq_false_iff_not]; rintro rfl; exact hl rfl)
      have hl' : ((a.2.length : Int) == (b.2.length : Int)) = false := by rw [beq_eq_false_iff_ne]; omega
      clear hl
      rw [HK.out]
      rw [← hm]
      clear hm
      go_enter Try.func15, Try.ntmps15
      go_wp2
      go_ret
      exact ⟨rfl, HB0.out _ _⟩
  · have HK : Hid (decide (a = b) = false) := Lib.hid (by rw [decide_eq_false_iff_not]; rintro rfl; exact hm rfl)
    have hm' := str_ne hm
    clear hm
    rw [HK.out]
    go_enter Try.func15, Try.ntmps15
    go_wp2
    go_ret
    exact ⟨rfl, HB0.out _ _⟩
end Go.Proofs.Ytkkbhlaakhkjnaa
