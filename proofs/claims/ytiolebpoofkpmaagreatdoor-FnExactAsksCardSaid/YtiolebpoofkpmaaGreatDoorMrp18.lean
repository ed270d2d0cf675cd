/- Asks of the reference: the accounts that a request names; no conditions. -/
import Derived.Test.YtiolebpoofkpmaaGreatDoorMrp13
import Derived.Test.YtiolebpoofkpmaaGreatDoorMrp17
import Derived.Test.YtiolebpoofkpmaaGreatDoorMrp14
import Derived.Test.YtiolebpoofkpmaaGreatDoorMrp4
import Derived.Test.YtiolebpoofkpmaaGreatDoorMrp3
set_option linter.unusedVariables false
namespace Go.Proofs.YtiolebpoofkpmaaGreatDoor
open Go.ChangeShapes Go.WideShapes Go.ChangeAt Go.RowKit

def asksL (l : List Int) : List ByteArray := if (parseRes l).2 = 0 ∧ (reqL (parseRes l).1).2 = 0 then namesL (reqL (parseRes l).1).1 else []
set_option maxRecDepth 100000 in
theorem parse_len2 (b : List Int) : (parseRes b).1.2.length ≤ 128 := by
  unfold parseRes
  split
  · simp
  · split
    · simp
    · generalize hq : pst b (nosL b) (nosE b) (nosL b).length = q
      cases q with
      | none => simp
      | some p =>
        obtain ⟨e, L⟩ := p
        have hl := pst_len _ e L hq
        have hn := nosL_len b
        show (if e = (b.length : Int) then (((⟨(gTxt b 0 4).toArray⟩, L), 0) : MsgD × Int) else ((⟨#[]⟩, []), 4)).1.2.length ≤ 128
        split
        · show L.length ≤ 128; omega
        · simp
set_option maxRecDepth 100000 in
theorem parse_size2 {b : List Int} (hb : isBytes b) : (parseRes b).1.1.size ≤ 4 ∧ (parseRes b).1.2.length ≤ 128 := by
  refine ⟨?_, parse_len2 b⟩
  rcases parse_code b with h | ⟨-, -, h⟩
  · have hp : parseRes b = ((parseRes b).1, 0) := Prod.ext rfl h
    have hok := (parse_only hb hp).1
    unfold msgOk mtiOk at hok
    simp only [Bool.and_eq_true, decide_eq_true_eq] at hok
    omega
  · rw [h]; exact Nat.zero_le _
set_option maxRecDepth 100000 in
theorem asks_len (l : List Int) : (asksL l).length ≤ 2 := by
  unfold asksL namesL
  repeat' split
  all_goals simp
set_option maxRecDepth 100000 in
theorem parse_texts {b : List Int} (hb : isBytes b) : ∀ x ∈ (parseRes b).1.2, x.2.size ≤ 1048576 := by
  rcases parse_code b with h | ⟨-, -, h⟩
  · have h1 := (parse_only hb (m := (parseRes b).1) (Prod.ext rfl h)).1
    intro x hx
    have h2 := (listOk_all (by unfold msgOk at h1; simp only [Bool.and_eq_true] at h1; exact h1.2)).1 x hx
    exact Nat.le_trans (fOk_60 h2) (by omega)
  · rw [h]; intro x hx; simp at hx
set_option maxRecDepth 100000 in
theorem strs_new1 (w : World) (T : TypeId) (a : ByteArray) {lo g : Nat} (hg : g = w.heap.size) (h : lo ≤ w.heap.size) : StrsR.mine lo (w.alloc (.cells #[.string a] T)).heap.size (w.alloc (.cells #[.string a] T)) [.slice (some ⟨g, 0, none⟩) 1 1] [a] := by
  subst hg
  have hb := bk.new w T [.string a]
  refine strs_mine_of (l := [a]) (Nat.le_refl _) h (by simp) fun j x hx => ?_
  have hj : j = 0 := by have := (List.getElem?_eq_some_iff.1 hx).1; simp at this; omega
  subst hj
  cases hx
  exact ⟨hb.cell 0, hb.frozen 0⟩
set_option maxRecDepth 100000 in
theorem strs_new2 (w : World) (T : TypeId) (a b : ByteArray) {lo g : Nat} (hg : g = w.heap.size) (h : lo ≤ w.heap.size) : StrsR.mine lo (w.alloc (.cells #[.string a, .string b] T)).heap.size (w.alloc (.cells #[.string a, .string b] T)) [.slice (some ⟨g, 0, none⟩) 2 2] [a, b] := by
  subst hg
  have hb := bk.new w T [.string a, .string b]
  refine strs_mine_of (l := [a, b]) (Nat.le_refl _) h (by simp) fun j x hx => ?_
  have hj : j = 0 ∨ j = 1 := by have := (List.getElem?_eq_some_iff.1 hx).1; simp at this; omega
  rcases hj with rfl | rfl
  · cases hx
    exact ⟨hb.cell 0, hb.frozen 0⟩
  · cases hx
    exact ⟨hb.cell 1, hb.frozen 1⟩
set_option maxRecDepth 100000 in
set_option maxHeartbeats 4000000 in
theorem specAsks_any (hi : Nat) (v : Value) (l : List Int) (w : World) (hn : l.length ≤ 1048576) (hl : isBytes l) (h : rd .u8 hi w v l) (hhi : hi ≤ w.heap.size) :
    Calls Tryz.prog 4 #[v] w (strsOne (asksL l) w) := by
  have HP := Lib.hid (specParse_any hi v l w hn hl h hhi)
  have hps := parse_size2 hl
  have hpt := parse_texts hl
  have HA : Hid (asksL l = if (parseRes l).2 = 0 ∧ (reqL (parseRes l).1).2 = 0 then namesL (reqL (parseRes l).1).1 else []) := Lib.hid rfl
  have hq : ∀ (hi' : Nat) (u : Value) (V : World), FieldsR.rd hi' V [u] (parseRes l).1.2 → hi' ≤ V.heap.size → Calls Tryz.prog 13 #[.agg #[.string (parseRes l).1.1, u]] V fun e w' => e = .returned (qRes (reqL (parseRes l).1)) ∧ Below V.heap.size V w' := fun hi' u V hr hv => specReqOf_any hi' u (parseRes l).1 V (by omega) hr hv (by have := hps.1; unfold maxLen; omega) hpt
  obtain ⟨NL, hNL⟩ : ∃ NL, NL = asksL l := ⟨_, rfl⟩
  rw [← hNL]
  have HN := Lib.hid (hNL.trans HA.out)
  obtain ⟨A, c, rfl, -⟩ := h.form
  clear h HA hNL hps hpt
  generalize reqL (parseRes l).1 = rq at hq HN
  generalize parseRes l = r at HP hq HN
  obtain ⟨⟨mt, mf⟩, cd⟩ := r
  obtain ⟨q, rs⟩ := rq
  simp only at hq HN
  have HQ := Lib.hid hq
  clear hq
  go_enter Tryz.func4, Tryz.ntmps4
  go_wp2_with fail
  refine HP.out.mono ?_
  rintro e w1 ⟨u, rfl, hm, hb1⟩
  obtain ⟨AU, cU, rfl, -⟩ := Rep.slice_form hm.rd
  have HM := Lib.hid hm
  have HB1 := Lib.hid hb1
  have z1 := hb1.size
  clear hm hb1 HP
  have HB2 : Hid (∀ o, Below w.heap.size w (w1.alloc o)) := Lib.hid fun o => HB1.out.alloc z1 o
  by_cases hc : cd = 0
  · subst hc
    have HQ2 := Lib.hid (fun o => HQ.out w1.heap.size _ (w1.alloc o) (Rep.below (R := FieldsR) HM.out.rd ((Below.refl w1.heap.size w1).alloc (Nat.le_refl _) o) (Nat.le_refl _)) (by simp))
    simp only [qRes, qV, qCells] at HQ2
    go_wp2_with fail
    refine (HQ2.out _).mono ?_
    rintro e w3 ⟨rfl, hb3⟩
    have HB3 : Hid (Below w.heap.size w w3) := Lib.hid ((HB2.out _).trans (hb3.mono (by simp; omega)))
    have z3 := HB3.out.size
    clear hb3 HQ2 HQ
    obtain ⟨op, ac, ot, hd, tr, mi, am, tt⟩ := q
    have HB4 : Hid (∀ o o', Below w.heap.size w ((w3.alloc o).alloc o')) := Lib.hid fun o o' => (HB3.out.alloc z3 o).alloc (by simp; omega) o'
    by_cases hrs : rs = 0
    · subst hrs
      by_cases h6 : op = 6
      · subst h6
        by_cases he : ot = ac
        · subst he
          have HV : Hid (namesL ⟨6, ot, ot, hd, tr, mi, am, tt⟩ = [ot]) := Lib.hid (by simp [namesL])
          go_wp2
          go_ret
          exact ⟨_, rfl, by rw [HN.out, if_pos (by simp), HV.out]; exact strs_new1 _ _ _ (by simp) (by simp; omega), HB4.out _ _⟩
        · have g1 : (ot.toList == ac.toList) = false := by simpa using fun e => he (str_eq_list.1 e)
          have g2 : ¬ ot.toList = ac.toList := fun e => he (str_eq_list.1 e)
          cases hb : Op.bytesLess ot.toList ac.toList
          · have HV : Hid (namesL ⟨6, ac, ot, hd, tr, mi, am, tt⟩ = [ac, ot]) := Lib.hid (by simp [namesL, he, hb])
            clear he
            go_wp2
            go_ret
            exact ⟨_, rfl, by rw [HN.out, if_pos (by simp), HV.out]; exact strs_new2 _ _ _ _ (by simp) (by simp; omega), HB4.out _ _⟩
          · have HV : Hid (namesL ⟨6, ac, ot, hd, tr, mi, am, tt⟩ = [ot, ac]) := Lib.hid (by simp [namesL, he, hb])
            clear he
            go_wp2
            go_ret
            exact ⟨_, rfl, by rw [HN.out, if_pos (by simp), HV.out]; exact strs_new2 _ _ _ _ (by simp) (by simp; omega), HB4.out _ _⟩
      · have HV : Hid (namesL ⟨op, ac, ot, hd, tr, mi, am, tt⟩ = [ac]) := Lib.hid (by simp [namesL, h6])
        have g1 : (op == 6) = false := beq_eq_false_iff_ne.2 h6
        go_wp2
        go_ret
        exact ⟨_, rfl, by rw [HN.out, if_pos (by simp), HV.out]; exact strs_new1 _ _ _ (by simp) (by simp; omega), HB4.out _ _⟩
    · have g1 : (rs == 0) = false := beq_eq_false_iff_ne.2 hrs
      have HE : Hid (¬ ((0 : Int) = 0 ∧ rs = 0)) := Lib.hid fun h => hrs h.2
      go_wp2
      go_ret
      exact ⟨_, rfl, by rw [HN.out, if_neg (by simpa using HE.out)]; exact strs_nil _ _ _ _ _, HB4.out _ _⟩
  · have g1 : (cd == 0) = false := beq_eq_false_iff_ne.2 hc
    have HE : Hid (¬ (cd = 0 ∧ rs = 0)) := Lib.hid fun h => hc h.1
    have HB4 : Hid (∀ o o', Below w.heap.size w ((w1.alloc o).alloc o')) := Lib.hid fun o o' => (HB2.out o).alloc (by simp; omega) o'
    go_wp2
    go_ret
    exact ⟨_, rfl, by rw [HN.out, if_neg (by simpa using HE.out)]; exact strs_nil _ _ _ _ _, HB4.out _ _⟩
end Go.Proofs.YtiolebpoofkpmaaGreatDoor
