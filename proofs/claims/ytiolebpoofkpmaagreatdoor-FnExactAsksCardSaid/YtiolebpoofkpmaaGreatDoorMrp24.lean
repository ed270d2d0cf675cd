/- Asks of the program; the table of operations lies as Go's text lays it, errNotDigits holds an error. -/
import Derived.Test.YtiolebpoofkpmaaGreatDoorMrp3
import Derived.Test.YtiolebpoofkpmaaGreatDoorMrp18
import Derived.Test.YtiolebpoofkpmaaGreatDoorMrp20
import Derived.Test.YtiolebpoofkpmaaGreatDoorMrp23
set_option linter.unusedVariables false
namespace Go.Proofs.YtiolebpoofkpmaaGreatDoor
open Go.ChangeShapes Go.WideShapes Go.ChangeAt Go.RowKit

set_option maxRecDepth 100000 in
set_option maxHeartbeats 4000000 in
theorem implAsks_any (hi : Nat) (v : Value) (l : List Int) (w : World) (p : Addr) (hO : opsIn w) (hg : 1 < w.heap.size) (hce : w.cell? ⟨1, 0, none⟩ = some (.iface 207 (.pointer (some p)))) (hn : l.length ≤ 1048576) (hl : isBytes l) (h : rd .u8 hi w v l) (hhi : hi ≤ w.heap.size) :
    Calls Tryz.prog 6 #[v] w (strsOne (asksL l) w) := by
  have HP := Lib.hid (implParse_any hi v l w p hg hce (by omega) hl h hhi)
  have hps := parse_size2 hl
  have hpt := parse_texts hl
  have HA : Hid (asksL l = if (parseRes l).2 = 0 ∧ (reqL (parseRes l).1).2 = 0 then namesL (reqL (parseRes l).1).1 else []) := Lib.hid rfl
  have hq : ∀ (hi' : Nat) (u : Value) (V : World), Below w.heap.size w V → FieldsR.rd hi' V [u] (parseRes l).1.2 → hi' ≤ V.heap.size → Calls Tryz.prog 15 #[.agg #[.string (parseRes l).1.1, u]] V fun e w' => e = .returned (qRes (reqL (parseRes l).1)) ∧ Below V.heap.size V w' := fun hi' u V hB hr hv => implReqOf_any hi' u (parseRes l).1 V p (fun i k hi hk => (hB.cell (p := ⟨0, i * 3 + k, none⟩) hO.lt).trans (hO i k hi hk)) (Nat.lt_of_lt_of_le hg hB.size) ((hB.cell (p := ⟨1, 0, none⟩) hg).trans hce) (by omega) hr hv (by have := hps.1; unfold maxLen; omega) hpt
  obtain ⟨NL, hNL⟩ : ∃ NL, NL = asksL l := ⟨_, rfl⟩
  rw [← hNL]
  have HN := Lib.hid (hNL.trans HA.out)
  obtain ⟨A, c, rfl, -⟩ := h.form
  clear h HA hNL hps hpt hce hO
  generalize reqL (parseRes l).1 = rq at hq HN
  generalize parseRes l = r at HP hq HN
  obtain ⟨⟨mt, mf⟩, cd⟩ := r
  obtain ⟨q, rs⟩ := rq
  simp only at hq HN
  have HQ := Lib.hid hq
  clear hq
  go_enter Tryz.func6, Tryz.ntmps6
  go_wp2_with fail
  refine HP.out.mono ?_
  rintro e w1 ⟨u, rfl, hm, hb1⟩
  obtain ⟨AU, cU, rfl, -⟩ := Rep.slice_form hm.rd
  have HM := Lib.hid hm
  have HB1 := Lib.hid hb1
  have z1 := hb1.size
  clear hm hb1 HP
  have HB2 : Hid (∀ o, Below w.heap.size w (w1.alloc o)) := Lib.hid fun o => HB1.out.alloc z1 o
  go_wp2_with fail
  have HQ2 := Lib.hid (fun o => HQ.out w1.heap.size _ (w1.alloc o) (HB2.out o) (Rep.below (R := FieldsR) HM.out.rd ((Below.refl w1.heap.size w1).alloc (Nat.le_refl _) o) (Nat.le_refl _)) (by simp))
  simp only [qRes, qV, qCells] at HQ2
  refine (HQ2.out _).mono ?_
  rintro e w3 ⟨rfl, hb3⟩
  have HB3 : Hid (Below w.heap.size w w3) := Lib.hid ((HB2.out _).trans (hb3.mono (by simp; omega)))
  have z3 := HB3.out.size
  clear hb3 HQ2 HQ
  obtain ⟨op, ac, ot, hd, tr, mi, am, tt⟩ := q
  have HB4 : Hid (∀ o, Below w.heap.size w (w3.alloc o)) := Lib.hid fun o => HB3.out.alloc z3 o
  by_cases hc : cd = 0
  · subst hc
    by_cases hrs : rs = 0
    · subst hrs
      have HI := Lib.hid (fun o => implNames_any ⟨op, ac, ot, hd, tr, mi, am, tt⟩ (w3.alloc o))
      simp only [qV, qCells] at HI
      go_wp2_with fail
      refine (HI.out _).mono ?_
      rintro e w5 ⟨v5, rfl, hm5, hb5⟩
      have z5 := hb5.size
      have HM5 := Lib.hid hm5
      have HB5 := Lib.hid hb5
      clear hm5 hb5 HI
      go_wp2
      go_ret
      simp only [World.size_alloc] at z5
      refine ⟨_, rfl, ?_, (HB4.out _).trans (HB5.out.mono (by simp; omega))⟩
      rw [HN.out, if_pos (by simp)]
      exact Rep.mine.mono (R := StrsR) HM5.out (by simp; omega) (Nat.le_refl _)
    · have g1 : (rs == 0) = false := beq_eq_false_iff_ne.2 hrs
      have HE : Hid (¬ ((0 : Int) = 0 ∧ rs = 0)) := Lib.hid fun h => hrs h.2
      go_wp2
      go_ret
      exact ⟨_, rfl, by rw [HN.out, if_neg (by simpa using HE.out)]; exact strs_nil _ _ _ _ _, HB4.out _⟩
  · have g1 : (cd == 0) = false := beq_eq_false_iff_ne.2 hc
    have HE : Hid (¬ (cd = 0 ∧ rs = 0)) := Lib.hid fun h => hc h.1
    go_wp2
    go_ret
    exact ⟨_, rfl, by rw [HN.out, if_neg (by simpa using HE.out)]; exact strs_nil _ _ _ _ _, HB4.out _⟩
end Go.Proofs.YtiolebpoofkpmaaGreatDoor
