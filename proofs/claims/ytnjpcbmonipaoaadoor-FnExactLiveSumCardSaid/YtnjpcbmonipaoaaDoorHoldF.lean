/- Live, LiveOnes, HoldDrop of the reference; no conditions. -/
import Derived.Test.YtnjpcbmonipaoaaDoorHoldA
import Derived.WalkLawsBesides
import Derived.Deep.DeepCutAuto
set_option linter.unusedVariables false
namespace Go.Proofs.YtnjpcbmonipaoaaDoor
open Go.ChangeShapes Go.WideShapes Go.ChangeAt Go.RowKit

set_option maxRecDepth 100000 in
theorem specLive_any (x : HoldD) (now : Int) (w : World) :
    Calls Tryd.prog 24 #[.agg #[.string x.1, .int .i64 x.2.1, .int .i64 x.2.2], .int .i64 now] w fun e w' => e = .returned (.bool (live now x)) ∧ Below w.heap.size w w' := by
  have HB0 : Hid (Below w.heap.size w (w.alloc (.cells #[.string x.1, .int .i64 x.2.1, .int .i64 x.2.2] 34))) := Lib.hid ((Below.refl _ _).alloc (Nat.le_refl _) _)
  go_enter Tryd.func24, Tryd.ntmps24
  go_wp2
  go_ret
  exact ⟨rfl, HB0.out⟩

set_option maxRecDepth 100000 in
set_option maxHeartbeats 1600000 in
theorem specLiveOnes_any (hi : Nat) (v : Value) (l : List HoldD) (now : Int) (w : World) (hn : l.length ≤ 1048576) (h : HoldsR.rd hi w [v] l) (hh : hi ≤ w.heap.size) :
    Calls Tryd.prog 17 #[v, .int .i64 now] w (holdsOne (liveL l now) w) := by
  obtain ⟨A, c, rfl, hc, h⟩ := holds_rd h
  have HR := Lib.hid h
  clear h
  go_enter Tryd.func17, Tryd.ntmps17
  go_upto_region 2 with fail
  obtain ⟨W2, hW2⟩ : ∃ W2, W2 = w.alloc (.cells #[] 34) := ⟨_, rfl⟩
  have HO2 : Hid (owE 34 3 hCells w.heap.size W2 (.slice (some ⟨w.heap.size, 0, none⟩) 0 0) []) := Lib.hid (by rw [hW2]; exact owE_empty _ _ _ _ _ (Nat.le_refl _))
  have HB2 : Hid (Below w.heap.size w W2) := Lib.hid (by rw [hW2]; exact (Below.refl _ _).alloc (Nat.le_refl _) _)
  have z2 : w.heap.size < W2.heap.size := by rw [hW2]; simp
  rw [← hW2]
  clear hW2
  go_wp2
  go_loopw [5, 11] (fun ov iv wr => ∃ (i : Nat) (A' : Option Addr) (c' : Nat) (s : List HoldD), i ≤ l.length ∧ iv = .int .i64 i ∧ ov = .slice A' s.length c' ∧ s.length ≤ i ∧ Hid (s = (l.take i).filter (live now)) ∧ Hid (owE 34 3 hCells w.heap.size wr (.slice A' s.length c') s) ∧ Hid (Below w.heap.size w wr) ∧ w.heap.size < wr.heap.size) (fun _ iv _ => l.length - (intOf iv).toNat)
  case atStart => exact ⟨0, _, _, [], Nat.zero_le _, rfl, rfl, Nat.zero_le _, Lib.hid rfl, HO2, HB2, z2⟩
  case round =>
    obtain ⟨i, A', c', s, hi', rfl, rfl, hsl, HI, HO, HB, hz⟩ := hrel
    by_cases hin : i < l.length
    · obtain ⟨x, hx⟩ : ∃ x, l[i]? = some x := ⟨_, List.getElem?_eq_getElem hin⟩
      obtain ⟨b, off, rfl, hbl, c0, c1, c2⟩ := HR.out i x hx
      have c0 := (HB.out.cell (p := ⟨b, off + i * 3, none⟩) (show b < w.heap.size by omega)).trans c0
      have c1 := (HB.out.cell (p := ⟨b, off + i * 3 + 1, none⟩) (show b < w.heap.size by omega)).trans c1
      have c2 := (HB.out.cell (p := ⟨b, off + i * 3 + 2, none⟩) (show b < w.heap.size by omega)).trans c2
      have g1 : (i : Int) < (l.length : Int) := by omega
      have g2 : 0 ≤ (i : Int) := by omega
      have HIN : Hid ((l.take (i + 1)).filter (live now) = s ++ (if (live now) x = true then [x] else [])) := Lib.hid (by
        obtain ⟨h1, h2⟩ := List.getElem?_eq_some_iff.1 hx
        rw [List.take_succ_eq_append_getElem h1, h2, List.filter_append, ← HI.out, List.filter_cons, List.filter_nil])
      clear hx
      go_upto_region 5 with fail
      obtain ⟨W3, hW3⟩ : ∃ W3, W3 = wr.alloc (.cells #[.string x.1, .int .i64 x.2.1, .int .i64 x.2.2] 34) := ⟨_, rfl⟩
      have HO3 : Hid (owE 34 3 hCells w.heap.size W3 (.slice A' s.length c') s) := Lib.hid (by rw [hW3]; exact HO.out.alloc _)
      have HX3 : Hid (bk W3 wr.heap.size 34 [.string x.1, .int .i64 x.2.1, .int .i64 x.2.2]) := Lib.hid (by rw [hW3]; exact bk.new wr _ _)
      have HB3 : Hid (Below w.heap.size w W3) := Lib.hid (by rw [hW3]; exact HB.out.alloc (by omega) _)
      have z3 : wr.heap.size < W3.heap.size := by rw [hW3]; simp
      rw [← hW3]
      clear hW3 HO HB c0 c1 c2
      obtain ⟨q0, q1, q2⟩ := HX3.out.cells3
      rcases (Bool.eq_false_or_eq_true (live now x)) with HLX | HLX
      · have HNX : Hid ((l.take (i + 1)).filter (live now) = s ++ [x]) := Lib.hid (by rw [HIN.out, if_pos HLX])
        have HLV := Lib.hid (fun W => specLive_any x now W)
        rw [HLX] at HLV
        go_wp2_with fail
        refine (HLV.out W3).mono ?_
        rintro e w4 ⟨rfl, hb4⟩
        have HO3 := Lib.hid (HO3.out.below hb4 (Nat.le_refl _))
        have HB3 := Lib.hid (HB3.out.trans (hb4.mono (by omega)))
        have z4 := hb4.size
        have hk4 := HX3.out.below hb4 z3
        clear hb4 q0 q1 q2
        obtain ⟨q0, q1, q2⟩ := hk4.cells3
        go_wp2_with (at_builtin; refine app_elem hCells 3 (fun _ => rfl) (by decide) hCells_one 25 34 #[.string ⟨#[]⟩, .int .i64 0, .int .i64 0] 32 Tryd.underlying25 infoHold rfl _ _ rfl (by rfl) w.heap.size _ _ s x _ _ (by rfl) (by rfl) (by rfl) (by simp) HO3.out (by unfold maxLen; omega) (by omega) (by first | omega | (simp; omega)) ?_)
        intro A9 c9 w9 hown9 hc9 hg9 hlies9
        have z9 : w.heap.size < w9.heap.size := by have := hg9.size; simp at this; omega
        have HB9 : Hid (Below w.heap.size w w9) := Lib.hid ((HB3.out.alloc (by omega) _).grown hg9 (by simp; omega) (fun g hg' => by have := HO3.out.lt g hg'; omega))
        have HO9 := Lib.hid hown9
        clear hown9 hg9 hlies9
        go_wp2
        go_roundw
        case rel => exact ⟨i + 1, A9, c9, s ++ [x], by omega, by go_num, by simp, by simp; omega, Lib.hid HNX.out.symm, Lib.hid (by simpa using HO9.out), HB9, by omega⟩
        case measure => simp [intOf] <;> omega
      · have HNX : Hid ((l.take (i + 1)).filter (live now) = s) := Lib.hid (by rw [HIN.out, if_neg (by rw [HLX]; exact Bool.false_ne_true), List.append_nil])
        have HLV := Lib.hid (fun W => specLive_any x now W)
        rw [HLX] at HLV
        go_wp2_with fail
        refine (HLV.out W3).mono ?_
        rintro e w4 ⟨rfl, hb4⟩
        have HO3 := Lib.hid (HO3.out.below hb4 (Nat.le_refl _))
        have HB3 := Lib.hid (HB3.out.trans (hb4.mono (by omega)))
        have z4 := hb4.size
        have hk4 := HX3.out.below hb4 z3
        clear hb4 q0 q1 q2
        obtain ⟨q0, q1, q2⟩ := hk4.cells3
        go_wp2
        go_roundw
        case rel => exact ⟨i + 1, A', c', s, by omega, by go_num, rfl, by omega, Lib.hid HNX.out.symm, HO3, HB3, by omega⟩
        case measure => simp [intOf] <;> omega
    · obtain rfl : i = l.length := by omega
      have HM := Lib.hid (owE_holds HO.out)
      have HV : Hid (liveL l now = s) := Lib.hid (by have := HI.out; rw [List.take_length] at this; exact this.symm)
      go_wp2
      refine bodyPost_ret (v := .slice A' s.length c') (by simp [results, Tryd.results17, go_sem]) rfl ?_
      rw [HV.out]
      exact ⟨_, rfl, HM.out, HB.out⟩

end Go.Proofs.YtnjpcbmonipaoaaDoor
