/- HoldPut of the reference; no conditions. -/
import Derived.Test.YtkbakcnhhlmpkaaDoorHoldK
import Derived.Test.YtkbakcnhhlmpkaaDoorHoldA
import Derived.Test.YtkbakcnhhlmpkaaDoorDrawR
import Derived.Test.YtkbakcnhhlmpkaaDoorRep
import Derived.Test.YtkbakcnhhlmpkaaDoorRowS
import Derived.Test.YtkbakcnhhlmpkaaDoorNums
import Derived.Test.YtkbakcnhhlmpkaaDoorField
import Derived.Test.YtkbakcnhhlmpkaaDoorNumT
import Derived.Test.YtkbakcnhhlmpkaaDoorMem
import Derived.Test.YtkbakcnhhlmpkaaDoorBase
import Derived.Test.YtkbakcnhhlmpkaaDoorRingS
import Derived.Test.YtkbakcnhhlmpkaaDoorAppAll
import Derived.WalkLawsBesides
import Derived.Deep.Cut
import Derived.Test.YtkbakcnhhlmpkaaDoorRingF
import Derived.Deep.RegionHeld3
import Derived.Deep.DeepCutAuto
import Derived.Deep.RegionLaw
import Derived.Test.YtkbakcnhhlmpkaaDoorHold
import Derived.Test.YtkbakcnhhlmpkaaDoorRingH
import Derived.Test.YtkbakcnhhlmpkaaDoorMemT
import Derived.Deep.RegionWith
import Derived.Deep.QuietTactic
import Derived.BigQuiet
import Derived.Test.YtkbakcnhhlmpkaaDoorSat
set_option linter.unusedVariables false
namespace Go.Proofs.YtkbakcnhhlmpkaaDoor
open Go.ChangeShapes Go.WideShapes Go.ChangeAt Go.RowKit

/-- holds as they are given back, with a word -/
def holdsRes (l : List HoldD) (ok : Bool) (w : World) (e : Ending) (w' : World) : Prop := ∃ u, e = .returned (.tuple #[u, .bool ok]) ∧ HoldsR.mine w.heap.size w'.heap.size w' [u] l ∧ Below w.heap.size w w'
set_option maxRecDepth 100000 in
theorem putH_no {l : List HoldD} {h : HoldD} (hk : holdsOk l = false) : putH l h = ([], false) := by unfold putH; rw [hk]; rfl
set_option maxRecDepth 100000 in
theorem putH_not {l : List HoldD} {h : HoldD} (hk : holdsOk (insL l h) = false) : putH l h = ([], false) := by unfold putH; rw [hk, Bool.and_false]; rfl
set_option maxRecDepth 100000 in
theorem putH_yes {l : List HoldD} {h : HoldD} (h1 : holdsOk l = true) (hk : holdsOk (insL l h) = true) : putH l h = (insL l h, true) := by unfold putH; rw [h1, hk]; rfl
set_option maxRecDepth 100000 in
theorem putH_len (l : List HoldD) (h : HoldD) : (putH l h).1.length ≤ 4 := by
  unfold putH
  split
  · rename_i h1
    simp only [Bool.and_eq_true] at h1
    have h2 := h1.2
    unfold holdsOk at h2
    simp only [Bool.and_eq_true, decide_eq_true_eq] at h2
    exact h2.2
  · exact Nat.zero_le _
def insTo (l : List HoldD) (h : HoldD) (i : Nat) : List HoldD × Bool := (l.take i).foldl (insOne h) ([], false)
set_option maxRecDepth 100000 in
theorem insTo_next {l : List HoldD} {h x : HoldD} {i : Nat} (hx : l[i]? = some x) : insTo l h (i + 1) = insOne h (insTo l h i) x := by
  obtain ⟨hi, rfl⟩ := List.getElem?_eq_some_iff.1 hx
  unfold insTo
  rw [List.take_succ_eq_append_getElem hi, List.foldl_append]; rfl
set_option maxRecDepth 100000 in
theorem insTo_end (l : List HoldD) (h : HoldD) : insL l h = if (insTo l h l.length).2 = true then (insTo l h l.length).1 else (insTo l h l.length).1 ++ [h] := by
  unfold insL insTo
  rw [List.take_length]

set_option maxRecDepth 100000 in
set_option maxHeartbeats 6400000 in
theorem specHoldPut_any (hi : Nat) (v : Value) (l : List HoldD) (h : HoldD) (w : World) (hn : l.length ≤ 1048576) (hs : ∀ x ∈ l, x.1.size ≤ maxLen) (hhs : h.1.size ≤ maxLen) (hr : HoldsR.rd hi w [v] l) (hh : hi ≤ w.heap.size) :
    Calls Tryd.prog 39 #[v, .agg #[.string h.1, .int .i64 h.2.1, .int .i64 h.2.2]] w (holdsRes (putH l h).1 (putH l h).2 w) := by
  have HOK := Lib.hid (fun W (hW : Below w.heap.size w W) => specHoldsOk_any hi v l W hn hs (Rep.below (R := HoldsR) hr hW hh) (Nat.le_trans hh hW.size))
  obtain ⟨A, c, rfl, hc, hr⟩ := holds_rd hr
  have HR := Lib.hid hr
  have HS := Lib.hid hs
  have HHS := Lib.hid hhs
  have HNO : Hid (holdsOk l = false → putH l h = ([], false)) := Lib.hid putH_no
  have HYES := Lib.hid (fun h1 => @putH_yes l h h1)
  have HNOT := Lib.hid (@putH_not l h)
  have HL4 : Hid (holdsOk l = true → l.length ≤ 4) := Lib.hid (fun h1 => by unfold holdsOk at h1; simp only [Bool.and_eq_true, decide_eq_true_eq] at h1; exact h1.2)
  clear hr hs
  generalize holdsOk l = ok at HOK HNO HYES HL4
  go_enter Tryd.func39, Tryd.ntmps39
  go_upto_region 1 with fail
  obtain ⟨W, hW⟩ : ∃ W, W = w.alloc (.cells #[.string h.1, .int .i64 h.2.1, .int .i64 h.2.2] 87) := ⟨_, rfl⟩
  have b0 : bk W w.heap.size 87 [.string h.1, .int .i64 h.2.1, .int .i64 h.2.2] := by rw [hW]; exact bk.new w _ _
  have HB0 : Hid (Below w.heap.size w W) := Lib.hid (by rw [hW]; exact (Below.refl _ _).alloc (Nat.le_refl _) _)
  rw [← hW]
  clear hW
  have z0 := b0.lt
  go_wp2_with fail
  refine (HOK.out W HB0.out).mono ?_
  rintro e w1 ⟨rfl, hb1⟩
  have HB1 : Hid (Below w.heap.size w w1) := Lib.hid (HB0.out.trans (hb1.mono (by omega)))
  have z1 := hb1.size
  have HK1 := Lib.hid (b0.below hb1 z0)
  clear hb1 HB0 b0
  cases ok
  · go_wp2
    refine bodyPost_ret (v := .tuple #[.slice none 0 0, .bool false]) (by simp [results, Tryd.results39, go_sem]) rfl ?_
    rw [HNO.out trivial]
    exact ⟨_, rfl, holds_none _ _ _, HB1.out⟩
  go_upto_region 4 with fail
  obtain ⟨W2, hW2⟩ : ∃ W2, W2 = w1.alloc (.cells #[] 87) := ⟨_, rfl⟩
  have HO2 : Hid (owE 87 3 hCells (w.heap.size + 1) W2 (.slice (some ⟨w1.heap.size, 0, none⟩) 0 0) []) := Lib.hid (by rw [hW2]; exact owE_empty _ _ _ _ _ (by omega))
  have HB2 : Hid (Below w.heap.size w W2) := Lib.hid (by rw [hW2]; exact HB1.out.alloc (by omega) _)
  have HK2 : Hid (bk W2 w.heap.size 87 [.string h.1, .int .i64 h.2.1, .int .i64 h.2.2]) := Lib.hid (by rw [hW2]; exact HK1.out.alloc _)
  have z2 : w1.heap.size < W2.heap.size := by rw [hW2]; simp
  rw [← hW2]
  clear hW2 HB1 HK1
  go_wp2
  go_loopw [6, 7, 16] (fun ov dv iv wr => ∃ (i : Nat) (A' : Option Addr) (c' : Nat) (s : List HoldD) (d : Bool), i ≤ l.length ∧ iv = .int .i64 i ∧ ov = .slice A' s.length c' ∧ dv = .bool d ∧ s.length ≤ 2 * i ∧ Hid (insTo l h i = (s, d)) ∧ Hid (∀ x ∈ s, x.1.size ≤ maxLen) ∧ Hid (owE 87 3 hCells (w.heap.size + 1) wr (.slice A' s.length c') s) ∧ Hid (bk wr w.heap.size 87 [.string h.1, .int .i64 h.2.1, .int .i64 h.2.2]) ∧ Hid (Below w.heap.size w wr) ∧ w.heap.size < wr.heap.size) (fun _ _ iv _ => l.length - (intOf iv).toNat)
  case atStart => exact ⟨0, _, _, [], false, Nat.zero_le _, rfl, rfl, rfl, Nat.zero_le _, Lib.hid rfl, Lib.hid (by simp), HO2, HK2, HB2, by omega⟩
  case round =>
    obtain ⟨i, A', c', s, d, hi', rfl, rfl, rfl, hsl, HI, HSS, HO, HK, HB, hz⟩ := hrel
    by_cases hin : i < l.length
    · obtain ⟨x, hx⟩ : ∃ x, l[i]? = some x := ⟨_, List.getElem?_eq_getElem hin⟩
      obtain ⟨b, off, rfl, hbl, c0, c1, c2⟩ := HR.out i x hx
      have c0 := (HB.out.cell (p := ⟨b, off + i * 3, none⟩) (show b < w.heap.size by omega)).trans c0
      have c1 := (HB.out.cell (p := ⟨b, off + i * 3 + 1, none⟩) (show b < w.heap.size by omega)).trans c1
      have c2 := (HB.out.cell (p := ⟨b, off + i * 3 + 2, none⟩) (show b < w.heap.size by omega)).trans c2
      have g1 : (i : Int) < (l.length : Int) := by omega
      have g2 : 0 ≤ (i : Int) := by omega
      have HXS := Lib.hid (HS.out x (List.mem_of_getElem? hx))
      have HIN : Hid (insTo l h (i + 1) = insOne h (s, d) x) := Lib.hid (by rw [insTo_next hx, HI.out])
      clear hx
      go_upto_region 8 with fail
      obtain ⟨W3, hW3⟩ : ∃ W3, W3 = wr.alloc (.cells #[.string x.1, .int .i64 x.2.1, .int .i64 x.2.2] 87) := ⟨_, rfl⟩
      have HO3 : Hid (owE 87 3 hCells (w.heap.size + 1) W3 (.slice A' s.length c') s) := Lib.hid (by rw [hW3]; exact HO.out.alloc _)
      have HK3 : Hid (bk W3 w.heap.size 87 [.string h.1, .int .i64 h.2.1, .int .i64 h.2.2]) := Lib.hid (by rw [hW3]; exact HK.out.alloc _)
      have HX3 : Hid (bk W3 wr.heap.size 87 [.string x.1, .int .i64 x.2.1, .int .i64 x.2.2]) := Lib.hid (by rw [hW3]; exact bk.new wr _ _)
      have HB3 : Hid (Below w.heap.size w W3) := Lib.hid (by rw [hW3]; exact HB.out.alloc (by omega) _)
      have HAP : Hid (∀ g, (Value.slice A' s.length c').ownBlock = some g → w.heap.size < g ∧ g < wr.heap.size) := Lib.hid (fun g hg => by have := HO.out.lt g hg; omega)
      have z3 : wr.heap.size < W3.heap.size := by rw [hW3]; simp
      rw [← hW3]
      clear hW3 HO HK HB c0 c1 c2
      obtain ⟨p0, p1, p2⟩ := HK3.out.cells3
      obtain ⟨q0, q1, q2⟩ := HX3.out.cells3
      have hl2 : l.length ≤ 1048576 := hn
      cases d
      · cases hbl : Op.bytesLess x.1.toList h.1.toList
        · have HSB := Lib.hid hbl
          go_wp2_with (at_builtin; refine app_elem hCells 3 (fun _ => rfl) (by decide) hCells_one 23 87 #[.string ⟨#[]⟩, .int .i64 0, .int .i64 0] 32 Tryd.underlying23 infoHold rfl _ _ rfl (by rfl) (w.heap.size + 1) W3 _ s h _ _ (by rfl) (by rfl) (by rfl) (by simp) HO3.out (by unfold maxLen; omega) (by omega) (by first | omega | (simp; omega)) ?_)
          intro A5 c5 w5 hown5 hc5 hg5 hlies5
          have z5 : W3.heap.size + 1 ≤ w5.heap.size := by have := hg5.size; simpa using this
          have HK5 : Hid (bk w5 w.heap.size 87 [.string h.1, .int .i64 h.2.1, .int .i64 h.2.2]) := Lib.hid ((HK3.out.alloc _).grown hg5 (fun e => by have := HAP.out _ e; omega))
          have HX5 : Hid (bk w5 wr.heap.size 87 [.string x.1, .int .i64 x.2.1, .int .i64 x.2.2]) := Lib.hid ((HX3.out.alloc _).grown hg5 (fun e => by have := HAP.out _ e; omega))
          have HB5 : Hid (Below w.heap.size w w5) := Lib.hid ((HB3.out.alloc (by omega) _).grown hg5 (by simp; omega) (fun g hg' => by have := HAP.out g hg'; omega))
          obtain ⟨s5, hs5⟩ : ∃ s5, s5 = s ++ [h] := ⟨_, rfl⟩
          have hl5 : s.length + 1 = s5.length := by rw [hs5]; simp
          rw [← hs5] at hown5
          have HS5 : Hid (∀ y ∈ s5, y.1.size ≤ maxLen) := Lib.hid (fun y hy => by rw [hs5] at hy; exact (List.mem_append.1 hy).elim (HSS.out y) (fun hy => by rw [List.mem_singleton.1 hy]; exact HHS.out))
          have hsl5 : s5.length ≤ 2 * i + 1 := by omega
          rw [hl5] at hown5 ⊢
          have HO5 := Lib.hid hown5
          have HQQ := Lib.hid hs5
          clear hown5 hg5 hlies5 p0 p1 p2 q0 q1 q2 hs5 hl5
          obtain ⟨p0, p1, p2⟩ := HK5.out.cells3
          obtain ⟨q0, q1, q2⟩ := HX5.out.cells3
          go_upto_region 11 with fail
          clear hbl
          by_cases he : x.1 = h.1
          · have hel : x.1.toList = h.1.toList := by rw [he]
            have HEQ : Hid (x.1 = h.1) := Lib.hid he
            clear he
            go_wp2
            go_roundw
            case rel => exact ⟨i + 1, A5, c5, s5, true, by omega, by go_num, rfl, rfl, by omega, Lib.hid (by rw [HIN.out]; rw [HQQ.out]; unfold insOne strLt; rw [HSB.out]; simp [HEQ.out]), HS5, HO5, HK5, HB5, by omega⟩
            case measure => simp [intOf] <;> omega
          · have hel : ¬ x.1.toList = h.1.toList := fun e => he (str_eq_list.1 e)
            have hel2 : (x.1.toList == h.1.toList) = false := by simpa using hel
            have HEQ : Hid (¬ x.1 = h.1) := Lib.hid he
            clear he
            go_wp2_with (at_builtin; refine app_elem hCells 3 (fun _ => rfl) (by decide) hCells_one 23 87 #[.string ⟨#[]⟩, .int .i64 0, .int .i64 0] 32 Tryd.underlying23 infoHold rfl _ _ rfl (by rfl) (w.heap.size + 1) w5 _ s5 x _ _ (by rfl) (by rfl) (by rfl) (by simp) HO5.out (by unfold maxLen; omega) (by omega) (by first | omega | (simp; omega)) ?_)
            intro A9 c9 w9 hown9 hc9 hg9 hlies9
            have z9 : w5.heap.size + 1 ≤ w9.heap.size := by have := hg9.size; simpa using this
            have HK9 : Hid (bk w9 w.heap.size 87 [.string h.1, .int .i64 h.2.1, .int .i64 h.2.2]) := Lib.hid ((HK5.out.alloc _).grown hg9 (fun e => by have := HO5.out.lt _ e; omega))
            have HB9 : Hid (Below w.heap.size w w9) := Lib.hid ((HB5.out.alloc (by omega) _).grown hg9 (by simp; omega) (fun g hg' => by have := HO5.out.lt g hg'; omega))
            have HS9 : Hid (∀ y ∈ s5 ++ [x], y.1.size ≤ maxLen) := Lib.hid (fun y hy => (List.mem_append.1 hy).elim (HS5.out y) (fun hy => by rw [List.mem_singleton.1 hy]; exact HXS.out))
            have HO9 := Lib.hid hown9
            clear hown9 hg9 hlies9
            go_wp2
            go_roundw
            case rel => exact ⟨i + 1, A9, c9, s5 ++ [x], true, by omega, by go_num, by simp, rfl, by simp; omega, Lib.hid (by rw [HIN.out]; rw [HQQ.out]; unfold insOne strLt; rw [HSB.out]; simp [HEQ.out]), HS9, Lib.hid (by simpa using HO9.out), HK9, HB9, by omega⟩
            case measure => simp [intOf] <;> omega
        · have HSB := Lib.hid hbl
          go_upto_region 11 with fail
          clear hbl
          by_cases he : x.1 = h.1
          · have hel : x.1.toList = h.1.toList := by rw [he]
            have HEQ : Hid (x.1 = h.1) := Lib.hid he
            clear he
            go_wp2
            go_roundw
            case rel => exact ⟨i + 1, A', c', s, false, by omega, by go_num, rfl, rfl, by omega, Lib.hid (by rw [HIN.out]; unfold insOne strLt; rw [HSB.out]; simp [HEQ.out]), HSS, HO3, HK3, HB3, by omega⟩
            case measure => simp [intOf] <;> omega
          · have hel : ¬ x.1.toList = h.1.toList := fun e => he (str_eq_list.1 e)
            have hel2 : (x.1.toList == h.1.toList) = false := by simpa using hel
            have HEQ : Hid (¬ x.1 = h.1) := Lib.hid he
            clear he
            go_wp2_with (at_builtin; refine app_elem hCells 3 (fun _ => rfl) (by decide) hCells_one 23 87 #[.string ⟨#[]⟩, .int .i64 0, .int .i64 0] 32 Tryd.underlying23 infoHold rfl _ _ rfl (by rfl) (w.heap.size + 1) W3 _ s x _ _ (by rfl) (by rfl) (by rfl) (by simp) HO3.out (by unfold maxLen; omega) (by omega) (by first | omega | (simp; omega)) ?_)
            intro A9 c9 w9 hown9 hc9 hg9 hlies9
            have z9 : W3.heap.size + 1 ≤ w9.heap.size := by have := hg9.size; simpa using this
            have HK9 : Hid (bk w9 w.heap.size 87 [.string h.1, .int .i64 h.2.1, .int .i64 h.2.2]) := Lib.hid ((HK3.out.alloc _).grown hg9 (fun e => by have := HO3.out.lt _ e; omega))
            have HB9 : Hid (Below w.heap.size w w9) := Lib.hid ((HB3.out.alloc (by omega) _).grown hg9 (by simp; omega) (fun g hg' => by have := HO3.out.lt g hg'; omega))
            have HS9 : Hid (∀ y ∈ s ++ [x], y.1.size ≤ maxLen) := Lib.hid (fun y hy => (List.mem_append.1 hy).elim (HSS.out y) (fun hy => by rw [List.mem_singleton.1 hy]; exact HXS.out))
            have HO9 := Lib.hid hown9
            clear hown9 hg9 hlies9
            go_wp2
            go_roundw
            case rel => exact ⟨i + 1, A9, c9, s ++ [x], false, by omega, by go_num, by simp, rfl, by simp; omega, Lib.hid (by rw [HIN.out]; unfold insOne strLt; rw [HSB.out]; simp [HEQ.out]), HS9, Lib.hid (by simpa using HO9.out), HK9, HB9, by omega⟩
            case measure => simp [intOf] <;> omega
      · go_upto_region 11 with fail
        by_cases he : x.1 = h.1
        · have hel : x.1.toList = h.1.toList := by rw [he]
          have HEQ : Hid (x.1 = h.1) := Lib.hid he
          clear he
          go_wp2
          go_roundw
          case rel => exact ⟨i + 1, A', c', s, true, by omega, by go_num, rfl, rfl, by omega, Lib.hid (by rw [HIN.out]; unfold insOne strLt; simp [HEQ.out]), HSS, HO3, HK3, HB3, by omega⟩
          case measure => simp [intOf] <;> omega
        · have hel : ¬ x.1.toList = h.1.toList := fun e => he (str_eq_list.1 e)
          have hel2 : (x.1.toList == h.1.toList) = false := by simpa using hel
          have HEQ : Hid (¬ x.1 = h.1) := Lib.hid he
          clear he
          go_wp2_with (at_builtin; refine app_elem hCells 3 (fun _ => rfl) (by decide) hCells_one 23 87 #[.string ⟨#[]⟩, .int .i64 0, .int .i64 0] 32 Tryd.underlying23 infoHold rfl _ _ rfl (by rfl) (w.heap.size + 1) W3 _ s x _ _ (by rfl) (by rfl) (by rfl) (by simp) HO3.out (by unfold maxLen; omega) (by omega) (by first | omega | (simp; omega)) ?_)
          intro A9 c9 w9 hown9 hc9 hg9 hlies9
          have z9 : W3.heap.size + 1 ≤ w9.heap.size := by have := hg9.size; simpa using this
          have HK9 : Hid (bk w9 w.heap.size 87 [.string h.1, .int .i64 h.2.1, .int .i64 h.2.2]) := Lib.hid ((HK3.out.alloc _).grown hg9 (fun e => by have := HO3.out.lt _ e; omega))
          have HB9 : Hid (Below w.heap.size w w9) := Lib.hid ((HB3.out.alloc (by omega) _).grown hg9 (by simp; omega) (fun g hg' => by have := HO3.out.lt g hg'; omega))
          have HS9 : Hid (∀ y ∈ s ++ [x], y.1.size ≤ maxLen) := Lib.hid (fun y hy => (List.mem_append.1 hy).elim (HSS.out y) (fun hy => by rw [List.mem_singleton.1 hy]; exact HXS.out))
          have HO9 := Lib.hid hown9
          clear hown9 hg9 hlies9
          go_wp2
          go_roundw
          case rel => exact ⟨i + 1, A9, c9, s ++ [x], true, by omega, by go_num, by simp, rfl, by simp; omega, Lib.hid (by rw [HIN.out]; unfold insOne strLt; simp [HEQ.out]), HS9, Lib.hid (by simpa using HO9.out), HK9, HB9, by omega⟩
          case measure => simp [intOf] <;> omega
    · obtain rfl : i = l.length := by omega
      have hl4 : l.length ≤ 4 := HL4.out trivial
      cases d
      · obtain ⟨p0, p1, p2⟩ := HK.out.cells3
        go_wp2_with (at_builtin; refine app_elem hCells 3 (fun _ => rfl) (by decide) hCells_one 23 87 #[.string ⟨#[]⟩, .int .i64 0, .int .i64 0] 32 Tryd.underlying23 infoHold rfl _ _ rfl (by rfl) (w.heap.size + 1) wr _ s h _ _ (by rfl) (by rfl) (by rfl) (by simp) HO.out (by unfold maxLen; omega) (by omega) (by first | omega | (simp; omega)) ?_)
        intro A5 c5 w5 hown5 hc5 hg5 hlies5
        have z5 : wr.heap.size + 1 ≤ w5.heap.size := by have := hg5.size; simpa using this
        have HB5 : Hid (Below w.heap.size w w5) := Lib.hid ((HB.out.alloc (by omega) _).grown hg5 (by simp; omega) (fun g hg' => by have := HO.out.lt g hg'; omega))
        obtain ⟨s5, hs5⟩ : ∃ s5, s5 = s ++ [h] := ⟨_, rfl⟩
        have hl5 : s.length + 1 = s5.length := by rw [hs5]; simp
        rw [← hs5] at hown5
        have HS5 : Hid (∀ y ∈ s5, y.1.size ≤ maxLen) := Lib.hid (fun y hy => by rw [hs5] at hy; exact (List.mem_append.1 hy).elim (HSS.out y) (fun hy => by rw [List.mem_singleton.1 hy]; exact HHS.out))
        have HIL : Hid (insL l h = s5) := Lib.hid (by rw [insTo_end, HI.out, hs5]; rfl)
        have hsl5 : s5.length ≤ 9 := by omega
        rw [hl5] at hown5 ⊢
        have HO5 := Lib.hid hown5
        clear hown5 hg5 hlies5 p0 p1 p2 hs5 hl5
        have HM := Lib.hid (owE_holds HO5.out)
        have HQ := Lib.hid (fun W' (hW' : Below w5.heap.size w5 W') => specHoldsOk_any w5.heap.size _ s5 W' (by omega) HS5.out (Rep.below (R := HoldsR) HM.out.rd hW' (Nat.le_refl _)) hW'.size)
        have HNOTS := HNOT
        rw [HIL.out] at HNOTS HYES
        generalize holdsOk s5 = ok2 at HQ HNOTS HYES
        go_wp2_with fail
        refine (HQ.out w5 (Below.refl _ _)).mono ?_
        rintro e w9 ⟨rfl, hb9⟩
        have HB9 : Hid (Below w.heap.size w w9) := Lib.hid (HB5.out.trans (hb9.mono (by omega)))
        have HM9 := Lib.hid (HM.out.below hb9 (Nat.le_refl _))
        have z9 := hb9.size
        clear hb9
        cases ok2
        · go_wp2
          refine bodyPost_ret (v := .tuple #[.slice none 0 0, .bool false]) (by simp [results, Tryd.results39, go_sem]) rfl ?_
          rw [HNOTS.out trivial]
          exact ⟨_, rfl, holds_none _ _ _, HB9.out⟩
        · go_wp2
          refine bodyPost_ret (v := .tuple #[.slice A5 s5.length c5, .bool true]) (by simp [results, Tryd.results39, go_sem]) rfl ?_
          rw [HYES.out trivial trivial]
          exact ⟨_, rfl, HM9.out.mono (by omega) (by omega), HB9.out⟩
      · have HIL : Hid (insL l h = s) := Lib.hid (by rw [insTo_end, HI.out]; rfl)
        have HM := Lib.hid (owE_holds HO.out)
        have HQ := Lib.hid (fun W' (hW' : Below wr.heap.size wr W') => specHoldsOk_any wr.heap.size _ s W' (by omega) HSS.out (Rep.below (R := HoldsR) HM.out.rd hW' (Nat.le_refl _)) hW'.size)
        have HNOTS := HNOT
        rw [HIL.out] at HNOTS HYES
        generalize holdsOk s = ok2 at HQ HNOTS HYES
        go_wp2_with fail
        refine (HQ.out wr (Below.refl _ _)).mono ?_
        rintro e w9 ⟨rfl, hb9⟩
        have HB9 : Hid (Below w.heap.size w w9) := Lib.hid (HB.out.trans (hb9.mono (by omega)))
        have HM9 := Lib.hid (HM.out.below hb9 (Nat.le_refl _))
        have z9 := hb9.size
        clear hb9
        cases ok2
        · go_wp2
          refine bodyPost_ret (v := .tuple #[.slice none 0 0, .bool false]) (by simp [results, Tryd.results39, go_sem]) rfl ?_
          rw [HNOTS.out trivial]
          exact ⟨_, rfl, holds_none _ _ _, HB9.out⟩
        · go_wp2
          refine bodyPost_ret (v := .tuple #[.slice A' s.length c', .bool true]) (by simp [results, Tryd.results39, go_sem]) rfl ?_
          rw [HYES.out trivial trivial]
          exact ⟨_, rfl, HM9.out.mono (by omega) (by omega), HB9.out⟩
end Go.Proofs.YtkbakcnhhlmpkaaDoor
/- What the reference draws for holds: right ones, in memory of their own; no conditions. -/
set_option linter.unusedVariables false
namespace Go.Proofs.YtkbakcnhhlmpkaaDoor
open Go.ChangeShapes Go.WideShapes Go.ChangeAt Go.RowKit

set_option maxRecDepth 100000 in
theorem curOn.rest {b : Nat} {sv : Value} {w u v : World} {lo hi : Nat} (h : curOn b sv w u) (hb : b < w.heap.size) (ht : Turned lo hi u v) (hlo : w.heap.size ≤ lo) : curOn b sv w v := by
  obtain ⟨i, x, h1, h2, h3⟩ := h
  exact ⟨i, x, h1, (ht.block b (Nat.lt_of_lt_of_le hb h3.size) (.inl (by omega))).trans h2, turned_then h3 ht hlo⟩
set_option maxRecDepth 100000 in
theorem curOn.then {b : Nat} {sv : Value} {w u v : World} (h : curOn b sv w u) (g : curOn b sv u v) : curOn b sv w v := by
  obtain ⟨i, x, h1, h2, h3⟩ := h
  obtain ⟨j, y, g1, g2, g3⟩ := g
  exact ⟨j, y, g1, g2, grown_trans h3 g3⟩
set_option maxRecDepth 100000 in
theorem curOn.below {b B : Nat} {sv : Value} {w u v : World} (h : curOn b sv w u) (hb : b < w.heap.size) (hB : Below B u v) (hw : w.heap.size ≤ B) : curOn b sv w v := by
  obtain ⟨i, x, h1, h2, h3⟩ := h
  exact ⟨i, x, h1, (hB.block b (by omega)).trans h2, grown_then h3 hB hw⟩
set_option maxRecDepth 100000 in
theorem curOn.only {b : Nat} {sv : Value} {w u v : World} {i : Nat} {x : Int} (h : curOn b sv w u) (h1 : i ≤ lenOf sv) (h2 : curAt v b sv i x) (h3 : onlyAt b u v) : curOn b sv w v := by
  obtain ⟨j, y, g1, g2, g3⟩ := h
  exact ⟨i, x, h1, h2, grown_trans g3 h3.grown⟩
set_option maxRecDepth 100000 in
theorem curOn.start {b : Nat} {sv : Value} {w : World} {i : Nat} {x : Int} (hc : curAt w b sv i x) (hi : i ≤ lenOf sv) : curOn b sv w w := ⟨i, x, hi, hc, grown_refl _ _⟩
set_option maxRecDepth 100000 in
theorem curOn.alloc {b : Nat} {sv : Value} {w u : World} (h : curOn b sv w u) (o : Obj) : curOn b sv w (u.alloc o) := by
  obtain ⟨i, x, h1, h2, h3⟩ := h
  exact ⟨i, x, h1, cur_alloc h2 _, grown_alloc h3 _⟩
set_option maxRecDepth 100000 in
theorem curOn.size {b : Nat} {sv : Value} {w u : World} (h : curOn b sv w u) : w.heap.size ≤ u.heap.size := by
  obtain ⟨i, x, h1, h2, h3⟩ := h
  exact h3.size
set_option maxRecDepth 100000 in
theorem curOn.grown {b : Nat} {sv : Value} {w u : World} (h : curOn b sv w u) : w.grownBy u (some b) := by
  obtain ⟨i, x, h1, h2, h3⟩ := h
  exact h3
set_option maxRecDepth 100000 in
theorem holdsOk_small {l : List HoldD} (h : holdsOk l = true) : l.length ≤ 4 ∧ ∀ x ∈ l, x.1.size ≤ 6 := by
  unfold holdsOk at h
  simp only [Bool.and_eq_true, decide_eq_true_eq, List.all_eq_true, List.mem_range] at h
  refine ⟨h.2, fun x hx => ?_⟩
  obtain ⟨i, hi, rfl⟩ := List.mem_iff_getElem.1 hx
  have h1 := h.1 i hi
  unfold holdAtOk holdOk idOk inB at h1
  have e : l.getD i noH = l[i] := by rw [List.getD_eq_getElem?_getD, List.getElem?_eq_getElem hi]; rfl
  rw [e] at h1
  simp only [Bool.and_eq_true, decide_eq_true_eq] at h1
  have := h1.1.1.2.2
  omega
set_option maxRecDepth 100000 in
theorem putH_ok {l : List HoldD} {h : HoldD} (hk : (putH l h).2 = true) : holdsOk (putH l h).1 = true := by
  unfold putH at hk ⊢
  split
  · rename_i h1
    simp only [Bool.and_eq_true] at h1
    exact h1.2
  · rename_i h1
    rw [if_neg h1] at hk
    exact absurd hk (by simp)
def idTexts : List (List UInt8) := [[97], [98], [99], [104, 49], [122, 57]]
set_option maxRecDepth 100000 in
theorem id_small {x : List UInt8} (h : x ∈ idTexts) : x.length ≤ 2 := by
  simp only [idTexts, List.mem_cons, List.not_mem_nil, or_false] at h
  rcases h with rfl | rfl | rfl | rfl | rfl <;> decide
def idDrawn (b : Nat) (sv : Value) (w : World) (e : Ending) (w' : World) : Prop := ∃ x : ByteArray, e = .returned (.string x) ∧ x.size ≤ 2 ∧ curOn b sv w w'
set_option maxRecDepth 100000 in
theorem idDraw_any (b : Nat) (sv : Value) (i0 : Nat) (h0 : Int) (w : World) (hc : curAt w b sv i0 h0) (hi : i0 ≤ lenOf sv) (hr : readable w b sv) :
    Calls Tryd.prog 58 #[.pointer (some ⟨b, 0, none⟩)] w (idDrawn b sv w) := by
  have hblt := lt_of_cur hc
  have HC := Lib.hid hc
  have HR := Lib.hid hr
  clear hc hr
  go_enter Tryd.func58, Tryd.ntmps58
  go_wp2_with fail
  refine (pickStr_any b sv i0 h0 w.heap.size 5 idTexts _ (cur_alloc HC.out _) hi (HR.out.alloc _) (by omega) (texts_at w _ idTexts _ _ (by rfl) rfl) rfl (by omega) (by omega)).mono ?_
  rintro e w1 ⟨x, i1, h1, hx, rfl, hi1, hc1, ho1⟩
  have HO : Hid (curOn b sv w w1) := Lib.hid ⟨i1, h1, hi1, hc1, grown_trans (grown_alloc (grown_refl _ _) _) ho1.grown⟩
  have hxs := id_small hx
  clear hc1 ho1 hx
  go_wp2
  go_ret
  exact ⟨_, rfl, hxs, HO.out⟩
def holdDrawn (b : Nat) (sv : Value) (w : World) (e : Ending) (w' : World) : Prop := ∃ x : HoldD, e = .returned (.agg #[.string x.1, .int .i64 x.2.1, .int .i64 x.2.2]) ∧ x.1.size ≤ 2 ∧ curOn b sv w w'
set_option maxRecDepth 100000 in
set_option maxHeartbeats 1600000 in
theorem holdDraw_any (b : Nat) (sv : Value) (i0 : Nat) (h0 : Int) (w : World) (hc : curAt w b sv i0 h0) (hi : i0 ≤ lenOf sv) (hr : readable w b sv) :
    Calls Tryd.prog 40 #[.pointer (some ⟨b, 0, none⟩)] w (holdDrawn b sv w) := by
  have hblt := lt_of_cur hc
  have HR : Hid (∀ w' : World, w.grownBy w' (some b) → readable w' b sv) := Lib.hid fun w' hg => hr.grownAt hg (by omega)
  go_enter Tryd.func40, Tryd.ntmps40
  go_upto_region 1 with fail
  obtain ⟨W, hW⟩ : ∃ W, W = w.alloc (.cells #[.string ⟨#[]⟩, .int .i64 0, .int .i64 0] 87) := ⟨_, rfl⟩
  have B0 : Hid (bk W w.heap.size 87 [.string ⟨#[]⟩, .int .i64 0, .int .i64 0]) := Lib.hid (by rw [hW]; exact bk.new w _ _)
  have HO0 : Hid (curOn b sv w W) := Lib.hid (by rw [hW]; exact (curOn.start hc hi).alloc _)
  have HC0 : Hid (curAt W b sv i0 h0) := Lib.hid (by rw [hW]; exact cur_alloc hc _)
  have z0 : w.heap.size + 1 = W.heap.size := by rw [hW]; simp
  rw [← hW]
  clear hW hc hr
  go_wp2_with fail
  refine (idDraw_any b sv i0 h0 W HC0.out hi (HR.out _ HO0.out.grown)).mono ?_
  rintro e w1 ⟨x, rfl, hxs, ho1⟩
  have HO1 := Lib.hid (HO0.out.then ho1)
  have B1 : Hid (bk w1 w.heap.size 87 [.string ⟨#[]⟩, .int .i64 0, .int .i64 0]) := Lib.hid ((ho1.grown.block w.heap.size (by omega) (fun e => by simp at e; omega)).trans B0.out)
  have z1 := ho1.size
  clear ho1 HO0 HC0 B0
  obtain ⟨i1, h1, hi1, hc1, hg1⟩ := HO1.out
  have HC1 := Lib.hid hc1
  clear hc1 hg1
  go_wp2_with fail
  refine (below_any b sv i1 h1 60 w1 HC1.out hi1 (HR.out _ HO1.out.grown) (by decide) (by decide)).mono ?_
  rintro e w2 ⟨y, i2, h2, rfl, hy0, hy1, hi2, hc2, ho2⟩
  have HO2 := Lib.hid (HO1.out.only hi2 hc2 ho2)
  have HC2 := Lib.hid hc2
  have B2 : Hid (bk w2 w.heap.size 87 [.string ⟨#[]⟩, .int .i64 0, .int .i64 0]) := Lib.hid ((ho2.block w.heap.size (by omega)).trans B1.out)
  have z2 : w1.heap.size = w2.heap.size := ho2.size.symm
  clear hc2 ho2 HO1 HC1 B1
  go_wp2_with fail
  refine (below_any b sv i2 h2 30 w2 HC2.out hi2 (HR.out _ HO2.out.grown) (by decide) (by decide)).mono ?_
  rintro e w3 ⟨u, i3, h3, rfl, hu0, hu1, hi3, hc3, ho3⟩
  have HO3 := Lib.hid (HO2.out.only hi3 hc3 ho3)
  have B3 : Hid (bk w3 w.heap.size 87 [.string ⟨#[]⟩, .int .i64 0, .int .i64 0]) := Lib.hid ((ho3.block w.heap.size (by omega)).trans B2.out)
  have z3 : w2.heap.size = w3.heap.size := ho3.size.symm
  clear hc3 ho3 HO2 HC2 B2
  go_upto_region 2 with fail
  obtain ⟨W4, hW4⟩ : ∃ W4, W4 = w3.alloc (.cells #[.string x, .int .i64 (1 + y), .int .i64 u] 87) := ⟨_, rfl⟩
  have K4 : bk W4 w3.heap.size 87 [.string x, .int .i64 (1 + y), .int .i64 u] := by rw [hW4]; exact bk.new w3 _ _
  have B4 : bk W4 w.heap.size 87 [.string ⟨#[]⟩, .int .i64 0, .int .i64 0] := by rw [hW4]; exact B3.out.alloc _
  have HO4 : Hid (curOn b sv w W4) := Lib.hid (by rw [hW4]; exact HO3.out.alloc _)
  have z4 : w3.heap.size + 1 = W4.heap.size := by rw [hW4]; simp
  rw [← hW4]
  clear hW4 B3 HO3
  obtain ⟨p0, p1, p2⟩ := K4.cells3
  obtain ⟨q0, q1, q2⟩ := B4.cells3
  have f0 := B4.frozen 0
  have f1 := B4.frozen 1
  have f2 := B4.frozen 2
  clear K4 B4
  go_wp2
  refine bodyPost_ret (v := .agg #[.string x, .int .i64 (1 + y), .int .i64 u]) (by simp [results, Tryd.results40, go_sem, q0, q1, q2]) rfl ?_
  have ht := (((Turned.refl w.heap.size (w.heap.size + 1) W4).set (b := w.heap.size) 0 (.string x) (by omega) (by omega)).set (b := w.heap.size) 1 (.int .i64 (1 + y)) (by omega) (by omega)).set (b := w.heap.size) 2 (.int .i64 u) (by omega) (by omega)
  exact ⟨(x, 1 + y, u), rfl, hxs, HO4.out.rest hblt ht (Nat.le_refl _)⟩
def holdsDrawn (b : Nat) (sv : Value) (w : World) (e : Ending) (w' : World) : Prop := ∃ (l : List HoldD) (A : Option Addr) (c : Nat), e = .returned (.slice A l.length c) ∧ holdsOk l = true ∧ HoldsR.mine w.heap.size w'.heap.size w' [.slice A l.length c] l ∧ curOn b sv w w'
set_option maxRecDepth 100000 in
set_option maxHeartbeats 1600000 in
theorem holdsDraw_any (b : Nat) (sv : Value) (i0 : Nat) (h0 : Int) (w : World) (hc : curAt w b sv i0 h0) (hi : i0 ≤ lenOf sv) (hr : readable w b sv) :
    Calls Tryd.prog 23 #[.pointer (some ⟨b, 0, none⟩)] w (holdsDrawn b sv w) := by
  have hblt := lt_of_cur hc
  have HR : Hid (∀ w' : World, w.grownBy w' (some b) → readable w' b sv) := Lib.hid fun w' hg => hr.grownAt hg (by omega)
  go_enter Tryd.func23, Tryd.ntmps23
  go_upto_region 2 with fail
  obtain ⟨W, hW⟩ : ∃ W, W = w.alloc (.cells #[] 87) := ⟨_, rfl⟩
  have HO0 : Hid (curOn b sv w W) := Lib.hid (by rw [hW]; exact (curOn.start hc hi).alloc _)
  have HC0 : Hid (curAt W b sv i0 h0) := Lib.hid (by rw [hW]; exact cur_alloc hc _)
  have z0 : w.heap.size + 1 = W.heap.size := by rw [hW]; simp
  rw [← hW]
  clear hW hc hr
  go_wp2_with fail
  refine (below_any b sv i0 h0 4 W HC0.out hi (HR.out _ HO0.out.grown) (by decide) (by decide)).mono ?_
  rintro e w1 ⟨k1, i1, h1, rfl, hk0, hk1, hi1, hc1, ho1⟩
  have HO1 := Lib.hid (HO0.out.only hi1 hc1 ho1)
  have z1 : W.heap.size = w1.heap.size := ho1.size.symm
  clear hc1 ho1 HO0 HC0
  go_wp2
  go_loopw [3, 4] (fun lv kv wr => ∃ (l : List HoldD) (A : Option Addr) (c : Nat) (k : Int), lv = .slice A l.length c ∧ kv = .int .i64 k ∧ 0 ≤ k ∧ k ≤ 3 ∧ Hid (holdsOk l = true) ∧ Hid (HoldsR.mine w.heap.size wr.heap.size wr [.slice A l.length c] l) ∧ Hid (curOn b sv w wr)) (fun _ kv _ => (intOf kv).toNat)
  case atStart => exact ⟨[], some ⟨w.heap.size, 0, none⟩, 0, k1, rfl, rfl, hk0, by omega, Lib.hid (by decide), Lib.hid ⟨[], ⟨_, 0, rfl, Nat.le_refl _, .inl ⟨rfl, rfl⟩⟩, List.nodup_nil, by simp⟩, HO1⟩
  case round =>
    obtain ⟨l, A, c, k, rfl, rfl, k0, k3, HK, HM, HO⟩ := hrel
    by_cases hpos : 0 < k
    · obtain ⟨i2, h2, hi2, hc2, hg2⟩ := HO.out
      have HC2 := Lib.hid hc2
      clear hc2 hg2
      go_wp2_with fail
      refine (holdDraw_any b sv i2 h2 wr HC2.out hi2 (HR.out _ HO.out.grown)).mono ?_
      rintro e w3 ⟨x, rfl, hxs, ho3⟩
      have HO3 := Lib.hid (HO.out.then ho3)
      have z3 := ho3.size
      have HM3 := Lib.hid (HM.out.turned (turned_of_grown ho3.grown) (.inr (by omega)) (Nat.le_refl _))
      obtain ⟨hl4, hls⟩ := holdsOk_small HK.out
      have HP := Lib.hid (specHoldPut_any wr.heap.size _ l x w3 (by omega) (fun y hy => by have := hls y hy; unfold maxLen; omega) (by unfold maxLen; omega) HM3.out.rd z3)
      have HPK := Lib.hid (@putH_ok l x)
      clear ho3 HC2 hls HM HO
      obtain ⟨q, hq⟩ : ∃ q, q = putH l x := ⟨_, rfl⟩
      rw [← hq] at HP HPK
      obtain ⟨l2, ok⟩ := q
      clear hq
      simp only at HP HPK
      go_wp2_with fail
      refine HP.out.mono ?_
      rintro e w4 ⟨u, rfl, hm4, hb4⟩
      obtain ⟨A4, c4, rfl, -⟩ := Rep.slice_form hm4.rd
      have HO4 := Lib.hid (HO3.out.below hblt hb4 HO3.out.size)
      have z4 := hb4.size
      have z5 := HO3.out.size
      have HM4 := Lib.hid hm4
      have HM5 := Lib.hid (HM3.out.below hb4 z3)
      clear hm4 hb4 HP HO3 HM3
      cases ok
      · go_wp2
        go_roundw
        case rel => exact ⟨l, A, c, k - 1, rfl, rfl, by omega, by omega, HK, Lib.hid (HM5.out.mono (Nat.le_refl _) (by omega)), HO4⟩
        case measure => simp [intOf] <;> omega
      · have HK4 := Lib.hid (HPK.out (by trivial))
        go_wp2
        go_roundw
        case rel => exact ⟨l2, A4, c4, k - 1, rfl, rfl, by omega, by omega, HK4, Lib.hid (HM4.out.mono z5 (Nat.le_refl _)), HO4⟩
        case measure => simp [intOf] <;> omega
    · go_wp2
      go_ret
      exact ⟨l, A, c, rfl, HK.out, HM.out, HO.out⟩
end Go.Proofs.YtkbakcnhhlmpkaaDoor
/- A row of elements each of which owns memory of its own, made one after the other; no conditions. -/
set_option linter.unusedVariables false
namespace Go.Proofs.YtkbakcnhhlmpkaaDoor
open Go.ChangeShapes Go.WideShapes Go.ChangeAt Go.RowKit

/-- the blocks of the elements lie one after the other -/
structure Steps (m : Nat → Nat) (n : Nat) : Prop where
  up : ∀ j, j < n → m j ≤ m (j + 1)
set_option maxRecDepth 100000 in
theorem Steps.le {m : Nat → Nat} {n : Nat} (h : Steps m n) {j : Nat} : ∀ {k : Nat}, j ≤ k → k ≤ n → m j ≤ m k
  | 0, hj, _ => by obtain rfl : j = 0 := by omega
                   exact Nat.le_refl _
  | k + 1, hj, hk => by
    rcases Nat.lt_or_ge j (k + 1) with h1 | h1
    · exact Nat.le_trans (h.le (j := j) (k := k) (by omega) (by omega)) (h.up k (by omega))
    · obtain rfl : j = k + 1 := by omega
      exact Nat.le_refl _
set_option maxRecDepth 100000 in
theorem filled.congr {w : World} {b off k n i : Nat} {E E' : Nat → List Value} (h : filled w b off k n i E) (he : ∀ j, j < i → E' j = E j) : filled w b off k n i E' :=
  ⟨h.room, fun j hj => by rw [he j hj]; exact h.at_ j hj⟩
set_option maxRecDepth 100000 in
theorem rows_mine2 {α : Type} {R : Rep α} {lo hi b off c n : Nat} {w : World} {l : List α} {E : Nat → List Value} {p q : Nat → Nat} (hn : n = l.length) (hc : n ≤ c) (h1 : lo ≤ b) (h2 : b < hi) (hord : ∀ i j, i < j → j < n → q i ≤ p j) (hb : ∀ j, j < n → b < p j ∨ q j ≤ b) (hbs : ∀ j, j < n → lo ≤ p j ∧ q j ≤ hi)
    (hat : filled w b off R.k n n E) (h : ∀ j x, l[j]? = some x → R.mine (p j) (q j) w (E j) x) : R.slice.mine lo hi w [.slice (some ⟨b, off, none⟩) n c] l := by
  subst hn
  have hF : ∀ j : Nat, ∃ F : List Nat, ∀ x, l[j]? = some x → R.own w (E j) x F ∧ F.Nodup ∧ ∀ b ∈ F, p j ≤ b ∧ b < q j := fun j => by
    cases hx : l[j]? with
    | none => exact ⟨[], fun x h => by cases h⟩
    | some y =>
      obtain ⟨F, hF⟩ := h j y hx
      exact ⟨F, fun x h => by cases h; exact hF⟩
  let F : Nat → List Nat := fun j => Classical.choose (hF j)
  have hFs : ∀ j x, l[j]? = some x → R.own w (E j) x (F j) ∧ (F j).Nodup ∧ ∀ b ∈ F j, p j ≤ b ∧ b < q j := fun j => Classical.choose_spec (hF j)
  have hgt : ∀ (j : Nat) (hj : j < l.length), R.own w (E j) (l[j]'hj) (F j) ∧ (F j).Nodup ∧ ∀ b ∈ F j, p j ≤ b ∧ b < q j := fun j hj => hFs j _ (List.getElem?_eq_getElem hj)
  have hin : ∀ x ∈ List.flatten ((List.range l.length).map F), ∃ j, j < l.length ∧ p j ≤ x ∧ x < q j := fun x hx => by
    obtain ⟨G, hG, hxG⟩ := List.mem_flatten.1 hx
    obtain ⟨j, hj, rfl⟩ := List.mem_map.1 hG
    have hj' := List.mem_range.1 hj
    exact ⟨j, hj', (hgt j hj').2.2 x hxG⟩
  refine ⟨b :: List.flatten ((List.range l.length).map F), ⟨some ⟨b, off, none⟩, c, rfl, hc, .inr ⟨b, off, _, rfl, rfl, by simp, fun j x G hx hG => ?_⟩⟩, ?_, ?_⟩
  · have hj := (List.getElem?_eq_some_iff.1 hx).1
    have hG' : G = F j := by
      rw [List.getElem?_map, List.getElem?_range hj] at hG
      exact (Option.some.inj hG).symm
    subst hG'
    exact ⟨E j, (hFs j x hx).1, hat.at_ j hj, fun t ht => (hat.cells hj t ht).2⟩
  · rw [List.nodup_cons]
    refine ⟨fun hx => by obtain ⟨j, hj, h3⟩ := hin b hx; have := hb j hj; omega, ?_⟩
    rw [List.Nodup, List.pairwise_flatten]
    refine ⟨fun G hG => ?_, ?_⟩
    · obtain ⟨j, hj, rfl⟩ := List.mem_map.1 hG
      exact (hgt j (List.mem_range.1 hj)).2.1
    · rw [List.pairwise_map]
      refine List.Pairwise.imp_of_mem ?_ List.pairwise_lt_range
      intro i j hi' hj' hij x hx y hy
      have h3 := (hgt i (List.mem_range.1 hi')).2.2 x hx
      have h4 := (hgt j (List.mem_range.1 hj')).2.2 y hy
      have h5 := hord i j hij (List.mem_range.1 hj')
      omega
  · intro b' hb'
    rcases List.mem_cons.1 hb' with rfl | hb'
    · exact ⟨h1, h2⟩
    · obtain ⟨j, hj, h3⟩ := hin b' hb'
      have := hbs j hj; omega
set_option maxRecDepth 100000 in
theorem rows_mine {α : Type} {R : Rep α} {lo hi b off c n : Nat} {w : World} {l : List α} {E : Nat → List Value} {m : Nat → Nat} (hn : n = l.length) (hc : n ≤ c) (h1 : lo ≤ b) (h2 : b < m 0) (hm : Steps m n) (hhi : m n ≤ hi)
    (hat : filled w b off R.k n n E) (h : ∀ j x, l[j]? = some x → R.mine (m j) (m (j + 1)) w (E j) x) : R.slice.mine lo hi w [.slice (some ⟨b, off, none⟩) n c] l := by
  refine rows_mine2 (p := m) (q := fun j => m (j + 1)) hn hc h1 ?_ (fun i j hij hj => hm.le (show i + 1 ≤ j by omega) (by omega)) (fun j hj => .inl ?_) (fun j hj => ⟨?_, ?_⟩) hat h
  · have := hm.le (Nat.zero_le n) (Nat.le_refl _); omega
  · have := hm.le (Nat.zero_le j) (by omega); omega
  · have := hm.le (Nat.zero_le j) (by omega); omega
  · have := hm.le (show j + 1 ≤ n by omega) (Nat.le_refl _); omega
end Go.Proofs.YtkbakcnhhlmpkaaDoor
/- What the law package's helpers do with slices of bytes; no conditions. -/
set_option linter.unusedVariables false
namespace Go.Proofs.YtkbakcnhhlmpkaaDoor
open Go.ChangeShapes Go.WideShapes Go.ChangeAt Go.RowKit

set_option maxRecDepth 100000 in
theorem infoU8 : (Tryd.prog.info? 5).map (fun i => (i.zero, i.size, i.bytes)) = some (some (.int .u8 0), 1, 1) := by kernel_rfl
end Go.Proofs.YtkbakcnhhlmpkaaDoor
/- Slots: their layout, and what the law package's helpers do with them; no conditions. -/
set_option linter.unusedVariables false
namespace Go.Proofs.YtkbakcnhhlmpkaaDoor
open Go.ChangeShapes Go.WideShapes Go.ChangeAt Go.RowKit

/-- trace, type, reply -/
abbrev SlotD := ByteArray × ByteArray × List Int
def BytesR : Rep (List Int) := (Rep.int .u8).slice
def SlotR : Rep SlotD := Rep.pair Rep.str (Rep.pair Rep.str BytesR)
def SlotsR : Rep (List SlotD) := SlotR.slice
set_option maxRecDepth 100000 in
/-- numbers of one's own as such a row -/
theorem nums_rep {K : IntKind} {lo hi : Nat} {w : World} {v : Value} {l : List Int} (h : nums K lo hi w v l) : (Rep.int K).slice.mine lo hi w [v] l := by
  obtain ⟨A, c, rfl, hc, hj⟩ := h
  cases l with
  | nil => exact ⟨[], ⟨A, c, rfl, hc, .inl ⟨rfl, rfl⟩⟩, List.nodup_nil, by simp⟩
  | cons y l =>
    obtain ⟨b, off, rfl, h1, h2, -, -⟩ := hj 0 (by simp)
    have hfl : List.flatten ((y :: l).map fun _ => ([] : List Nat)) = [] := by simp
    refine ⟨b :: List.flatten ((y :: l).map fun _ => []), ⟨_, c, rfl, hc, .inr ⟨b, off, _, rfl, rfl, by simp, fun j x G hx hG => ?_⟩⟩, by rw [hfl]; simp, ?_⟩
    · have hjl := (List.getElem?_eq_some_iff.1 hx).1
      have hG' : G = [] := by rw [List.getElem?_map, hx] at hG; simpa using hG.symm
      subst hG'
      obtain ⟨b', off', e, -, -, h3, h4⟩ := hj j hjl
      simp only [Option.some.injEq, Addr.mk.injEq, and_true] at e
      obtain ⟨rfl, rfl⟩ := e
      rw [List.getD_eq_getElem?_getD, hx] at h3
      have hk : off + j * (Rep.int K).k = off + j := by show off + j * 1 = _; rw [Nat.mul_one]
      refine ⟨[.int K x], ⟨rfl, rfl⟩, atL_one.2 (by rw [hk]; exact h3), fun t ht => ?_⟩
      have ht0 : t = 0 := by have : t < 1 := ht; omega
      subst ht0
      rw [hk]; exact h4
    · rw [hfl]; intro b' hb'; rw [List.mem_singleton.1 hb']; exact ⟨h1, h2⟩
set_option maxRecDepth 100000 in
theorem rep_nums {K : IntKind} {lo hi : Nat} {w : World} {cs : List Value} {l : List Int} (h : (Rep.int K).slice.mine lo hi w cs l) : ∃ v, cs = [v] ∧ nums K lo hi w v l := by
  obtain ⟨F, ⟨A, c, rfl, hc, h⟩, -, hF⟩ := h
  refine ⟨_, rfl, ⟨A, c, rfl, hc, fun j hl => ?_⟩⟩
  rcases h with ⟨rfl, _⟩ | ⟨b, off, Fs, rfl, rfl, hFl, h⟩
  · simp at hl
  · obtain ⟨xs, hx, h2, h3⟩ := h j _ _ (List.getElem?_eq_getElem hl) (List.getElem?_eq_getElem (by omega : j < Fs.length))
    have hx' : xs = [.int K l[j]] := hx.1
    subst hx'
    have hk : off + j * (Rep.int K).k = off + j := by show off + j * 1 = _; rw [Nat.mul_one]
    have hb := hF b (List.mem_cons_self ..)
    have h4 := h3 0 (by show 0 < 1; decide)
    have h5 := atL_one.1 h2
    rw [hk] at h4 h5
    refine ⟨b, off, rfl, hb.1, hb.2, ?_, h4⟩
    rw [h5, List.getD_eq_getElem?_getD, List.getElem?_eq_getElem hl]
    rfl
set_option maxRecDepth 100000 in
theorem slot_rd {hi : Nat} {w : World} {cs : List Value} {x : SlotD} (h : SlotR.rd hi w cs x) : ∃ u, cs = [.string x.1, .string x.2.1, u] ∧ rd .u8 hi w u x.2.2 := by
  obtain ⟨a, b, rfl, h1, c, d, rfl, h2, h3⟩ := h
  have h1' : a = [.string x.1] := h1
  have h2' : c = [.string x.2.1] := h2
  subst h1' h2'
  obtain ⟨u, rfl, hu⟩ := Rep.to_rd h3
  exact ⟨u, rfl, hu⟩
set_option maxRecDepth 100000 in
theorem slot_rd_of {hi : Nat} {w : World} {u : Value} {x : SlotD} (h : rd .u8 hi w u x.2.2) : SlotR.rd hi w [.string x.1, .string x.2.1, u] x :=
  ⟨[_], [_, u], rfl, rfl, [_], [u], rfl, rfl, Rep.of_rd h⟩
set_option maxRecDepth 100000 in
theorem slot_mine_of {lo hi : Nat} {w : World} {u : Value} {x : SlotD} (h : nums .u8 lo hi w u x.2.2) : SlotR.mine lo hi w [.string x.1, .string x.2.1, u] x := by
  obtain ⟨F, h1, h2, h3⟩ := nums_rep h
  exact ⟨F, ⟨[_], [_, u], [], F, rfl, rfl, ⟨rfl, rfl⟩, [_], [u], [], F, rfl, rfl, ⟨rfl, rfl⟩, h1⟩, h2, h3⟩
set_option maxRecDepth 100000 in
theorem slot_mine {lo hi : Nat} {w : World} {cs : List Value} {x : SlotD} (h : SlotR.mine lo hi w cs x) : ∃ u, cs = [.string x.1, .string x.2.1, u] ∧ nums .u8 lo hi w u x.2.2 := by
  obtain ⟨F, ⟨a, b, G, H, rfl, rfl, ⟨h1, rfl⟩, c, d, I, J, rfl, rfl, ⟨h2, rfl⟩, h3⟩, hn, hb⟩ := h
  have h1' : a = [.string x.1] := h1
  have h2' : c = [.string x.2.1] := h2
  subst h1' h2'
  simp only [List.nil_append] at hn hb
  obtain ⟨u, rfl, hu⟩ := rep_nums ⟨J, h3, hn, hb⟩
  exact ⟨u, rfl, hu⟩
set_option maxRecDepth 100000 in
/-- a slice of slots: its value and its cells -/
theorem slots_rd {hi : Nat} {w : World} {v : Value} {l : List SlotD} (h : SlotsR.rd hi w [v] l) :
    ∃ A c, v = .slice A l.length c ∧ l.length ≤ c ∧ ∀ j x, l[j]? = some x → ∃ b off A' c', A = some ⟨b, off, none⟩ ∧ b < hi ∧ w.cell? ⟨b, off + j * 3, none⟩ = some (.string x.1) ∧ w.cell? ⟨b, off + j * 3 + 1, none⟩ = some (.string x.2.1) ∧ w.cell? ⟨b, off + j * 3 + 2, none⟩ = some (.slice A' x.2.2.length c') ∧ rd .u8 hi w (.slice A' x.2.2.length c') x.2.2 := by
  obtain ⟨A, c, hv, hc, hj⟩ := h
  simp only [List.cons.injEq, and_true] at hv
  refine ⟨A, c, hv, hc, fun j x hx => ?_⟩
  obtain ⟨b, off, xs, hA, hb, hr, ha⟩ := hj j x hx
  obtain ⟨u, rfl, hu⟩ := slot_rd hr
  obtain ⟨A', c', rfl, -⟩ := hu.form
  exact ⟨b, off, A', c', hA, hb, ha 0 _ rfl, ha 1 _ rfl, ha 2 _ rfl, hu⟩
def slotOne (x : SlotD) (w : World) (e : Ending) (w' : World) : Prop := ∃ u, e = .returned (.agg #[.string x.1, .string x.2.1, u]) ∧ nums .u8 w.heap.size w'.heap.size w' u x.2.2 ∧ Below w.heap.size w w'
end Go.Proofs.YtkbakcnhhlmpkaaDoor
/- Slices of slots: the law package's copy, comparison and size; no conditions. -/
set_option linter.unusedVariables false
namespace Go.Proofs.YtkbakcnhhlmpkaaDoor
open Go.ChangeShapes Go.WideShapes Go.ChangeAt Go.RowKit

set_option maxRecDepth 100000 in
theorem infoSlot : (Tryd.prog.info? 93).map (fun i => (i.zero.map (·.cells), i.size, i.bytes)) = some (some #[.string ⟨#[]⟩, .string ⟨#[]⟩, .slice none 0 0], 3, 56) := by kernel_rfl
/-- the first i elements stand, each with memory of its own behind the row's -/
def grows (w : World) (g n i : Nat) (l : List SlotD) (E : Nat → List Value) (m : Nat → Nat) : Prop :=
  filled w g 0 3 n i E ∧ (∀ j, (E j).length = 3) ∧ Steps m i ∧ g < m 0 ∧ m i ≤ w.heap.size ∧ ∀ j x, j < i → l[j]? = some x → SlotR.mine (m j) (m (j + 1)) w (E j) x
set_option maxRecDepth 100000 in
theorem grows.start {w : World} {g n : Nat} {l : List SlotD} (h : roomL w g 0 (n * 3)) (hg : g < w.heap.size) : grows w g n 0 l (fun _ => [.string ⟨#[]⟩, .string ⟨#[]⟩, .slice none 0 0]) (fun _ => w.heap.size) :=
  ⟨filled.start h, fun _ => rfl, ⟨fun j hj => absurd hj (by omega)⟩, hg, Nat.le_refl _, fun j x hj => absurd hj (by omega)⟩
set_option maxRecDepth 100000 in
theorem Steps.put {m : Nat → Nat} {i M : Nat} (h : Steps m i) (hM : m i ≤ M) : Steps (fun j => if j = i + 1 then M else m j) (i + 1) := ⟨fun j hj => by
  show (if j = i + 1 then M else m j) ≤ (if j + 1 = i + 1 then M else m (j + 1))
  by_cases e : j = i
  · subst e
    rw [if_neg (by omega), if_pos rfl]; exact hM
  · rw [if_neg (by omega), if_neg (by omega)]; exact h.up j (by omega)⟩
set_option maxRecDepth 100000 in
theorem grows.next {w w2 : World} {g n i : Nat} {l : List SlotD} {E : Nat → List Value} {m : Nat → Nat} {x : SlotD} {u : Value} (h : grows w g n i l E m) (hb : Below w.heap.size w w2) (hx : l[i]? = some x) (hin : i < n) (hg : g < w.heap.size)
    (hu : nums .u8 w.heap.size w2.heap.size w2 u x.2.2) :
    grows (setsAt w2 g (i * 3) [.string x.1, .string x.2.1, u]) g n (i + 1) l (fun j => if j = i then [.string x.1, .string x.2.1, u] else E j) (fun j => if j = i + 1 then w2.heap.size else m j) := by
  obtain ⟨h1, h2, h3, h4, h5, h6⟩ := h
  have hf : filled w2 g 0 3 n i (fun j => if j = i then [.string x.1, .string x.2.1, u] else E j) := (h1.keep (hb.block g hg)).congr fun j hj => if_neg (by omega)
  have hl : ∀ j, ((fun j => if j = i then [Value.string x.1, .string x.2.1, u] else E j) j).length = 3 := fun j => by
    simp only
    split
    · rfl
    · exact h2 j
  have hn := hf.next hin (fun j _ => hl j)
  simp only [if_true, Nat.zero_add] at hn
  have ht := setsAt_turned [.string x.1, .string x.2.1, u] w2 g (i * 3) (Turned.refl g (g + 1) w2) (Nat.le_refl _) (by omega)
  have hsz := hb.size
  have hz := ht.size
  refine ⟨hn, hl, h3.put (by omega), by show g < (if 0 = i + 1 then w2.heap.size else m 0); rw [if_neg (by omega)]; exact h4, by show (if i + 1 = i + 1 then w2.heap.size else m (i + 1)) ≤ _; rw [if_pos rfl]; exact hz, fun j y hj hy => ?_⟩
  by_cases e : j = i
  · subst e
    have hxy : y = x := Option.some.inj (hy.symm.trans hx)
    subst hxy
    show SlotR.mine (if j = j + 1 then w2.heap.size else m j) (if j + 1 = j + 1 then w2.heap.size else m (j + 1)) _ (if j = j then _ else E j) y
    rw [if_neg (by omega), if_pos rfl, if_pos rfl]
    exact ((slot_mine_of hu).turned ht (.inr (by have := h3.le (Nat.zero_le j) (Nat.le_refl _); omega)) (Nat.le_refl _)).mono (by omega) (Nat.le_refl _)
  · have hji : j < i := by omega
    show SlotR.mine (if j = i + 1 then w2.heap.size else m j) (if j + 1 = i + 1 then w2.heap.size else m (j + 1)) _ (if j = i then _ else E j) y
    rw [if_neg e, if_neg (by omega), if_neg (by omega)]
    have hm0 := h3.le (Nat.zero_le j) (by omega)
    have hm1 := h3.le (show j + 1 ≤ i by omega) (Nat.le_refl _)
    exact ((h6 j y hji hy).below hb (by omega)).turned ht (.inr (by omega)) (by omega)
set_option maxRecDepth 100000 in
theorem grows.done {w : World} {g n lo : Nat} {l : List SlotD} {E : Nat → List Value} {m : Nat → Nat} (h : grows w g n n l E m) (hn : n = l.length) (hg : lo ≤ g) : SlotsR.mine lo w.heap.size w [.slice (some ⟨g, 0, none⟩) n n] l := by
  obtain ⟨h1, h2, h3, h4, h5, h6⟩ := h
  exact rows_mine (R := SlotR) hn (Nat.le_refl _) hg h4 h3 h5 h1 fun j x hx => h6 j x (by rw [hn]; exact (List.getElem?_eq_some_iff.1 hx).1) hx
def slotSz (x : SlotD) : Nat := x.1.size + x.2.1.size + x.2.2.length
def slotsSz (l : List SlotD) : Nat := l.length + (l.map slotSz).sum
end Go.Proofs.YtkbakcnhhlmpkaaDoor
/- The reference's Digits; no conditions. -/
set_option linter.unusedVariables false
namespace Go.Proofs.YtkbakcnhhlmpkaaDoor
open Go.ChangeShapes Go.WideShapes Go.ChangeAt Go.RowKit

set_option maxRecDepth 100000 in
theorem specDigits_any (s : ByteArray) (w : World) (hs : s.size ≤ maxLen) :
    Calls Tryd.prog 73 #[.string s] w fun e w' => e = .returned (.bool (digs s)) ∧ w = w' := by
  unfold maxLen at hs
  go_enter Tryd.func73, Tryd.ntmps73
  go_wp2
  go_loop [3] (fun i => ∃ k : Nat, k ≤ s.size ∧ i = .int .i64 k ∧ (s.data.toList.take k).all isDig = true) (fun i => s.size - (intOf i).toNat)
  case atStart => exact ⟨0, Nat.zero_le _, rfl, rfl⟩
  case round =>
    obtain ⟨k, hk, rfl, ha0⟩ := hrel
    have ha := Lib.hid ha0
    clear ha0
    by_cases hlt : k < s.size
    · go_wp2
      · go_ret
        exact ⟨ret_bool (digs_no s k hlt ((isDig_no _).2 (by omega))).symm, rfl⟩
      · go_round
        case rel => exact ⟨k + 1, by omega, by go_num, all_one s k hlt ha.out ((isDig_iff _).2 (by omega))⟩
        case measure => simp [intOf] <;> omega
      · go_ret
        exact ⟨ret_bool (digs_no s k hlt ((isDig_no _).2 (by omega))).symm, rfl⟩
    · go_wp2
      go_ret
      exact ⟨ret_bool (digs_end s k hlt ha.out), rfl⟩

end Go.Proofs.YtkbakcnhhlmpkaaDoor
/- SlotOk and SlotOf of the reference; no conditions. -/
set_option linter.unusedVariables false
namespace Go.Proofs.YtkbakcnhhlmpkaaDoor
open Go.ChangeShapes Go.WideShapes Go.ChangeAt Go.RowKit

def slotOk (x : SlotD) : Bool := digs x.1 && (decide (x.1.size = 6) && (digs x.2.1 && (decide (x.2.1.size = 4) && inB (x.2.2.length : Int) 1 200)))
set_option maxRecDepth 100000 in
set_option maxHeartbeats 1600000 in
theorem specSlotOk_any (hi : Nat) (v : Value) (x : SlotD) (w : World) (hs1 : x.1.size ≤ maxLen) (hs2 : x.2.1.size ≤ maxLen) (h : rd .u8 hi w v x.2.2) :
    Calls Tryd.prog 67 #[.agg #[.string x.1, .string x.2.1, v]] w fun e w' => e = .returned (.bool (slotOk x)) ∧ Below w.heap.size w w' := by
  obtain ⟨A, c, rfl, -⟩ := h.form
  clear h
  have HD1 := Lib.hid (fun w => specDigits_any x.1 w hs1)
  have HD2 := Lib.hid (fun w => specDigits_any x.2.1 w hs2)
  have HI := Lib.hid (fun w => inB_any (x.2.2.length : Int) 1 200 w)
  have HV : Hid (slotOk x = (digs x.1 && (decide (x.1.size = 6) && (digs x.2.1 && (decide (x.2.1.size = 4) && inB (x.2.2.length : Int) 1 200))))) := Lib.hid rfl
  generalize digs x.1 = b1 at HD1 HV
  generalize digs x.2.1 = b2 at HD2 HV
  generalize inB (x.2.2.length : Int) 1 200 = b3 at HI HV
  have HB0 : Hid (Below w.heap.size w (w.alloc (.cells #[.string x.1, .string x.2.1, .slice A x.2.2.length c] 93))) := Lib.hid ((Below.refl _ _).alloc (Nat.le_refl _) _)
  rw [HV.out]
  cases b1
  · go_enter Tryd.func67, Tryd.ntmps67
    go_wp2_with fail
    refine (HD1.out _).mono ?_
    rintro e w1 ⟨rfl, rfl⟩
    go_wp2
    go_ret
    exact ⟨rfl, HB0.out⟩
  by_cases e6 : x.1.size = 6
  case neg =>
    rw [decide_eq_false e6]
    have e6' : ((x.1.size : Int) == 6) = false := by simp; omega
    clear e6
    go_enter Tryd.func67, Tryd.ntmps67
    go_wp2_with fail
    refine (HD1.out _).mono ?_
    rintro e w1 ⟨rfl, rfl⟩
    go_wp2
    go_ret
    exact ⟨rfl, HB0.out⟩
  rw [decide_eq_true e6]
  have e6' : ((x.1.size : Int) == 6) = true := by simp; omega
  have HE6 := Lib.hid e6
  clear e6
  cases b2
  · go_enter Tryd.func67, Tryd.ntmps67
    go_wp2_with fail
    refine (HD1.out _).mono ?_
    rintro e w1 ⟨rfl, rfl⟩
    go_wp2_with fail
    refine (HD2.out _).mono ?_
    rintro e w1 ⟨rfl, rfl⟩
    go_wp2
    go_ret
    exact ⟨rfl, HB0.out⟩
  by_cases e4 : x.2.1.size = 4
  case neg =>
    rw [decide_eq_false e4]
    have e4' : ((x.2.1.size : Int) == 4) = false := by simp; omega
    clear e4
    go_enter Tryd.func67, Tryd.ntmps67
    go_wp2_with fail
    refine (HD1.out _).mono ?_
    rintro e w1 ⟨rfl, rfl⟩
    go_wp2_with fail
    refine (HD2.out _).mono ?_
    rintro e w1 ⟨rfl, rfl⟩
    go_wp2
    go_ret
    exact ⟨rfl, HB0.out⟩
  rw [decide_eq_true e4]
  have e4' : ((x.2.1.size : Int) == 4) = true := by simp; omega
  clear e4
  go_enter Tryd.func67, Tryd.ntmps67
  go_wp2_with fail
  refine (HD1.out _).mono ?_
  rintro e w1 ⟨rfl, rfl⟩
  go_wp2_with fail
  refine (HD2.out _).mono ?_
  rintro e w1 ⟨rfl, rfl⟩
  go_wp2_with fail
  refine (HI.out _).mono ?_
  rintro e w1 ⟨rfl, rfl⟩
  go_wp2
  go_ret
  exact ⟨rfl, HB0.out⟩
end Go.Proofs.YtkbakcnhhlmpkaaDoor
/- SlotOf of the reference; no conditions. -/
set_option linter.unusedVariables false
namespace Go.Proofs.YtkbakcnhhlmpkaaDoor
open Go.ChangeShapes Go.WideShapes Go.ChangeAt Go.RowKit

set_option maxRecDepth 100000 in
theorem ow_made (T : TypeId) (K : IntKind) (w : World) : ow T K w.heap.size (w.alloc (.cells #[] T)) (.slice (some ⟨w.heap.size, 0, none⟩) 0 0) [] := by
  refine ⟨rfl, Or.inr ⟨w.heap.size, 0, #[], rfl, Nat.le_refl _, ?_, Nat.le_refl _, Nat.zero_le _, rfl, rfl⟩⟩
  show (w.heap.push _)[w.heap.size]? = _
  simp
/-- the first with this trace and this type: its reply -/
def isSlot (t m : ByteArray) (x : SlotD) : Bool := decide (x.1 = t) && decide (x.2.1 = m)
def slotOfL (l : List SlotD) (t m : ByteArray) : List Int × Bool := match l.find? (isSlot t m) with | some x => (x.2.2, true) | none => ([], false)
set_option maxRecDepth 100000 in
theorem slotOf_none {l : List SlotD} {t m : ByteArray} (h : ∀ x ∈ l, isSlot t m x = false) : slotOfL l t m = ([], false) := by
  have h1 : l.find? (isSlot t m) = none := List.find?_eq_none.2 fun x hx => by rw [h x hx]; exact Bool.false_ne_true
  unfold slotOfL
  rw [h1]
set_option maxRecDepth 100000 in
theorem slotOf_some {l : List SlotD} {t m : ByteArray} {i : Nat} {x : SlotD} (hx : l[i]? = some x) (he : isSlot t m x = true) (h : ∀ y ∈ l.take i, isSlot t m y = false) : slotOfL l t m = (x.2.2, true) := by
  obtain ⟨hi, rfl⟩ := List.getElem?_eq_some_iff.1 hx
  have h1 : l.find? (isSlot t m) = some l[i] := by
    rw [List.find?_eq_some_iff_getElem]
    refine ⟨he, i, hi, rfl, fun j hj => ?_⟩
    have hm : l[j] ∈ l.take i := by rw [List.mem_take_iff_getElem]; exact ⟨j, by omega, rfl⟩
    rw [h _ hm]; rfl
  unfold slotOfL
  rw [h1]
def bytesRes (l : List Int) (ok : Bool) (w : World) (e : Ending) (w' : World) : Prop := ∃ u, e = .returned (.tuple #[u, .bool ok]) ∧ nums .u8 w.heap.size w'.heap.size w' u l ∧ Below w.heap.size w w'
end Go.Proofs.YtkbakcnhhlmpkaaDoor
/- The reference's copy of a slice of slots; no conditions. -/
set_option linter.unusedVariables false
namespace Go.Proofs.YtkbakcnhhlmpkaaDoor
open Go.ChangeShapes Go.WideShapes Go.ChangeAt Go.RowKit

/-- a slot with the slice that its reply lies in -/
abbrev SlotV := SlotD × (Option Addr × Nat)
def sv (x : SlotV) : Value := .slice x.2.1 x.1.2.2.length x.2.2
def sCells (x : SlotV) : List Value := [.string x.1.1, .string x.1.2.1, .slice x.2.1 x.1.2.2.length x.2.2]
/-- the replies' memory: one after the other, none of it the row's -/
structure replies (w : World) (row : Option Nat) (B : Nat) (ps : List SlotV) (p q : Nat → Nat) : Prop where
  own : ∀ j x, ps[j]? = some x → nums .u8 (p j) (q j) w (sv x) x.1.2.2
  ord : ∀ i j, i < j → j < ps.length → q i ≤ p j
  in_ : ∀ j, j < ps.length → B ≤ p j ∧ q j ≤ w.heap.size
  row : ∀ j, j < ps.length → ∀ g, row = some g → g < p j ∨ q j ≤ g
set_option maxRecDepth 100000 in
theorem replies.nil (w : World) (row : Option Nat) (B : Nat) : replies w row B [] (fun _ => 0) (fun _ => 0) := ⟨fun j x h => by simp at h, fun i j _ h => by simp at h, fun j h => by simp at h, fun j h => by simp at h⟩
set_option maxRecDepth 100000 in
theorem replies.below {w w' : World} {row : Option Nat} {B : Nat} {ps : List SlotV} {p q : Nat → Nat} (h : replies w row B ps p q) (hb : Below w.heap.size w w') : replies w' row B ps p q :=
  ⟨fun j x hx => (h.own j x hx).below hb (h.in_ j (List.getElem?_eq_some_iff.1 hx).1).2, h.ord, fun j hj => ⟨(h.in_ j hj).1, Nat.le_trans (h.in_ j hj).2 hb.size⟩, h.row⟩
set_option maxRecDepth 100000 in
theorem replies.grown {w w' : World} {row row' : Option Nat} {B : Nat} {ps : List SlotV} {p q : Nat → Nat} (h : replies w row B ps p q) (hg : w.grownBy w' row) (hr : row' = row ∨ ∃ g, row' = some g ∧ w.heap.size ≤ g) : replies w' row' B ps p q := by
  refine ⟨fun j x hx => ?_, h.ord, fun j hj => ⟨(h.in_ j hj).1, Nat.le_trans (h.in_ j hj).2 hg.size⟩, fun j hj g hg' => ?_⟩
  · have hj := (List.getElem?_eq_some_iff.1 hx).1
    refine (h.own j x hx).apart hg (h.in_ j hj).2 fun b hb e => ?_
    have h1 := (h.own j x hx).blk b hb
    have h2 := h.row j hj b e
    omega
  · rcases hr with hr | ⟨g', hr, hg2⟩
    · exact h.row j hj g (by rw [← hr]; exact hg')
    · rw [hr] at hg'
      cases hg'
      have := (h.in_ j hj).2
      exact .inr (by omega)
set_option maxRecDepth 100000 in
theorem replies.snoc {w : World} {row : Option Nat} {B P Q : Nat} {ps : List SlotV} {p q : Nat → Nat} {x : SlotV} (h : replies w row B ps p q) (hx : nums .u8 P Q w (sv x) x.1.2.2) (h1 : ∀ j, j < ps.length → q j ≤ P) (h2 : B ≤ P) (h3 : Q ≤ w.heap.size) (h4 : ∀ g, row = some g → g < P ∨ Q ≤ g) :
    replies w row B (ps ++ [x]) (fun j => if j = ps.length then P else p j) (fun j => if j = ps.length then Q else q j) := by
  have hlen : (ps ++ [x]).length = ps.length + 1 := by simp
  refine ⟨fun j y hy => ?_, fun i j hij hj => ?_, fun j hj => ?_, fun j hj g hg => ?_⟩
  · by_cases e : j = ps.length
    · subst e
      simp only [if_true]
      have : y = x := by simpa using hy.symm
      subst this
      exact hx
    · have hj : j < ps.length := by have := (List.getElem?_eq_some_iff.1 hy).1; rw [hlen] at this; omega
      rw [List.getElem?_append_left hj] at hy
      show nums .u8 (if j = ps.length then P else p j) (if j = ps.length then Q else q j) w (sv y) y.1.2.2
      rw [if_neg e, if_neg e]
      exact h.own j y hy
  · rw [hlen] at hj
    show (if i = ps.length then Q else q i) ≤ (if j = ps.length then P else p j)
    rw [if_neg (by omega)]
    by_cases e : j = ps.length
    · rw [if_pos e]; exact h1 i (by omega)
    · rw [if_neg e]; exact h.ord i j hij (by omega)
  · rw [hlen] at hj
    show B ≤ (if j = ps.length then P else p j) ∧ (if j = ps.length then Q else q j) ≤ w.heap.size
    by_cases e : j = ps.length
    · rw [if_pos e, if_pos e]; exact ⟨h2, h3⟩
    · rw [if_neg e, if_neg e]; exact h.in_ j (by omega)
  · rw [hlen] at hj
    show g < (if j = ps.length then P else p j) ∨ (if j = ps.length then Q else q j) ≤ g
    by_cases e : j = ps.length
    · rw [if_pos e, if_pos e]; exact h4 g hg
    · rw [if_neg e, if_neg e]; exact h.row j (by omega) g hg
set_option maxRecDepth 100000 in
/-- such a row is slots of one's own -/
theorem replies.slots {w : World} {T : TypeId} {B : Nat} {v : Value} {ps : List SlotV} {p q : Nat → Nat} (ho : owE T 3 sCells B w v ps) (h : replies w v.ownBlock B ps p q) : SlotsR.mine B w.heap.size w [v] (ps.map (·.1)) := by
  have hl : (ps.map (·.1)).length = ps.length := List.length_map ..
  rcases ho.filled (fun _ => rfl) ((⟨#[]⟩, ⟨#[]⟩, []), (none, 0)) with ⟨rfl, A, c, rfl⟩ | ⟨b, c, rfl, hc, h1, h2, hf⟩
  · exact ⟨[], ⟨A, c, rfl, Nat.zero_le _, .inl ⟨rfl, rfl⟩⟩, List.nodup_nil, by simp⟩
  · cases hps : ps with
    | nil => exact ⟨[], ⟨_, c, rfl, Nat.zero_le _, .inl ⟨rfl, rfl⟩⟩, List.nodup_nil, by simp⟩
    | cons y ys =>
      rw [← hps]
      have hne : 0 < ps.length := by rw [hps]; simp
      have hob : (Value.slice (some ⟨b, 0, none⟩) ps.length c).ownBlock = some b := rfl
      refine rows_mine2 (R := SlotR) (p := p) (q := q) hl.symm hc h1 h2 h.ord (fun j hj => h.row j hj b hob) (fun j hj => h.in_ j hj) hf fun j x hx => ?_
      rw [List.getElem?_map] at hx
      obtain ⟨z, hz, rfl⟩ := Option.map_eq_some_iff.1 hx
      have hg : ps.getD j ((⟨#[]⟩, ⟨#[]⟩, []), (none, 0)) = z := by rw [List.getD_eq_getElem?_getD, hz]; rfl
      rw [hg]
      exact slot_mine_of (h.own j z hz)
set_option maxRecDepth 100000 in
theorem sCells_one (x : SlotV) : ∀ u ∈ sCells x, u.oneCell' = true := by
  intro u hu
  simp only [sCells, List.mem_cons, List.not_mem_nil, or_false] at hu
  rcases hu with rfl | rfl | rfl <;> rfl
/-- slots of one's own, in a row that may be appended to -/
def slotsOwn (l : List SlotD) (w : World) (e : Ending) (w' : World) : Prop := ∃ (A : Option Addr) (c : Nat) (ps : List SlotV) (p q : Nat → Nat), e = .returned (.slice A ps.length c) ∧ ps.map (·.1) = l ∧ owE 93 3 sCells w.heap.size w' (.slice A ps.length c) ps ∧ replies w' (Value.slice A ps.length c).ownBlock w.heap.size ps p q ∧ Below w.heap.size w w'
def slotsOne (l : List SlotD) (w : World) (e : Ending) (w' : World) : Prop := ∃ u, e = .returned u ∧ SlotsR.mine w.heap.size w'.heap.size w' [u] l ∧ Below w.heap.size w w'
set_option maxRecDepth 100000 in
set_option maxHeartbeats 3200000 in
theorem specCopySlotsO_any (hi : Nat) (v : Value) (l : List SlotD) (w : World) (hn : l.length ≤ 2000000) (hs : ∀ x ∈ l, x.2.2.length ≤ 1048576) (h : SlotsR.rd hi w [v] l) (hh : hi ≤ w.heap.size) :
    Calls Tryd.prog 59 #[v] w (slotsOwn l w) := by
  obtain ⟨A, c, rfl, hc, h⟩ := slots_rd h
  have HR := Lib.hid h
  have HS := Lib.hid hs
  clear h hs
  go_enter Tryd.func59, Tryd.ntmps59
  go_upto_region 2 with fail
  obtain ⟨W2, hW2⟩ : ∃ W2, W2 = w.alloc (.cells #[] 93) := ⟨_, rfl⟩
  have HO2 : Hid (owE 93 3 sCells w.heap.size W2 (.slice (some ⟨w.heap.size, 0, none⟩) 0 0) []) := Lib.hid (by rw [hW2]; exact owE_empty _ _ _ _ _ (Nat.le_refl _))
  have HB2 : Hid (Below w.heap.size w W2) := Lib.hid (by rw [hW2]; exact (Below.refl _ _).alloc (Nat.le_refl _) _)
  have z2 : w.heap.size < W2.heap.size := by rw [hW2]; simp
  rw [← hW2]
  clear hW2
  go_wp2
  go_loopw [3, 9] (fun ov iv wr => ∃ (i : Nat) (A' : Option Addr) (c' : Nat) (ps : List SlotV) (p q : Nat → Nat), i ≤ l.length ∧ iv = .int .i64 i ∧ ov = .slice A' ps.length c' ∧ ps.length ≤ i ∧ Hid (ps.map (·.1) = l.take i) ∧ Hid (owE 93 3 sCells w.heap.size wr (.slice A' ps.length c') ps) ∧ Hid (replies wr (Value.slice A' ps.length c').ownBlock w.heap.size ps p q) ∧ Hid (Below w.heap.size w wr) ∧ w.heap.size < wr.heap.size) (fun _ iv _ => l.length - (intOf iv).toNat)
  case atStart => exact ⟨0, _, _, [], _, _, Nat.zero_le _, rfl, rfl, Nat.zero_le _, Lib.hid rfl, HO2, Lib.hid (replies.nil _ _ _), HB2, z2⟩
  case round =>
    obtain ⟨i, A', c', ps, p, q, hi', rfl, rfl, hsl, HI, HO, HRP, HB, hz⟩ := hrel
    by_cases hin : i < l.length
    · obtain ⟨x, hx⟩ : ∃ x, l[i]? = some x := ⟨_, List.getElem?_eq_getElem hin⟩
      obtain ⟨b, off, A1, c1, rfl, hbl, d0, d1, d2, hrd⟩ := HR.out i x hx
      have hxs := HS.out x (List.mem_of_getElem? hx)
      have d0 := (HB.out.cell (p := ⟨b, off + i * 3, none⟩) (show b < w.heap.size by omega)).trans d0
      have d1 := (HB.out.cell (p := ⟨b, off + i * 3 + 1, none⟩) (show b < w.heap.size by omega)).trans d1
      have d2 := (HB.out.cell (p := ⟨b, off + i * 3 + 2, none⟩) (show b < w.heap.size by omega)).trans d2
      have HRD := Lib.hid (hrd.below HB.out hh)
      clear hrd
      have g1 : (i : Int) < (l.length : Int) := by omega
      have g2 : 0 ≤ (i : Int) := by omega
      have HIN : Hid (l.take (i + 1) = l.take i ++ [x]) := Lib.hid (by
        obtain ⟨h1, h2⟩ := List.getElem?_eq_some_iff.1 hx
        rw [List.take_succ_eq_append_getElem h1, h2])
      clear hx
      go_upto_region 5 with fail
      obtain ⟨W3, hW3⟩ : ∃ W3, W3 = wr.alloc (.cells #[.string x.1, .string x.2.1, .slice A1 x.2.2.length c1] 93) := ⟨_, rfl⟩
      have b3 : bk W3 wr.heap.size 93 [.string x.1, .string x.2.1, .slice A1 x.2.2.length c1] := by rw [hW3]; exact bk.new wr _ _
      have hb3 : Below wr.heap.size wr W3 := by rw [hW3]; exact (Below.refl _ _).alloc (Nat.le_refl _) _
      rw [← hW3]
      clear hW3
      have z3 := b3.lt
      have HRD3 := Lib.hid (HRD.out.below hb3 (by omega))
      have HB3 := Lib.hid hb3
      have HX3 := Lib.hid b3
      obtain ⟨q0, q1, q2⟩ := b3.cells3
      clear HRD d0 d1 d2 hb3 b3
      go_wp2_with (at_builtin; refine app_all (W3.alloc (.cells #[] 5)) rfl _ _ 22 rfl W3.heap.size 5 .u8 1 Tryd.underlying22 infoU8 _ [] rfl (ow_made _ _ W3) hi _ x.2.2 (by rfl) (HRD3.out.below ((Below.refl _ _).alloc (Nat.le_refl _) _) (by omega)) (by unfold maxLen; simp; omega) (by simp; omega) (by simp) ?_)
      intro v1 w5 hv1 hg1 hb5
      have hn1 := hv1.nums
      have z5 : W3.heap.size + 1 ≤ w5.heap.size := by have := hg1.size; simpa using this
      obtain ⟨AU, cU, rfl, -⟩ := hn1.form
      have hb35 : Below W3.heap.size W3 w5 := ((Below.refl _ _).alloc (Nat.le_refl _) _).trans hb5
      have hx5 := HX3.out.below hb35 z3
      have HX5 := Lib.hid hx5
      have HU := Lib.hid hn1
      have HB5 : Hid (Below wr.heap.size wr w5) := Lib.hid (HB3.out.trans (hb35.mono (by omega)))
      clear hv1 hg1 hb5 hn1 hb35 q0 q1 q2
      obtain ⟨q0, q1, q2⟩ := hx5.cells3
      have f2 := hx5.frozen 2
      clear hx5
      go_upto_region 6 with fail
      obtain ⟨W6, hW6⟩ : ∃ W6, W6 = w5.setCell ⟨wr.heap.size, 2, none⟩ (.slice AU x.2.2.length cU) := ⟨_, rfl⟩
      have hx6 := HX5.out.set 2 (.slice AU x.2.2.length cU)
      have ht6 := (Turned.refl wr.heap.size (wr.heap.size + 1) w5).set (b := wr.heap.size) 2 (.slice AU x.2.2.length cU) (by omega) (by omega)
      have hb6 := HB5.out.setCell (p := ⟨wr.heap.size, 2, none⟩) (Nat.le_refl _) (.slice AU x.2.2.length cU)
      rw [← hW6] at hx6 ht6 hb6 ⊢
      clear hW6
      have z6 := ht6.size
      have HU6 := Lib.hid (HU.out.turned ht6 (.inr (by omega)) (by omega))
      have HO6 := Lib.hid (HO.out.below hb6 (Nat.le_refl _))
      have HAP : Hid (∀ g, (Value.slice A' ps.length c').ownBlock = some g → w.heap.size ≤ g ∧ g < wr.heap.size) := Lib.hid HO.out.lt
      have HRP6 := Lib.hid ((HRP.out.below hb6).snoc (x := (x, (AU, cU))) HU6.out (fun j hj => by have := (HRP.out.in_ j hj).2; omega) (by omega) z6 (fun g hg => .inl (by have := HAP.out g hg; omega)))
      have HB6 : Hid (Below w.heap.size w W6) := Lib.hid (HB.out.trans (hb6.mono (by omega)))
      clear hb6 ht6 HO HRP HX5 HX3 HU q0 q1 q2 f2
      obtain ⟨q0, q1, q2⟩ := hx6.cells3
      clear hx6
      go_wp2_with (at_builtin; refine app_elem sCells 3 (fun _ => rfl) (by decide) sCells_one 27 93 #[.string ⟨#[]⟩, .string ⟨#[]⟩, .slice none 0 0] 56 Tryd.underlying27 infoSlot rfl _ _ rfl (by rfl) w.heap.size W6 _ ps ((x, (AU, cU)) : SlotV) _ _ (by rfl) (by rfl) (by rfl) (by simp) HO6.out (by unfold maxLen; omega) (by omega) (by first | omega | (simp; omega)) ?_)
      intro A9 c9 w9 hown9 hc9 hg9 hlies9
      have z9 : W6.heap.size + 1 ≤ w9.heap.size := by have := hg9.size; simpa using this
      have HB9 : Hid (Below w.heap.size w w9) := Lib.hid ((HB6.out.alloc (by omega) _).grown hg9 (by simp; omega) (fun g hg' => (HAP.out g hg').1))
      have HRP9 := Lib.hid ((HRP6.out.below ((Below.refl _ _).alloc (Nat.le_refl _) (.cells #[.string x.1, .string x.2.1, .slice AU x.2.2.length cU] 93))).grown hg9 (row' := (Value.slice A9 (ps.length + 1) c9).ownBlock) (hlies9.imp id (fun e => ⟨_, e, by simp⟩)))
      have HO9 := Lib.hid hown9
      clear hown9 hg9 hlies9
      go_wp2
      go_roundw
      case rel => exact ⟨i + 1, A9, c9, ps ++ [(x, (AU, cU))], _, _, by omega, by go_num, by simp, by simp; omega, Lib.hid (by rw [HIN.out, ← HI.out]; simp), Lib.hid (by simpa using HO9.out), Lib.hid (by have h9 := HRP9.out; rw [show (Value.slice A9 (ps ++ [((x, (AU, cU)) : SlotV)]).length c9).ownBlock = (Value.slice A9 (ps.length + 1) c9).ownBlock from by simp]; exact h9), HB9, by omega⟩
      case measure => simp [intOf] <;> omega
    · obtain rfl : i = l.length := by omega
      have HV : Hid (ps.map (·.1) = l) := Lib.hid (by have := HI.out; rwa [List.take_length] at this)
      go_wp2
      refine bodyPost_ret (v := .slice A' ps.length c') (by simp [results, Tryd.results59, go_sem]) rfl ?_
      exact ⟨A', c', ps, p, q, rfl, HV.out, HO.out, HRP.out, HB.out⟩
set_option maxRecDepth 100000 in
theorem specCopySlots_any (hi : Nat) (v : Value) (l : List SlotD) (w : World) (hn : l.length ≤ 2000000) (hs : ∀ x ∈ l, x.2.2.length ≤ 1048576) (h : SlotsR.rd hi w [v] l) (hh : hi ≤ w.heap.size) :
    Calls Tryd.prog 59 #[v] w (slotsOne l w) := by
  refine (specCopySlotsO_any hi v l w hn hs h hh).mono ?_
  rintro e w' ⟨A, c, ps, p, q, rfl, hm, ho, hr, hb⟩
  have := replies.slots ho hr
  rw [hm] at this
  exact ⟨_, rfl, this, hb⟩
end Go.Proofs.YtkbakcnhhlmpkaaDoor
/- SlotsOk of the reference; no conditions. -/
set_option linter.unusedVariables false
namespace Go.Proofs.YtkbakcnhhlmpkaaDoor
open Go.ChangeShapes Go.WideShapes Go.ChangeAt Go.RowKit

/-- element i is right, and none before it has its trace and type -/
def slotAtOk (l : List SlotD) (i : Nat) : Bool := match l[i]? with | some x => slotOk x && (l.take i).all fun y => !isSlot x.1 x.2.1 y | none => true
def slotsOk (l : List SlotD) : Bool := (List.range l.length).all (slotAtOk l) && decide (l.length ≤ 6)
set_option maxRecDepth 100000 in
theorem slots_ok_not {l : List SlotD} {i : Nat} (hi : i < l.length) (h : slotAtOk l i = false) : slotsOk l = false := by
  unfold slotsOk
  have : (List.range l.length).all (slotAtOk l) = false := by
    rw [List.all_eq_false]
    exact ⟨i, List.mem_range.2 hi, by rw [h]; exact Bool.false_ne_true⟩
  rw [this]; rfl
set_option maxRecDepth 100000 in
theorem slots_ok_end {l : List SlotD} (h : ∀ j, j < l.length → slotAtOk l j = true) : slotsOk l = decide (l.length ≤ 6) := by
  unfold slotsOk
  have : (List.range l.length).all (slotAtOk l) = true := List.all_eq_true.2 fun j hj => h j (List.mem_range.1 hj)
  rw [this]; rfl
set_option maxRecDepth 100000 in
theorem slot_at {l : List SlotD} {i : Nat} {x : SlotD} (hx : l[i]? = some x) : slotAtOk l i = (slotOk x && (l.take i).all fun y => !isSlot x.1 x.2.1 y) := by
  unfold slotAtOk; rw [hx]
set_option maxRecDepth 100000 in
set_option maxHeartbeats 3200000 in
theorem specSlotsOk_any (hi : Nat) (v : Value) (l : List SlotD) (w : World) (hn : l.length ≤ 2000000) (hs : ∀ x ∈ l, x.1.size ≤ maxLen ∧ x.2.1.size ≤ maxLen) (h : SlotsR.rd hi w [v] l) (hh : hi ≤ w.heap.size) :
    Calls Tryd.prog 54 #[v] w fun e w' => e = .returned (.bool (slotsOk l)) ∧ Below w.heap.size w w' := by
  obtain ⟨A, c, rfl, hc, h⟩ := slots_rd h
  have HR := Lib.hid h
  have HS := Lib.hid hs
  clear h hs
  go_enter Tryd.func54, Tryd.ntmps54
  go_wp2
  go_loopw [9] (fun iv wr => ∃ i : Nat, i ≤ l.length ∧ iv = .int .i64 i ∧ Hid (∀ j, j < i → slotAtOk l j = true) ∧ Hid (Below w.heap.size w wr) ∧ w.heap.size ≤ wr.heap.size) (fun iv _ => l.length - (intOf iv).toNat)
  case atStart => exact ⟨0, Nat.zero_le _, rfl, Lib.hid (fun j hj => absurd hj (by omega)), Lib.hid (Below.refl _ _), Nat.le_refl _⟩
  case round =>
    obtain ⟨i, hi', rfl, HN, HB, hz⟩ := hrel
    by_cases hin : i < l.length
    · obtain ⟨x, hx⟩ : ∃ x, l[i]? = some x := ⟨_, List.getElem?_eq_getElem hin⟩
      obtain ⟨b, off, A', c', rfl, hbl, d0, d1, d2, hrd⟩ := HR.out i x hx
      obtain ⟨hs1, hs2⟩ := HS.out x (List.mem_of_getElem? hx)
      have d0 := (HB.out.cell (p := ⟨b, off + i * 3, none⟩) (show b < w.heap.size by omega)).trans d0
      have d1 := (HB.out.cell (p := ⟨b, off + i * 3 + 1, none⟩) (show b < w.heap.size by omega)).trans d1
      have d2 := (HB.out.cell (p := ⟨b, off + i * 3 + 2, none⟩) (show b < w.heap.size by omega)).trans d2
      have HRD := Lib.hid hrd
      have HAT := Lib.hid (slot_at hx)
      have g1 : (i : Int) < (l.length : Int) := by omega
      have g2 : 0 ≤ (i : Int) := by omega
      have g3 : (i : Int) ≤ (c : Int) := by omega
      clear hx hrd
      go_upto_region 4 with fail
      obtain ⟨W3, hW3⟩ : ∃ W3, W3 = wr.alloc (.cells #[.string x.1, .string x.2.1, .slice A' x.2.2.length c'] 93) := ⟨_, rfl⟩
      have b3 : bk W3 wr.heap.size 93 [.string x.1, .string x.2.1, .slice A' x.2.2.length c'] := by rw [hW3]; exact bk.new wr _ _
      have hb3 : Below wr.heap.size wr W3 := by rw [hW3]; exact (Below.refl _ _).alloc (Nat.le_refl _) _
      rw [← hW3]
      clear hW3
      have z3 := b3.lt
      have HB3 : Hid (Below w.heap.size w W3) := Lib.hid (HB.out.trans (hb3.mono hz))
      have HOK := Lib.hid (specSlotOk_any hi _ x W3 hs1 hs2 (HRD.out.below HB3.out hh))
      have HX3 := Lib.hid b3
      obtain ⟨q0, q1, q2⟩ := b3.cells3
      clear b3 hb3 HB d0 d1 d2 HRD hs1 hs2
      generalize slotOk x = ok at HOK HAT
      go_wp2_with fail
      refine HOK.out.mono ?_
      rintro e w4 ⟨rfl, hb4⟩
      have z4 := hb4.size
      have HB4 : Hid (Below w.heap.size w w4) := Lib.hid (HB3.out.trans (hb4.mono (by omega)))
      have HX4 := Lib.hid (HX3.out.below hb4 z3)
      clear hb4 HX3 HB3 q0 q1 q2 HOK
      cases ok
      · have HV : Hid (slotsOk l = false) := Lib.hid (slots_ok_not hin (by rw [HAT.out]; rfl))
        go_wp2
        go_ret
        exact ⟨ret_bool HV.out.symm, HB4.out⟩
      generalize wr.heap.size = gx at *
      go_wp2
      go_loopw [21] (fun kv wr => ∃ k : Nat, k ≤ i ∧ kv = .int .i64 k ∧ Hid (∀ y ∈ l.take k, isSlot x.1 x.2.1 y = false) ∧ Hid (bk wr gx 93 [.string x.1, .string x.2.1, .slice A' x.2.2.length c']) ∧ Hid (Below w.heap.size w wr) ∧ gx < wr.heap.size) (fun kv _ => i - (intOf kv).toNat)
      case atStart => exact ⟨0, Nat.zero_le _, rfl, Lib.hid (by simp), HX4, HB4, by omega⟩
      case round =>
        obtain ⟨k, hk, rfl, HK, HXs, HBs, hzs⟩ := hrel
        by_cases hki : k < i
        · obtain ⟨y, hy⟩ : ∃ y, l[k]? = some y := ⟨_, List.getElem?_eq_getElem (by omega)⟩
          obtain ⟨b', off', A2, c2, e', -, d0, d1, d2, -⟩ := HR.out k y hy
          simp only [Option.some.injEq, Addr.mk.injEq, and_true] at e'
          obtain ⟨rfl, rfl⟩ := e'
          have d0 := (HBs.out.cell (p := ⟨b, off + k * 3, none⟩) (show b < w.heap.size by omega)).trans d0
          have d1 := (HBs.out.cell (p := ⟨b, off + k * 3 + 1, none⟩) (show b < w.heap.size by omega)).trans d1
          have d2 := (HBs.out.cell (p := ⟨b, off + k * 3 + 2, none⟩) (show b < w.heap.size by omega)).trans d2
          have k1 : (k : Int) < (i : Int) := by omega
          have k2 : 0 ≤ (k : Int) := by omega
          have HYI := Lib.hid hy
          clear hy
          go_upto_region 9 with fail
          obtain ⟨W5, hW5⟩ : ∃ W5, W5 = wr.alloc (.cells #[.string y.1, .string y.2.1, .slice A2 y.2.2.length c2] 93) := ⟨_, rfl⟩
          have b5 : bk W5 wr.heap.size 93 [.string y.1, .string y.2.1, .slice A2 y.2.2.length c2] := by rw [hW5]; exact bk.new wr _ _
          have hb5 : Below wr.heap.size wr W5 := by rw [hW5]; exact (Below.refl _ _).alloc (Nat.le_refl _) _
          rw [← hW5]
          clear hW5
          have HX5 := Lib.hid (HXs.out.below hb5 hzs)
          have HB5 : Hid (Below w.heap.size w W5) := Lib.hid (HBs.out.trans (hb5.mono HBs.out.size))
          have z5 := hb5.size
          obtain ⟨q0, q1, q2⟩ := HX5.out.cells3
          obtain ⟨r0, r1, r2⟩ := b5.cells3
          clear b5 hb5 d0 d1 d2 HXs HBs
          have HNY : isSlot x.1 x.2.1 y = false → Hid (∀ y ∈ l.take (k + 1), isSlot x.1 x.2.1 y = false) := fun hne => Lib.hid (by
            obtain ⟨h1, h2⟩ := List.getElem?_eq_some_iff.1 HYI.out
            rw [List.take_succ_eq_append_getElem h1, h2]
            intro z hz'
            rcases List.mem_append.1 hz' with hz' | hz'
            · exact HK.out z hz'
            · rw [List.mem_singleton.1 hz']; exact hne)
          by_cases e1 : y.1 = x.1
          · have hel1 : y.1.toList = x.1.toList := by rw [e1]
            by_cases e2 : y.2.1 = x.2.1
            · have hel2 : y.2.1.toList = x.2.1.toList := by rw [e2]
              have HV : Hid (slotsOk l = false) := Lib.hid (slots_ok_not hin (by
                rw [HAT.out, Bool.true_and, List.all_eq_false]
                refine ⟨y, ?_, ?_⟩
                · obtain ⟨h1, h2⟩ := List.getElem?_eq_some_iff.1 HYI.out
                  rw [List.mem_take_iff_getElem]; exact ⟨k, by omega, h2⟩
                · unfold isSlot; rw [decide_eq_true e1, decide_eq_true e2]; decide))
              clear e1 e2 HNY
              go_wp2
              go_ret
              exact ⟨ret_bool HV.out.symm, HB5.out⟩
            · have hel2 : ¬ y.2.1.toList = x.2.1.toList := fun e => e2 (str_eq_list.1 e)
              have hel3 : (y.2.1.toList == x.2.1.toList) = false := by simpa using hel2
              have HN2 := HNY (by unfold isSlot; rw [decide_eq_false e2, Bool.and_false])
              clear e1 e2 HNY
              go_wp2
              go_roundw
              case rel => exact ⟨k + 1, by omega, by go_num, HN2, HX5, HB5, by omega⟩
              case measure => simp [intOf] <;> omega
          · have hel1 : ¬ y.1.toList = x.1.toList := fun e => e1 (str_eq_list.1 e)
            have hel3 : (y.1.toList == x.1.toList) = false := by simpa using hel1
            have HN2 := HNY (by unfold isSlot; rw [decide_eq_false e1, Bool.false_and])
            clear e1 HNY
            go_wp2
            go_roundw
            case rel => exact ⟨k + 1, by omega, by go_num, HN2, HX5, HB5, by omega⟩
            case measure => simp [intOf] <;> omega
        · obtain rfl : k = i := by omega
          have HOKI : Hid (∀ j, j < k + 1 → slotAtOk l j = true) := Lib.hid (fun j hj => by
            by_cases e : j = k
            · subst e
              rw [HAT.out, Bool.true_and, List.all_eq_true]
              intro y hy
              rw [HK.out y hy]; rfl
            · exact HN.out j (by omega))
          go_wp2
          go_roundw
          case rel => exact ⟨k + 1, by omega, by go_num, HOKI, HBs, by omega⟩
          case measure => simp [intOf] <;> omega
    · obtain rfl : i = l.length := by omega
      have HV : Hid (slotsOk l = decide (l.length ≤ 6)) := Lib.hid (slots_ok_end HN.out)
      go_wp2
      go_ret
      exact ⟨ret_bool (by rw [HV.out]; simp; omega), HB.out⟩
end Go.Proofs.YtkbakcnhhlmpkaaDoor
/- SlotPut of the reference; no conditions. -/
set_option linter.unusedVariables false
namespace Go.Proofs.YtkbakcnhhlmpkaaDoor
open Go.ChangeShapes Go.WideShapes Go.ChangeAt Go.RowKit

set_option maxRecDepth 100000 in
/-- append(s, T{..}) as a step of a region that draws its order, the element lying anywhere -/
theorem app_src_step {P : Program} {ops : Array Oper} {o : Oper} {a : Act} {Kn : Act → World → Prop} {Q : Exit → Act → World → Prop} {E : Prop} {α : Type} (enc : α → List Value) (k : Nat) (hk : ∀ x, (enc x).length = k) (hk0 : 0 < k) (hone : ∀ x, ∀ u ∈ enc x, u.oneCell' = true)
    (t e : TypeId) (zs : Array Value) (bytes : Nat) (ht : P.underlying t = some (.slice e)) (hinfo : (P.info? e).map (fun i => (i.zero.map (·.cells), i.size, i.bytes)) = some (some zs, k, bytes)) (hzs : zs.size = k)
    (s x : Operand) (hgd : o.guard = none) (ho : o.op = .call { callee := .builtin .append, args := #[s, x], argTypes := #[t, t] })
    (base : Nat) (W : World) (v : Value) (l : List α) (y : α) (n : Nat) (hs : a.eval s = v) (hx : a.eval x = .slice (some ⟨n, 0, none⟩) 1 1) (hc : ∀ j u, (enc y)[j]? = some u → W.cell? ⟨n, j, none⟩ = some u)
    (hown : owE e k enc base W v l) (h63 : l.length + 1 ≤ maxLen) (hbytes : (l.length + 1) * bytes ≤ 140737488355328) (hbase : base ≤ W.heap.size)
    (h : ∀ A c w', owE e k enc base w' (.slice A (l.length + 1) c) (l ++ [y]) → l.length + 1 ≤ c → W.grownBy w' v.ownBlock → ((Value.slice A (l.length + 1) c).ownBlock = v.ownBlock ∨ (Value.slice A (l.length + 1) c).ownBlock = some W.heap.size) → Kn (a.put o.dst (.slice A (l.length + 1) c)) w') : if Region.wanted o (yielded ops a.tmps) = true then o.wp P a W Kn Q else E := by
  rw [if_pos (by simp [Region.wanted, hgd])]
  obtain ⟨i, hi, hxx⟩ := Option.map_eq_some_iff.1 hinfo
  simp only [Prod.mk.injEq] at hxx
  obtain ⟨hz, hsize, hby⟩ := hxx
  obtain ⟨z, hzz, hzc⟩ := Option.map_eq_some_iff.1 hz
  have hcells : ∀ j u, (enc y)[j]? = some u → W.cell? ((⟨n, 0, none⟩ : Addr).add j) = some u := by
    intro j u hu
    have e1 : (⟨n, 0, none⟩ : Addr).add j = ⟨n, j, none⟩ := by
      unfold Addr.add
      split
      · next h0 => rw [h0]
      · simp
    rw [e1]
    exact hc j u hu
  obtain ⟨v', w1, hr, hown', hgrow, _, hlies⟩ := run_append_own_at (P := P) W base t o.type e i z k bytes ht hi hzz hsize hby (by rw [hzc, hzs]) hk0 v l.length (l.flatMap enc) hown ⟨n, 0, none⟩ 1 1 (enc y) (by rw [hk]; omega) hcells (hone y) h63 hbytes hbase
  have ho' : owE e k enc base w1 v' (l ++ [y]) := by
    unfold owE
    rw [List.length_append, List.flatMap_append]
    simpa using hown'
  obtain ⟨A, c, rfl, hc'⟩ := ho'.form
  rw [List.length_append] at ho' hc' hlies hr
  unfold Oper.wp execOp
  simp only [ho, resolve, invoke, builtin, Sem.run_bind, Sem.run_pure, Result.andThen_ok, List.map_toArray, List.map_cons, List.map_nil, hs, hx, hr]
  exact h A c w1 ho' hc' hgrow (by simpa using hlies)
set_option maxRecDepth 100000 in
/-- such a row is read -/
theorem owE_slots_rd {T : TypeId} {B : Nat} {w : World} {v : Value} {ps : List SlotV} (ho : owE T 3 sCells B w v ps) (hr : ∀ (j : Nat) (y : SlotV), ps[j]? = some y → rd .u8 w.heap.size w (sv y) y.1.2.2) : SlotsR.rd w.heap.size w [v] (ps.map (·.1)) := by
  obtain ⟨A, c, rfl, hc⟩ := ho.form
  refine ⟨A, c, by rw [List.length_map], by rw [List.length_map]; exact hc, fun j x hx => ?_⟩
  rw [List.getElem?_map] at hx
  obtain ⟨y, hy, rfl⟩ := Option.map_eq_some_iff.1 hx
  have hj := (List.getElem?_eq_some_iff.1 hy).1
  rcases ho.filled (fun _ => rfl) ((⟨#[]⟩, ⟨#[]⟩, []), (none, 0)) with ⟨rfl, -⟩ | ⟨b, c', hv, -, h1, h2, hf⟩
  · simp at hj
  · simp only [Value.slice.injEq, true_and] at hv
    obtain ⟨rfl, rfl⟩ := hv
    have hat := hf.at_ j hj
    have hg : ps.getD j ((⟨#[]⟩, ⟨#[]⟩, []), (none, 0)) = y := by rw [List.getD_eq_getElem?_getD, hy]; rfl
    rw [hg] at hat
    exact ⟨b, 0, sCells y, rfl, h2, slot_rd_of (hr j y hy), hat⟩
set_option maxRecDepth 100000 in
theorem put_read {T : TypeId} {B hi : Nat} {w : World} {A AX : Option Addr} {c cX : Nat} {ps : List SlotV} {p q : Nat → Nat} {row : Option Nat} {l : List SlotD} {x : SlotD} (ho : owE T 3 sCells B w (.slice A (ps.length + 1) c) (ps ++ [((x, (AX, cX)) : SlotV)])) (hr : replies w row B ps p q) (hu : rd .u8 hi w (.slice AX x.2.2.length cX) x.2.2) (hh : hi ≤ w.heap.size) (hm : ps.map (·.1) = l) : SlotsR.rd w.heap.size w [.slice A (ps.length + 1) c] (l ++ [x]) := by
  have h := owE_slots_rd ho fun j y hy => by
    by_cases e : j = ps.length
    · subst e
      have : y = (x, (AX, cX)) := by simpa using hy.symm
      subst this
      exact rd.mono hu hh
    · have hj : j < ps.length := by have := (List.getElem?_eq_some_iff.1 hy).1; simp at this; omega
      rw [List.getElem?_append_left hj] at hy
      exact rd.mono (hr.own j y hy).rd (hr.in_ j hj).2
  rw [List.map_append, hm] at h
  exact h
def slotPutL (l : List SlotD) (x : SlotD) : List SlotD × Bool := if slotsOk (l ++ [x]) = true then (l ++ [x], true) else ([], false)
def slotsRes (l : List SlotD) (ok : Bool) (w : World) (e : Ending) (w' : World) : Prop := ∃ u, e = .returned (.tuple #[u, .bool ok]) ∧ SlotsR.mine w.heap.size w'.heap.size w' [u] l ∧ Below w.heap.size w w'
set_option maxRecDepth 100000 in
set_option maxHeartbeats 6400000 in
theorem specSlotPut_any (hi : Nat) (v u : Value) (l : List SlotD) (x : SlotD) (w : World) (hn : l.length ≤ 1048576) (hs : ∀ x ∈ l, x.2.2.length ≤ 1048576) (hz : ∀ x ∈ l, x.1.size ≤ maxLen ∧ x.2.1.size ≤ maxLen) (hx : x.2.2.length ≤ 1048576) (hx1 : x.1.size ≤ maxLen) (hx2 : x.2.1.size ≤ maxLen) (h : SlotsR.rd hi w [v] l) (hu : rd .u8 hi w u x.2.2) (hh : hi ≤ w.heap.size) :
    Calls Tryd.prog 43 #[v, .agg #[.string x.1, .string x.2.1, u]] w (slotsRes (slotPutL l x).1 (slotPutL l x).2 w) := by
  obtain ⟨A0, c0, rfl, -, -⟩ := slots_rd h
  obtain ⟨AX, cX, rfl, -⟩ := hu.form
  have H := Lib.hid h
  have HU := Lib.hid hu
  have hnx : (l ++ [x]).length ≤ 2000000 := by simp; omega
  have HSX : Hid (∀ y ∈ l ++ [x], y.2.2.length ≤ 1048576) := Lib.hid fun y hy => by
    rcases List.mem_append.1 hy with h | h
    · exact hs y h
    · rw [List.mem_singleton.1 h]; exact hx
  have HZX : Hid (∀ y ∈ l ++ [x], y.1.size ≤ maxLen ∧ y.2.1.size ≤ maxLen) := Lib.hid fun y hy => by
    rcases List.mem_append.1 hy with h | h
    · exact hz y h
    · rw [List.mem_singleton.1 h]; exact ⟨hx1, hx2⟩
  have HS := Lib.hid hs
  clear h hu hs hz hx1 hx2
  go_enter Tryd.func43, Tryd.ntmps43
  go_upto_region 1 with fail
  obtain ⟨W, hW⟩ : ∃ W, W = w.alloc (.cells #[.string x.1, .string x.2.1, .slice AX x.2.2.length cX] 93) := ⟨_, rfl⟩
  have b0 : bk W w.heap.size 93 [.string x.1, .string x.2.1, .slice AX x.2.2.length cX] := by rw [hW]; exact bk.new w _ _
  have HB0 : Hid (Below w.heap.size w W) := Lib.hid (by rw [hW]; exact (Below.refl _ _).alloc (Nat.le_refl _) _)
  have z0 : W.heap.size = w.heap.size + 1 := by rw [hW]; simp
  rw [← hW]
  clear hW
  have B0 := Lib.hid b0
  obtain ⟨p0, p1, p2⟩ := b0.cells3
  clear b0
  have HCP := Lib.hid (fun V (hV : Below W.heap.size W V) => specCopySlotsO_any hi _ l V (by omega) HS.out (Rep.below (R := SlotsR) H.out (HB0.out.trans (hV.mono (by omega))) hh) (Nat.le_trans (by omega) hV.size))
  have HUX := Lib.hid (fun V (hV : Below W.heap.size W V) => HU.out.below (HB0.out.trans (hV.mono (by omega))) hh)
  have HBK := Lib.hid (fun V (hV : Below W.heap.size W V) => (B0.out.below hV (by omega)).cells3)
  have hD : Below W.heap.size W W.drew := (Below.refl _ _).drew
  go_cut [6] (fun uv wx => ∃ (A : Option Addr) (c : Nat), uv = .slice A (l ++ [x]).length c ∧ SlotsR.mine W.heap.size wx.heap.size wx [uv] (l ++ [x]) ∧ Below W.heap.size W wx)
  case first =>
    have hE := ((Below.refl W.heap.size W).alloc (Nat.le_refl W.heap.size) (.cells #[.string x.1, .string x.2.1, .slice AX x.2.2.length cX] 93)).drew
    have hEn := heap_alloc_new W (.cells #[.string x.1, .string x.2.1, .slice AX x.2.2.length cX] 93)
    rw [z0] at hEn
    go_region_held3 (fun V => V.cell? ⟨w.heap.size, 0, none⟩ = some (.string x.1) ∧ V.cell? ⟨w.heap.size, 1, none⟩ = some (.string x.2.1) ∧ V.cell? ⟨w.heap.size, 2, none⟩ = some (.slice AX x.2.2.length cX)) (go_keep) (first
      | (go_at_call 59; (with_reducible refine (HCP.out _ hD).mono ?_); rintro e w2 ⟨A2, c2, ps, p, q, rfl, hm2, ho2, hr2, hb2⟩; have hW2 : Below W.heap.size W w2 := hD.trans (hb2.mono (Nat.le_refl _)); obtain ⟨q0, q1, q2⟩ := HBK.out w2 hW2; have hpl : ps.length ≤ 1048576 := (by rw [show ps.length = l.length from by rw [← hm2, List.length_map]]; omega); have HO2 := Lib.hid ho2; have HR2 := Lib.hid hr2; have HM2 := Lib.hid hm2; have HW2 := Lib.hid hW2; clear ho2 hr2 hb2 hm2 hW2)
      | (go_at_call 59; (with_reducible refine (HCP.out _ hE).mono ?_); rintro e w2 ⟨A2, c2, ps, p, q, rfl, hm2, ho2, hr2, hb2⟩; have hW2 : Below W.heap.size W w2 := hE.trans (hb2.mono (by simp)); obtain ⟨q0, q1, q2⟩ := HBK.out w2 hW2; have hpl : ps.length ≤ 1048576 := (by rw [show ps.length = l.length from by rw [← hm2, List.length_map]]; omega); have HO2 := Lib.hid ho2; have HR2 := Lib.hid hr2; have HM2 := Lib.hid hm2; have HW2 := Lib.hid hW2; have HE2 : Hid (∀ (j : Nat) (v : Value), (sCells ((x, (AX, cX)) : SlotV))[j]? = some v → w2.cell? ⟨w.heap.size + 1, j, none⟩ = some v) := Lib.hid (fun j v hv => (by rw [hb2.cell (p := ⟨w.heap.size + 1, j, none⟩) (show w.heap.size + 1 < (W.alloc _).heap.size by simp; omega), show ∀ V : World, V.drew.cell? ⟨w.heap.size + 1, j, none⟩ = V.cell? ⟨w.heap.size + 1, j, none⟩ from fun _ => rfl, cell_of_row _ _ j _ _ (0, 0) hEn, ← Array.getElem?_toList]; exact hv)); have HZ2 := Lib.hid hb2.size; clear ho2 hr2 hb2 hm2 hW2)
      | (refine app_elem_step sCells 3 (fun _ => rfl) (by decide) sCells_one 27 93 #[.string ⟨#[]⟩, .string ⟨#[]⟩, .slice none 0 0] 56 Tryd.underlying27 infoSlot rfl _ _ (by rfl) (by rfl) _ w2 _ ps ((x, (AX, cX)) : SlotV) _ _ (by rfl) (by rfl) (by rfl) rfl HO2.out (by unfold maxLen; omega) (by omega) (by have := HW2.out.size; exact this) ?_; intro A4 c4 w4 hown4 hc4 hg4 hl4; have hW4 : Below W.heap.size W w4 := (HW2.out.alloc HW2.out.size (.cells #[.string x.1, .string x.2.1, .slice AX x.2.2.length cX] 93)).grown hg4 (by have := HW2.out.size; simp; omega) (fun k hk => (HO2.out.lt k hk).1); obtain ⟨q0, q1, q2⟩ := HBK.out w4 hW4; have hr4 := (HR2.out.below ((Below.refl w2.heap.size w2).alloc (Nat.le_refl _) (.cells #[.string x.1, .string x.2.1, .slice AX x.2.2.length cX] 93))).grown hg4 (row' := (Value.slice A4 (ps.length + 1) c4).ownBlock) (hl4.imp id (fun e => ⟨_, e, by simp⟩)); have HM4 := Lib.hid HM2.out; have HO4 := Lib.hid hown4; have HR4 := Lib.hid hr4; have HW4 := Lib.hid hW4; clear hown4 hg4 hl4 hr4 hW4)
      | (refine app_src_step sCells 3 (fun _ => rfl) (by decide) sCells_one 27 93 #[.string ⟨#[]⟩, .string ⟨#[]⟩, .slice none 0 0] 56 Tryd.underlying27 infoSlot rfl _ _ (by rfl) (by rfl) _ w2 _ ps ((x, (AX, cX)) : SlotV) _ (by rfl) (by rfl) HE2.out HO2.out (by unfold maxLen; omega) (by omega) (by have := HZ2.out; exact this) ?_; intro A4 c4 w4 hown4 hc4 hg4 hl4; have hW4 : Below W.heap.size W w4 := HW2.out.grown hg4 (by have := HW2.out.size; omega) (fun k hk => by have := (HO2.out.lt k hk).1; simp at this; omega); obtain ⟨q0, q1, q2⟩ := HBK.out w4 hW4; have hr4 := HR2.out.grown hg4 (row' := (Value.slice A4 (ps.length + 1) c4).ownBlock) (hl4.imp id (fun e => ⟨_, e, Nat.le_refl _⟩)); have HM4 := Lib.hid HM2.out; have HO4 := Lib.hid hown4; have HR4 := Lib.hid hr4; have HW4 := Lib.hid hW4; clear hown4 hg4 hl4 hr4 hW4)
      | (go_at_call 59; (with_reducible refine (specCopySlots_any w4.heap.size _ (l ++ [x]) w4 hnx HSX.out (put_read HO4.out HR4.out (HUX.out w4 HW4.out) (Nat.le_trans (by omega) HW4.out.size) HM4.out) (Nat.le_refl _)).mono ?_); rintro e w6 ⟨u6, rfl, hu6, hb6⟩; obtain ⟨A6, c6, rfl, -⟩ := Rep.slice_form hu6.rd; have HU6 := Lib.hid hu6; have hW6 : Below W.heap.size W w6 := HW4.out.trans (hb6.mono HW4.out.size); obtain ⟨q0, q1, q2⟩ := HBK.out w6 hW6; have HW6 := Lib.hid hW6; have z46 : W.heap.size ≤ w4.heap.size := HW4.out.size; clear hu6 hb6 hW6)
      | fail)
    all_goals (go_wp2; go_meet)
    all_goals exact ⟨A6, c6, by simp, by simpa using HU6.out.mono z46 (Nat.le_refl _), HW6.out⟩
  case rest =>
    obtain ⟨A, c, rfl, hm, hb⟩ := hcut
    have zc := hb.size
    have HM := Lib.hid hm
    have HB := Lib.hid hb
    have HPL : Hid (slotPutL l x = if slotsOk (l ++ [x]) = true then (l ++ [x], true) else ([], false)) := Lib.hid rfl
    have HOK := Lib.hid (specSlotsOk_any wc.heap.size _ (l ++ [x]) wc hnx HZX.out hm.rd (Nat.le_refl _))
    clear hm hb HCP HUX HBK hD p0 p1 p2
    generalize slotsOk (l ++ [x]) = ok at HOK HPL
    generalize l ++ [x] = L at HM HPL HOK ⊢
    go_wp2_with fail
    refine HOK.out.mono ?_
    rintro e w9 ⟨rfl, hb9⟩
    have z9 := hb9.size
    have HW9 : Hid (Below w.heap.size w w9) := Lib.hid (HB0.out.trans ((HB.out.mono (by omega)).trans (hb9.mono (by omega))))
    have HM9 := Lib.hid (HM.out.below hb9 (Nat.le_refl _))
    clear hb9
    cases ok
    · go_wp2
      refine bodyPost_ret (v := .tuple #[.slice none 0 0, .bool false]) (by simp [results, Tryd.results43, go_sem]) rfl ?_
      rw [HPL.out]
      exact ⟨_, rfl, ⟨[], ⟨none, 0, rfl, Nat.le_refl _, .inl ⟨rfl, rfl⟩⟩, List.nodup_nil, by simp⟩, HW9.out⟩
    · go_wp2
      refine bodyPost_ret (v := .tuple #[.slice A L.length c, .bool true]) (by simp [results, Tryd.results43, go_sem]) rfl ?_
      rw [HPL.out]
      exact ⟨_, rfl, HM9.out.mono (by omega) z9, HW9.out⟩
end Go.Proofs.YtkbakcnhhlmpkaaDoor
/- append of a whole slice as a step of a region that draws its order; a row that lies in one block; no conditions. -/
set_option linter.unusedVariables false
namespace Go.Proofs.YtkbakcnhhlmpkaaDoor
open Go.ChangeShapes Go.WideShapes Go.ChangeAt Go.RowKit

section
variable {P : Program} (w : World)
set_option maxRecDepth 100000 in
/-- .. as a step of a region that draws its order (for go_region_law) -/
theorem app_all_step {ops : Array Oper} {o : Oper} {a : Act} {Kn : Act → World → Prop} {Q : Exit → Act → World → Prop} {E : Prop} (hgd : o.guard = none) (s x : Operand) (t : TypeId)
    (ho : o.op = .call { callee := .builtin .append, args := #[s, x], argTypes := #[t, t] })
    (base : Nat) (e : TypeId) (K : IntKind) (bytes : Nat) (ht : P.underlying t = some (.slice e)) (hinfo : (P.info? e).map (fun i => (i.zero, i.size, i.bytes)) = some (some (.int K 0), 1, bytes))
    (v : Value) (l : List Int) (hs : a.eval s = v) (u : Value) (hx : a.eval x = u) (hown : ow e K base w v l) (hi : Nat) (m : List Int) (hr : rd K hi w u m)
    (h63 : l.length + m.length ≤ maxLen) (hbytes : (l.length + m.length) * bytes ≤ 140737488355328) (hbase : base ≤ w.heap.size)
    (h : ∀ v' w', ow e K base w' v' (l ++ m) → w.grownBy w' v.ownBlock → Below base w w' → Kn (a.put o.dst v') w') : if Region.wanted o (yielded ops a.tmps) = true then o.wp P a w Kn Q else E := by
  rw [if_pos (by simp [Region.wanted, hgd])]
  exact wp_app_all w s x t ho base e K bytes ht hinfo v l hs hown hi u m hx hr h63 hbytes hbase fun v' w' h2 h3 => h v' w' h2 h3 ((Below.refl base w).grown h3 hbase fun k hk => (hown.lt k hk).1)
end
set_option maxRecDepth 100000 in
theorem ow_at {W : World} {n : Nat} {c : Int} {T : TypeId} {K : IntKind} {B : Nat} (h : W.heap[n]? = some (.cells #[.int K c] T (0, 0))) (hB : B ≤ n) : ow T K B W (.slice (some ⟨n, 0, none⟩) 1 1) [c] :=
  ⟨rfl, Or.inr ⟨n, 1, #[.int K c], rfl, hB, h, Nat.le_refl _, by decide, rfl, rfl⟩⟩
set_option maxRecDepth 100000 in
theorem rd_at {W : World} {n : Nat} {c : Int} {T : TypeId} {K : IntKind} (h : W.heap[n]? = some (.cells #[.int K c] T (0, 0))) : rd K W.heap.size W (.slice (some ⟨n, 0, none⟩) 1 1) [c] := (ow_at (B := 0) h (Nat.zero_le _)).nums.rd
end Go.Proofs.YtkbakcnhhlmpkaaDoor
/- What the reference draws for stored replies: right ones, in memory of their own; no conditions. -/
set_option linter.unusedVariables false
namespace Go.Proofs.YtkbakcnhhlmpkaaDoor
open Go.ChangeShapes Go.WideShapes Go.ChangeAt Go.RowKit

set_option maxRecDepth 100000 in
theorem ow_fresh (T : TypeId) (K : IntKind) (B : Nat) (w : World) (hB : B ≤ w.heap.size) : ow T K B (w.alloc (.cells #[] T)) (.slice (some ⟨w.heap.size, 0, none⟩) 0 0) [] :=
  ⟨rfl, Or.inr ⟨w.heap.size, 0, #[], rfl, hB, heap_alloc_new _ _, Nat.le_refl _, Nat.zero_le _, by simp, by simp⟩⟩
set_option maxRecDepth 100000 in
theorem infoU8d : (Tryd.prog.info? 5).map (fun i => (i.zero, i.size, i.bytes)) = some (some (.int .u8 0), 1, 1) := by kernel_rfl
/-- what a draw of bytes comes to, in a row that may be appended to -/
def bytesDrawn (most : Nat) (b : Nat) (sv : Value) (w : World) (e : Ending) (w' : World) : Prop := ∃ (A : Option Addr) (c : Nat) (L : List Int), e = .returned (.slice A L.length c) ∧ ow 5 .u8 w.heap.size w' (.slice A L.length c) L ∧ L.length ≤ most ∧ curOn b sv w w'
set_option maxRecDepth 100000 in
set_option maxHeartbeats 1600000 in
theorem bytesDraw_any (most : Nat) (hmost : most ≤ 200) (b : Nat) (sv : Value) (i0 : Nat) (h0 : Int) (w : World) (hc : curAt w b sv i0 h0) (hi : i0 ≤ lenOf sv) (hr : readable w b sv) :
    Calls Tryd.prog 60 #[.pointer (some ⟨b, 0, none⟩), .int .i64 (most : Int)] w (bytesDrawn most b sv w) := by
  have hblt := lt_of_cur hc
  have HR : Hid (∀ w' : World, w.grownBy w' (some b) → readable w' b sv) := Lib.hid fun w' hg => hr.grownAt hg (by omega)
  go_enter Tryd.func60, Tryd.ntmps60
  go_wp2_with fail
  refine (below_any b sv i0 h0 ((most : Int) + 1) _ (cur_alloc hc _) hi (hr.alloc _) (by omega) (by omega)).mono ?_
  rintro e w1 ⟨x, i1, h1, rfl, hx0, hx1, hi1, hc1, ho1⟩
  have HO1 : Hid (curOn b sv w w1) := Lib.hid (((curOn.start hc hi).alloc _).only hi1 hc1 ho1)
  have hz1 : w.heap.size + 1 ≤ w1.heap.size := by have := ho1.size; simp at this; omega
  have HW1 : Hid (ow 5 .u8 w.heap.size w1 (.slice (some ⟨w.heap.size, 0, none⟩) 0 0) []) := Lib.hid (ow.grownRow (ow_fresh 5 .u8 w.heap.size w (Nat.le_refl _)) ho1.grown (fun g hg e => by cases e; simp [Value.ownBlock] at hg <;> omega))
  clear hc1 ho1 hc hi hr
  go_wp2
  go_loopw [5, 6] (fun bv nv wr => ∃ (k : Int) (A : Option Addr) (c : Nat) (L : List Int), nv = .int .i64 k ∧ bv = .slice A L.length c ∧ 0 ≤ k ∧ (L.length : Int) + k ≤ most ∧ Hid (ow 5 .u8 w.heap.size wr (.slice A L.length c) L) ∧ Hid (curOn b sv w wr)) (fun _ nv _ => (intOf nv).toNat)
  case atStart => exact ⟨x, _, 0, [], rfl, rfl, hx0, by simp; omega, HW1, HO1⟩
  case round =>
    obtain ⟨k, A, c, L, rfl, rfl, hk0, hk, HW, HO⟩ := hrel
    by_cases hpos : 0 < k
    · obtain ⟨i3, h3, hi3, hc3, -⟩ := HO.out
      have HC3 := Lib.hid hc3
      have hz := HO.out.size
      clear hc3
      go_wp2_with fail
      refine (byte_any b sv i3 h3 wr HC3.out hi3 (HR.out _ HO.out.grown)).mono ?_
      rintro e w4 ⟨y, i4, h4, rfl, hy0, hy1, hi4, hc4, ho4⟩
      have hy256 : IntKind.u8.wrap y = y := IntWalk.u8_in _ (by omega)
      have HO4 := Lib.hid (HO.out.only hi4 hc4 ho4)
      have HW4 : Hid (ow 5 .u8 w.heap.size w4 (.slice A L.length c) L) := Lib.hid (ow.grownRow HW.out ho4.grown (fun g hg e => by cases e; have := (HW.out.from) b hg; omega))
      have hz4 : wr.heap.size ≤ w4.heap.size := by rw [ho4.size]; exact Nat.le_refl _
      have HW5 := Lib.hid (HW4.out.below ((Below.refl w4.heap.size w4).alloc (Nat.le_refl _) (.cells #[.int .u8 y] 5)) (Nat.le_refl _))
      have HS5 := Lib.hid (ow_at (W := w4.alloc (.cells #[.int .u8 y] 5)) (K := .u8) (B := w.heap.size) (heap_alloc_new w4 (.cells #[.int .u8 y] 5)) (by omega)).nums.rd
      clear hc4 ho4 HC3 HW HO
      go_wp2_with (at_builtin; refine app_all (w4.alloc (.cells #[.int .u8 y] 5)) rfl _ _ 22 rfl w.heap.size 5 .u8 1 Tryd.underlying22 infoU8d _ L rfl HW5.out _ _ [y] (by rfl) HS5.out (by unfold maxLen; simp <;> omega) (by simp <;> omega) (by simp; omega) ?_)
      intro v6 w6 hown6 hg6 hb6
      obtain ⟨A6, c6, rfl, hc6⟩ := hown6.nums.form
      have HW6 := Lib.hid hown6
      have HO6 : Hid (curOn b sv w w6) := Lib.hid ((HO4.out.alloc _).below hblt hb6 (Nat.le_refl _))
      clear hown6 hg6 hb6
      go_wp2
      go_roundw
      case rel => exact ⟨k - 1, A6, c6, L ++ [y], rfl, rfl, by omega, by simp; omega, HW6, HO6⟩
      case measure => simp [intOf] <;> omega
    · go_wp2
      go_ret
      exact ⟨A, c, L, rfl, HW.out, by omega, HO.out⟩
def traceTexts : List (List UInt8) := [[48, 48, 48, 48, 48, 49], [48, 48, 48, 48, 48, 50], [48, 48, 48, 48, 48, 51], [49, 50, 51, 52, 53, 54]]
def mti3Texts : List (List UInt8) := [[48, 49, 48, 48], [48, 50, 50, 48], [48, 50, 48, 48]]
set_option maxRecDepth 100000 in
theorem trace_small {x : List UInt8} (h : x ∈ traceTexts) : x.length ≤ 6 := by
  simp only [traceTexts, List.mem_cons, List.not_mem_nil, or_false] at h
  rcases h with rfl | rfl | rfl | rfl <;> decide
set_option maxRecDepth 100000 in
theorem mti3_small {x : List UInt8} (h : x ∈ mti3Texts) : x.length ≤ 4 := by
  simp only [mti3Texts, List.mem_cons, List.not_mem_nil, or_false] at h
  rcases h with rfl | rfl | rfl <;> decide
def slotDrawn (b : Nat) (sv : Value) (w : World) (e : Ending) (w' : World) : Prop := ∃ (x : SlotD) (A : Option Addr) (c : Nat), e = .returned (.agg #[.string x.1, .string x.2.1, .slice A x.2.2.length c]) ∧ x.1.size ≤ 6 ∧ x.2.1.size ≤ 4 ∧ x.2.2.length ≤ 4 ∧ rd .u8 w'.heap.size w' (.slice A x.2.2.length c) x.2.2 ∧ curOn b sv w w'
set_option maxRecDepth 100000 in
set_option maxHeartbeats 1600000 in
theorem slotDraw_any (b : Nat) (sv : Value) (i0 : Nat) (h0 : Int) (w : World) (hc : curAt w b sv i0 h0) (hi : i0 ≤ lenOf sv) (hr : readable w b sv) :
    Calls Tryd.prog 44 #[.pointer (some ⟨b, 0, none⟩)] w (slotDrawn b sv w) := by
  have hblt := lt_of_cur hc
  have HR : Hid (∀ w' : World, w.grownBy w' (some b) → readable w' b sv) := Lib.hid fun w' hg => hr.grownAt hg (by omega)
  go_enter Tryd.func44, Tryd.ntmps44
  go_upto_region 1 with fail
  obtain ⟨W, hW⟩ : ∃ W, W = w.alloc (.cells #[.string ⟨#[]⟩, .string ⟨#[]⟩, .slice none 0 0] 93) := ⟨_, rfl⟩
  have B0 : Hid (bk W w.heap.size 93 [.string ⟨#[]⟩, .string ⟨#[]⟩, .slice none 0 0]) := Lib.hid (by rw [hW]; exact bk.new w _ _)
  have HO0 : Hid (curOn b sv w W) := Lib.hid (by rw [hW]; exact (curOn.start hc hi).alloc _)
  have HC0 : Hid (curAt W b sv i0 h0) := Lib.hid (by rw [hW]; exact cur_alloc hc _)
  have z0 : w.heap.size + 1 = W.heap.size := by rw [hW]; simp
  rw [← hW]
  clear hW hc hr
  go_wp2_with fail
  refine (pickStr_any b sv i0 h0 W.heap.size 4 traceTexts _ (cur_alloc HC0.out _) hi ((HR.out _ HO0.out.grown).alloc _) (by omega) (texts_at W _ traceTexts _ _ (by rfl) rfl) rfl (by omega) (by omega)).mono ?_
  rintro e w1 ⟨x, i1, h1, hx, rfl, hi1, hc1, ho1⟩
  have HO1 : Hid (curOn b sv w w1) := Lib.hid ((HO0.out.alloc _).only hi1 hc1 ho1)
  have hxs := trace_small hx
  have HC1 := Lib.hid hc1
  have z1 : W.heap.size + 1 = w1.heap.size := by have := ho1.size; simp at this; omega
  have B1 : Hid (bk w1 w.heap.size 93 [.string ⟨#[]⟩, .string ⟨#[]⟩, .slice none 0 0]) := Lib.hid ((ho1.block w.heap.size (by omega)).trans (B0.out.alloc _))
  clear hc1 ho1 hx HO0 HC0 B0
  go_wp2_with fail
  refine (pickStr_any b sv i1 h1 w1.heap.size 3 mti3Texts _ (cur_alloc HC1.out _) hi1 ((HR.out _ HO1.out.grown).alloc _) (by omega) (texts_at w1 _ mti3Texts _ _ (by rfl) rfl) rfl (by omega) (by omega)).mono ?_
  rintro e w2 ⟨y, i2, h2, hy, rfl, hi2, hc2, ho2⟩
  have HO2 : Hid (curOn b sv w w2) := Lib.hid ((HO1.out.alloc _).only hi2 hc2 ho2)
  have hys := mti3_small hy
  have HC2 := Lib.hid hc2
  have z2 : w1.heap.size + 1 = w2.heap.size := by have := ho2.size; simp at this; omega
  have B2 : Hid (bk w2 w.heap.size 93 [.string ⟨#[]⟩, .string ⟨#[]⟩, .slice none 0 0]) := Lib.hid ((ho2.block w.heap.size (by omega)).trans (B1.out.alloc _))
  clear hc2 ho2 hy HO1 HC1 B1
  go_wp2_with fail
  refine (bytesDraw_any 3 (by decide) b sv i2 h2 w2 HC2.out hi2 (HR.out _ HO2.out.grown)).mono ?_
  rintro e w3 ⟨A, c, L, rfl, hw3, hl3, ho3⟩
  have HO3 := Lib.hid (HO2.out.then ho3)
  have z3 := ho3.size
  have B3 : Hid (bk w3 w.heap.size 93 [.string ⟨#[]⟩, .string ⟨#[]⟩, .slice none 0 0]) := Lib.hid ((ho3.grown.block w.heap.size (by omega) (fun e => by simp at e; omega)).trans B2.out)
  have HW4 := Lib.hid (hw3.below ((Below.refl w3.heap.size w3).alloc (Nat.le_refl _) (.cells #[.int .u8 1] 5)) (Nat.le_refl _))
  have HS4 := Lib.hid (ow_at (W := w3.alloc (.cells #[.int .u8 1] 5)) (K := .u8) (B := w2.heap.size) (heap_alloc_new w3 (.cells #[.int .u8 1] 5)) (by omega)).nums.rd
  clear ho3 hw3 HO2 HC2 B2
  go_wp2_with (at_builtin; refine app_all (w3.alloc (.cells #[.int .u8 1] 5)) rfl _ _ 22 rfl w2.heap.size 5 .u8 1 Tryd.underlying22 infoU8d _ L rfl HW4.out _ _ [1] (by rfl) HS4.out (by unfold maxLen; simp <;> omega) (by simp <;> omega) (by simp; omega) ?_)
  intro v6 w6 hown6 hg6 hb6
  obtain ⟨A6, c6, rfl, hc6⟩ := hown6.nums.form
  have HW6 := Lib.hid hown6.nums
  have HO6 : Hid (curOn b sv w w6) := Lib.hid ((HO3.out.alloc _).below hblt hb6 (by omega))
  have B6 : Hid (bk w6 w.heap.size 93 [.string ⟨#[]⟩, .string ⟨#[]⟩, .slice none 0 0]) := Lib.hid ((B3.out.alloc _).below hb6 (by omega))
  have z6 : w3.heap.size + 1 ≤ w6.heap.size := by have := hg6.size; simpa using this
  have hl6 : (L ++ [(1 : Int)]).length ≤ 4 := by simp; omega
  obtain ⟨L6, hL6⟩ : ∃ L6, L6 = L ++ [(1 : Int)] := ⟨_, rfl⟩
  have hn6 : L.length + 1 = L6.length := by rw [hL6]; simp
  have hn7 : (L ++ [(1 : Int)]).length = L6.length := by rw [hL6]
  rw [← hL6] at HW6 hl6
  clear hown6 hg6 hb6 hL6 HO3 B3 HW4 HS4
  go_upto_region 2 with fail
  first | rw [hn7] | rw [hn6] | skip
  obtain ⟨W7, hW7⟩ : ∃ W7, W7 = w6.alloc (.cells #[.string ⟨x.toArray⟩, .string ⟨y.toArray⟩, .slice A6 L6.length c6] 93) := ⟨_, rfl⟩
  have K7 : bk W7 w6.heap.size 93 [.string ⟨x.toArray⟩, .string ⟨y.toArray⟩, .slice A6 L6.length c6] := by rw [hW7]; exact bk.new w6 _ _
  have B7 : bk W7 w.heap.size 93 [.string ⟨#[]⟩, .string ⟨#[]⟩, .slice none 0 0] := by rw [hW7]; exact B6.out.alloc _
  have HO7 : Hid (curOn b sv w W7) := Lib.hid (by rw [hW7]; exact HO6.out.alloc _)
  have HW7 : Hid (nums .u8 w2.heap.size w6.heap.size W7 (.slice A6 L6.length c6) L6) := Lib.hid (by rw [hW7]; exact HW6.out.below ((Below.refl w6.heap.size w6).alloc (Nat.le_refl _) _) (Nat.le_refl _))
  have z7 : w6.heap.size + 1 = W7.heap.size := by rw [hW7]; simp
  rw [← hW7]
  clear hW7 B6 HO6 HW6
  obtain ⟨p0, p1, p2⟩ := K7.cells3
  obtain ⟨q0, q1, q2⟩ := B7.cells3
  have f0 := B7.frozen 0
  have f1 := B7.frozen 1
  have f2 := B7.frozen 2
  clear K7 B7
  go_wp2
  refine bodyPost_ret (v := .agg #[.string ⟨x.toArray⟩, .string ⟨y.toArray⟩, .slice A6 L6.length c6]) (by simp [results, Tryd.results44, go_sem, q0, q1, q2]) rfl ?_
  have ht := (((Turned.refl w.heap.size (w.heap.size + 1) W7).set (b := w.heap.size) 0 (.string ⟨x.toArray⟩) (by omega) (by omega)).set (b := w.heap.size) 1 (.string ⟨y.toArray⟩) (by omega) (by omega)).set (b := w.heap.size) 2 (.slice A6 L6.length c6) (by omega) (by omega)
  have hsz := ht.size
  exact ⟨(⟨x.toArray⟩, ⟨y.toArray⟩, L6), A6, c6, rfl, hxs, hys, hl6, ((HW7.out.turned ht (.inr (by omega)) (by omega)).mono (Nat.le_refl _) (show w6.heap.size ≤ _ by omega)).rd, HO7.out.rest hblt ht (Nat.le_refl _)⟩
def slotsDrawn (b : Nat) (sv : Value) (w : World) (e : Ending) (w' : World) : Prop := ∃ (l : List SlotD) (A : Option Addr) (c : Nat), e = .returned (.slice A l.length c) ∧ slotsOk l = true ∧ SlotsR.mine w.heap.size w'.heap.size w' [.slice A l.length c] l ∧ curOn b sv w w'
set_option maxRecDepth 100000 in
theorem slotsOk_small {l : List SlotD} (h : slotsOk l = true) : l.length ≤ 6 ∧ ∀ x ∈ l, x.1.size = 6 ∧ x.2.1.size = 4 ∧ x.2.2.length ≤ 200 := by
  unfold slotsOk at h
  simp only [Bool.and_eq_true, decide_eq_true_eq, List.all_eq_true, List.mem_range] at h
  refine ⟨h.2, fun x hx => ?_⟩
  obtain ⟨i, hi, rfl⟩ := List.mem_iff_getElem.1 hx
  have h1 := h.1 i hi
  unfold slotAtOk at h1
  rw [List.getElem?_eq_getElem hi] at h1
  simp only [Bool.and_eq_true] at h1
  have h2 := h1.1
  unfold slotOk inB at h2
  simp only [Bool.and_eq_true, decide_eq_true_eq] at h2
  exact ⟨h2.2.1, h2.2.2.2.1, by have := h2.2.2.2.2.2; omega⟩
set_option maxRecDepth 100000 in
theorem slotPut_ok {l : List SlotD} {x : SlotD} (hk : (slotPutL l x).2 = true) : slotsOk (slotPutL l x).1 = true := by
  unfold slotPutL at hk ⊢
  split
  · rename_i h1
    exact h1
  · rename_i h1
    rw [if_neg h1] at hk
    exact absurd hk (by simp)
set_option maxRecDepth 100000 in
set_option maxHeartbeats 1600000 in
theorem slotsDraw_any (b : Nat) (sv : Value) (i0 : Nat) (h0 : Int) (w : World) (hc : curAt w b sv i0 h0) (hi : i0 ≤ lenOf sv) (hr : readable w b sv) :
    Calls Tryd.prog 27 #[.pointer (some ⟨b, 0, none⟩)] w (slotsDrawn b sv w) := by
  have hblt := lt_of_cur hc
  have HR : Hid (∀ w' : World, w.grownBy w' (some b) → readable w' b sv) := Lib.hid fun w' hg => hr.grownAt hg (by omega)
  go_enter Tryd.func27, Tryd.ntmps27
  go_upto_region 2 with fail
  obtain ⟨W, hW⟩ : ∃ W, W = w.alloc (.cells #[] 93) := ⟨_, rfl⟩
  have HO0 : Hid (curOn b sv w W) := Lib.hid (by rw [hW]; exact (curOn.start hc hi).alloc _)
  have HC0 : Hid (curAt W b sv i0 h0) := Lib.hid (by rw [hW]; exact cur_alloc hc _)
  have z0 : w.heap.size + 1 = W.heap.size := by rw [hW]; simp
  rw [← hW]
  clear hW hc hr
  go_wp2_with fail
  refine (below_any b sv i0 h0 5 W HC0.out hi (HR.out _ HO0.out.grown) (by decide) (by decide)).mono ?_
  rintro e w1 ⟨k1, i1, h1, rfl, hk0, hk1, hi1, hc1, ho1⟩
  have HO1 := Lib.hid (HO0.out.only hi1 hc1 ho1)
  have z1 : W.heap.size = w1.heap.size := ho1.size.symm
  clear hc1 ho1 HO0 HC0
  go_wp2
  go_loopw [3, 4] (fun lv kv wr => ∃ (l : List SlotD) (A : Option Addr) (c : Nat) (k : Int), lv = .slice A l.length c ∧ kv = .int .i64 k ∧ 0 ≤ k ∧ k ≤ 4 ∧ Hid (slotsOk l = true) ∧ Hid (SlotsR.mine w.heap.size wr.heap.size wr [.slice A l.length c] l) ∧ Hid (curOn b sv w wr)) (fun _ kv _ => (intOf kv).toNat)
  case atStart => exact ⟨[], some ⟨w.heap.size, 0, none⟩, 0, k1, rfl, rfl, hk0, by omega, Lib.hid (by decide), Lib.hid ⟨[], ⟨_, 0, rfl, Nat.le_refl _, .inl ⟨rfl, rfl⟩⟩, List.nodup_nil, by simp⟩, HO1⟩
  case round =>
    obtain ⟨l, A, c, k, rfl, rfl, k0, k3, HK, HM, HO⟩ := hrel
    by_cases hpos : 0 < k
    · obtain ⟨i2, h2, hi2, hc2, hg2⟩ := HO.out
      have HC2 := Lib.hid hc2
      clear hc2 hg2
      go_wp2_with fail
      refine (slotDraw_any b sv i2 h2 wr HC2.out hi2 (HR.out _ HO.out.grown)).mono ?_
      rintro e w3 ⟨x, AX, cX, rfl, hx1, hx2, hx3, hxr, ho3⟩
      have HO3 := Lib.hid (HO.out.then ho3)
      have z3 := ho3.size
      have HM3 := Lib.hid (HM.out.turned (turned_of_grown ho3.grown) (.inr (by omega)) (Nat.le_refl _))
      obtain ⟨hl4, hls⟩ := slotsOk_small HK.out
      have HP := Lib.hid (specSlotPut_any w3.heap.size _ _ l x w3 (by omega) (fun y hy => by have := (hls y hy).2.2; omega) (fun y hy => by have := hls y hy; unfold maxLen; omega) (by omega) (by unfold maxLen; omega) (by unfold maxLen; omega) (HM3.out.mono (Nat.le_refl _) z3).rd hxr (Nat.le_refl _))
      have HPK := Lib.hid (@slotPut_ok l x)
      clear ho3 HC2 hls HM HO hxr
      obtain ⟨q, hq⟩ : ∃ q, q = slotPutL l x := ⟨_, rfl⟩
      rw [← hq] at HP HPK
      obtain ⟨l2, ok⟩ := q
      clear hq
      simp only at HP HPK
      go_wp2_with fail
      refine HP.out.mono ?_
      rintro e w4 ⟨u, rfl, hm4, hb4⟩
      obtain ⟨A4, c4, rfl, -⟩ := Rep.slice_form hm4.rd
      have HO4 := Lib.hid (HO3.out.below hblt hb4 HO3.out.size)
      have z4 := hb4.size
      have z5 := HO3.out.size
      have HM4 := Lib.hid hm4
      have HM5 := Lib.hid (HM3.out.below hb4 z3)
      clear hm4 hb4 HP HO3 HM3
      cases ok
      · go_wp2
        go_roundw
        case rel => exact ⟨l, A, c, k - 1, rfl, rfl, by omega, by omega, HK, Lib.hid (HM5.out.mono (Nat.le_refl _) (by omega)), HO4⟩
        case measure => simp [intOf] <;> omega
      · have HK4 := Lib.hid (HPK.out (by trivial))
        go_wp2
        go_roundw
        case rel => exact ⟨l2, A4, c4, k - 1, rfl, rfl, by omega, by omega, HK4, Lib.hid (HM4.out.mono z5 (Nat.le_refl _)), HO4⟩
        case measure => simp [intOf] <;> omega
    · go_wp2
      go_ret
      exact ⟨l, A, c, rfl, HK.out, HM.out, HO.out⟩
end Go.Proofs.YtkbakcnhhlmpkaaDoor
/- Accounts: their layout, out of the words for holds, rings and slots. Plain facts; no conditions. -/
set_option linter.unusedVariables false
namespace Go.Proofs.YtkbakcnhhlmpkaaDoor
open Go.ChangeShapes Go.WideShapes Go.ChangeAt Go.RowKit

/-- id, limit, posted, most, mostSum, holds, ring, slots -/
abbrev AcctD := ByteArray × Int × Int × Int × Int × List HoldD × RingD × List SlotD
abbrev aId (a : AcctD) : ByteArray := a.1
abbrev aLim (a : AcctD) : Int := a.2.1
abbrev aPos (a : AcctD) : Int := a.2.2.1
abbrev aMost (a : AcctD) : Int := a.2.2.2.1
abbrev aSum (a : AcctD) : Int := a.2.2.2.2.1
abbrev aH (a : AcctD) : List HoldD := a.2.2.2.2.2.1
abbrev aR (a : AcctD) : RingD := a.2.2.2.2.2.2.1
abbrev aS (a : AcctD) : List SlotD := a.2.2.2.2.2.2.2
def AcctR : Rep AcctD := Rep.pair Rep.str (Rep.pair (Rep.int .i64) (Rep.pair (Rep.int .i64) (Rep.pair (Rep.int .i64) (Rep.pair (Rep.int .i64) (Rep.pair HoldsR (Rep.pair RingR SlotsR))))))
/-- its eleven cells -/
def aCells (a : AcctD) (vh vc vs vl : Value) : List Value := [.string (aId a), .int .i64 (aLim a), .int .i64 (aPos a), .int .i64 (aMost a), .int .i64 (aSum a), vh, .int .i64 (aR a).1, .int .i64 (aR a).2.1, vc, vs, vl]
set_option maxRecDepth 100000 in
theorem acct_rd {hi : Nat} {w : World} {cs : List Value} {a : AcctD} (h : AcctR.rd hi w cs a) : ∃ vh vc vs vl, cs = aCells a vh vc vs vl ∧ HoldsR.rd hi w [vh] (aH a) ∧ rd .i64 hi w vc (aR a).2.2.1 ∧ rd .i64 hi w vs (aR a).2.2.2 ∧ SlotsR.rd hi w [vl] (aS a) := by
  obtain ⟨c1, r1, rfl, h1, c2, r2, rfl, h2, c3, r3, rfl, h3, c4, r4, rfl, h4, c5, r5, rfl, h5, c6, r6, rfl, h6, c7, r7, rfl, h7, h8⟩ := h
  have e1 : c1 = [.string (aId a)] := h1
  have e2 : c2 = [.int .i64 (aLim a)] := h2
  have e3 : c3 = [.int .i64 (aPos a)] := h3
  have e4 : c4 = [.int .i64 (aMost a)] := h4
  have e5 : c5 = [.int .i64 (aSum a)] := h5
  subst e1 e2 e3 e4 e5
  obtain ⟨vc, vs, rfl, hc, hs⟩ := ring_rd h7
  have l6 := HoldsR.rd_len h6
  have l8 := SlotsR.rd_len h8
  match c6, r7, l6, l8 with
  | [vh], [vl], _, _ => exact ⟨vh, vc, vs, vl, rfl, h6, hc, hs, h8⟩
set_option maxRecDepth 100000 in
theorem acct_rd_of {hi : Nat} {w : World} {a : AcctD} {vh vc vs vl : Value} (h1 : HoldsR.rd hi w [vh] (aH a)) (h2 : rd .i64 hi w vc (aR a).2.2.1) (h3 : rd .i64 hi w vs (aR a).2.2.2) (h4 : SlotsR.rd hi w [vl] (aS a)) : AcctR.rd hi w (aCells a vh vc vs vl) a :=
  ⟨[_], _, rfl, rfl, [_], _, rfl, rfl, [_], _, rfl, rfl, [_], _, rfl, rfl, [_], _, rfl, rfl, [vh], _, rfl, h1, [_, _, vc, vs], [vl], rfl, ring_rd_of h2 h3, h4⟩
/-- memory of one's own, part by part: the blocks of the parts are apart -/
structure Apart4 (F G H : List Nat) : Prop where
  fg : ∀ b ∈ F, b ∉ G
  fh : ∀ b ∈ F, b ∉ H
  gh : ∀ b ∈ G, b ∉ H
set_option maxRecDepth 100000 in
theorem acct_mine_of {lo hi : Nat} {w : World} {a : AcctD} {vh vc vs vl : Value} {F G H : List Nat} (h1 : HoldsR.own w [vh] (aH a) F) (h2 : RingR.own w [.int .i64 (aR a).1, .int .i64 (aR a).2.1, vc, vs] (aR a) G) (h3 : SlotsR.own w [vl] (aS a) H) (hF : F.Nodup) (hG : G.Nodup) (hH : H.Nodup) (hA : Apart4 F G H) (hb : ∀ b, b ∈ F ∨ b ∈ G ∨ b ∈ H → lo ≤ b ∧ b < hi) : AcctR.mine lo hi w (aCells a vh vc vs vl) a := by
  refine ⟨[] ++ ([] ++ ([] ++ ([] ++ ([] ++ (F ++ (G ++ H)))))), ⟨[_], _, [], _, rfl, rfl, ⟨rfl, rfl⟩, [_], _, [], _, rfl, rfl, ⟨rfl, rfl⟩, [_], _, [], _, rfl, rfl, ⟨rfl, rfl⟩, [_], _, [], _, rfl, rfl, ⟨rfl, rfl⟩, [_], _, [], _, rfl, rfl, ⟨rfl, rfl⟩, [vh], _, F, _, rfl, rfl, h1, [_, _, vc, vs], [vl], G, H, rfl, rfl, h2, h3⟩, ?_, ?_⟩
  · simp only [List.nil_append]
    refine List.nodup_append.2 ⟨hF, List.nodup_append.2 ⟨hG, hH, fun x hx y hy e => hA.gh x hx (e ▸ hy)⟩, fun x hx y hy e => ?_⟩
    rcases List.mem_append.1 hy with hy | hy
    · exact hA.fg x hx (e ▸ hy)
    · exact hA.fh x hx (e ▸ hy)
  · intro b hb'
    simp only [List.nil_append, List.mem_append] at hb'
    exact hb b hb'
set_option maxRecDepth 100000 in
theorem acct_mine {lo hi : Nat} {w : World} {cs : List Value} {a : AcctD} (h : AcctR.mine lo hi w cs a) : ∃ vh vc vs vl F G H, cs = aCells a vh vc vs vl ∧ HoldsR.own w [vh] (aH a) F ∧ RingR.own w [.int .i64 (aR a).1, .int .i64 (aR a).2.1, vc, vs] (aR a) G ∧ SlotsR.own w [vl] (aS a) H ∧ F.Nodup ∧ G.Nodup ∧ H.Nodup ∧ Apart4 F G H ∧ ∀ b, b ∈ F ∨ b ∈ G ∨ b ∈ H → lo ≤ b ∧ b < hi := by
  have hrd := h.rd
  obtain ⟨vh0, vc0, vs0, vl0, hcs, -⟩ := acct_rd hrd
  obtain ⟨FF, ⟨c1, r1, F1, G1, rfl, rfl, ⟨e1, rfl⟩, c2, r2, F2, G2, rfl, rfl, ⟨e2, rfl⟩, c3, r3, F3, G3, rfl, rfl, ⟨e3, rfl⟩, c4, r4, F4, G4, rfl, rfl, ⟨e4, rfl⟩, c5, r5, F5, G5, rfl, rfl, ⟨e5, rfl⟩, c6, r6, F, G6, rfl, rfl, h6, c7, r7, G, H, rfl, rfl, h7, h8⟩, hn, hb⟩ := h
  have e1' : c1 = [.string (aId a)] := e1
  have e2' : c2 = [.int .i64 (aLim a)] := e2
  have e3' : c3 = [.int .i64 (aPos a)] := e3
  have e4' : c4 = [.int .i64 (aMost a)] := e4
  have e5' : c5 = [.int .i64 (aSum a)] := e5
  subst e1' e2' e3' e4' e5'
  simp only [List.nil_append] at hn hb
  have l6 : c6.length = 1 := by obtain ⟨A, c, rfl, -⟩ := h6; rfl
  have l8 : r7.length = 1 := by obtain ⟨A, c, rfl, -⟩ := h8; rfl
  match c6, r7, l6, l8 with
  | [vh], [vl], _, _ =>
    simp only [aCells, List.cons_append, List.nil_append, List.cons.injEq, true_and] at hcs
    obtain ⟨rfl, hcs⟩ := hcs
    have h7l : c7.length = 4 := RingR.rd_len (RingR.own_rd (hi := hi) h7 (fun b hb' => (hb b (by simp only [List.mem_append]; exact .inr (.inl hb'))).2))
    match c7, h7l with
    | [p, q, vc, vs], _ =>
      simp only [List.cons_append, List.nil_append, List.cons.injEq, and_true] at hcs
      obtain ⟨rfl, rfl, rfl, rfl, rfl⟩ := hcs
      obtain ⟨n1, n2, n3⟩ := List.nodup_append.1 hn
      obtain ⟨n4, n5, n6⟩ := List.nodup_append.1 n2
      refine ⟨vh, vc, vs, vl, F, G, H, rfl, h6, h7, h8, n1, n4, n5, ⟨fun b hb1 hb2 => n3 b hb1 b (List.mem_append_left _ hb2) rfl, fun b hb1 hb2 => n3 b hb1 b (List.mem_append_right _ hb2) rfl, fun b hb1 hb2 => n6 b hb1 b hb2 rfl⟩, fun b hb' => hb b ?_⟩
      simp only [List.mem_append]
      exact hb'
set_option maxRecDepth 100000 in
theorem acct_mine_ivl {p0 p1 p2 p3 : Nat} {w : World} {a : AcctD} {vh vc vs vl : Value} (h1 : HoldsR.mine p0 p1 w [vh] (aH a)) (h2 : RingR.mine p1 p2 w [.int .i64 (aR a).1, .int .i64 (aR a).2.1, vc, vs] (aR a)) (h3 : SlotsR.mine p2 p3 w [vl] (aS a)) (h01 : p0 ≤ p1) (h12 : p1 ≤ p2) (h23 : p2 ≤ p3) : AcctR.mine p0 p3 w (aCells a vh vc vs vl) a := by
  obtain ⟨F, f1, f2, f3⟩ := h1
  obtain ⟨G, g1, g2, g3⟩ := h2
  obtain ⟨H, i1, i2, i3⟩ := h3
  refine acct_mine_of f1 g1 i1 f2 g2 i2 ⟨fun b hb hb' => ?_, fun b hb hb' => ?_, fun b hb hb' => ?_⟩ fun b hb => ?_
  · have := f3 b hb; have := g3 b hb'; omega
  · have := f3 b hb; have := i3 b hb'; omega
  · have := g3 b hb; have := i3 b hb'; omega
  · rcases hb with hb | hb | hb
    · have := f3 b hb; omega
    · have := g3 b hb; omega
    · have := i3 b hb; omega
set_option maxRecDepth 100000 in
/-- the cells of a block of eleven -/
theorem bk.eleven {w : World} {g : Nat} {t : TypeId} {a b c d e f i j k l m : Value} (h : bk w g t [a, b, c, d, e, f, i, j, k, l, m]) :
    (w.cell? ⟨g, 0, none⟩ = some a ∧ w.cell? ⟨g, 1, none⟩ = some b ∧ w.cell? ⟨g, 2, none⟩ = some c ∧ w.cell? ⟨g, 3, none⟩ = some d ∧ w.cell? ⟨g, 4, none⟩ = some e ∧ w.cell? ⟨g, 5, none⟩ = some f ∧ w.cell? ⟨g, 6, none⟩ = some i ∧ w.cell? ⟨g, 7, none⟩ = some j ∧ w.cell? ⟨g, 8, none⟩ = some k ∧ w.cell? ⟨g, 9, none⟩ = some l ∧ w.cell? ⟨g, 10, none⟩ = some m) ∧
    (w.frozen? ⟨g, 0, none⟩ = false ∧ w.frozen? ⟨g, 1, none⟩ = false ∧ w.frozen? ⟨g, 2, none⟩ = false ∧ w.frozen? ⟨g, 3, none⟩ = false ∧ w.frozen? ⟨g, 4, none⟩ = false ∧ w.frozen? ⟨g, 5, none⟩ = false ∧ w.frozen? ⟨g, 6, none⟩ = false ∧ w.frozen? ⟨g, 7, none⟩ = false ∧ w.frozen? ⟨g, 8, none⟩ = false ∧ w.frozen? ⟨g, 9, none⟩ = false ∧ w.frozen? ⟨g, 10, none⟩ = false) :=
  ⟨⟨h.cell 0, h.cell 1, h.cell 2, h.cell 3, h.cell 4, h.cell 5, h.cell 6, h.cell 7, h.cell 8, h.cell 9, h.cell 10⟩, h.frozen 0, h.frozen 1, h.frozen 2, h.frozen 3, h.frozen 4, h.frozen 5, h.frozen 6, h.frozen 7, h.frozen 8, h.frozen 9, h.frozen 10⟩
/-- what the laws ask of an account's sizes -/
structure acctSmall (N : Nat) (a : AcctD) : Prop where
  h : (aH a).length ≤ N
  c : (aR a).2.2.1.length ≤ N
  s : (aR a).2.2.2.length ≤ N
  l : (aS a).length ≤ N
  r : ∀ x ∈ aS a, x.2.2.length ≤ N
/-- an account as it is given back -/
def acctOne (a : AcctD) (w : World) (e : Ending) (w' : World) : Prop := ∃ vh vc vs vl, e = .returned (.agg #[.string (aId a), .int .i64 (aLim a), .int .i64 (aPos a), .int .i64 (aMost a), .int .i64 (aSum a), vh, .int .i64 (aR a).1, .int .i64 (aR a).2.1, vc, vs, vl]) ∧ AcctR.mine w.heap.size w'.heap.size w' (aCells a vh vc vs vl) a ∧ Below w.heap.size w w'
/-- an account whose parts lie in intervals of their own -/
def AcctI (lo hi : Nat) (w : World) (vh vc vs vl : Value) (a : AcctD) : Prop := ∃ l1 h1 l2 h2 l3 h3, HoldsR.mine l1 h1 w [vh] (aH a) ∧ RingR.mine l2 h2 w [.int .i64 (aR a).1, .int .i64 (aR a).2.1, vc, vs] (aR a) ∧ SlotsR.mine l3 h3 w [vl] (aS a) ∧ (lo ≤ l1 ∧ h1 ≤ hi ∧ lo ≤ l2 ∧ h2 ≤ hi ∧ lo ≤ l3 ∧ h3 ≤ hi) ∧ (h1 ≤ l2 ∨ h2 ≤ l1) ∧ (h1 ≤ l3 ∨ h3 ≤ l1) ∧ (h2 ≤ l3 ∨ h3 ≤ l2)
set_option maxRecDepth 100000 in
theorem AcctI.mine {lo hi : Nat} {w : World} {vh vc vs vl : Value} {a : AcctD} (h : AcctI lo hi w vh vc vs vl a) : AcctR.mine lo hi w (aCells a vh vc vs vl) a := by
  obtain ⟨l1, h1, l2, h2, l3, h3, ⟨F, f1, f2, f3⟩, ⟨G, g1, g2, g3⟩, ⟨H, i1, i2, i3⟩, hb, d1, d2, d3⟩ := h
  refine acct_mine_of f1 g1 i1 f2 g2 i2 ⟨fun b hb hb' => ?_, fun b hb hb' => ?_, fun b hb hb' => ?_⟩ fun b hb => ?_
  · have := f3 b hb; have := g3 b hb'; omega
  · have := f3 b hb; have := i3 b hb'; omega
  · have := g3 b hb; have := i3 b hb'; omega
  · rcases hb with hb | hb | hb
    · have := f3 b hb; omega
    · have := g3 b hb; omega
    · have := i3 b hb; omega
set_option maxRecDepth 100000 in
theorem AcctI.below {lo hi B : Nat} {w w' : World} {vh vc vs vl : Value} {a : AcctD} (h : AcctI lo hi w vh vc vs vl a) (hb : Below B w w') (hB : hi ≤ B) : AcctI lo hi w' vh vc vs vl a := by
  obtain ⟨l1, h1, l2, h2, l3, h3, m1, m2, m3, hq, d⟩ := h
  exact ⟨l1, h1, l2, h2, l3, h3, m1.below hb (by omega), m2.below hb (by omega), m3.below hb (by omega), hq, d⟩
set_option maxRecDepth 100000 in
theorem AcctI.turned {lo hi lo' hi' : Nat} {w w' : World} {vh vc vs vl : Value} {a : AcctD} (h : AcctI lo hi w vh vc vs vl a) (ht : Turned lo' hi' w w') (h1 : hi ≤ lo' ∨ hi' ≤ lo) (h2 : hi ≤ w.heap.size) : AcctI lo hi w' vh vc vs vl a := by
  obtain ⟨l1, e1, l2, e2, l3, e3, m1, m2, m3, hq, d⟩ := h
  exact ⟨l1, e1, l2, e2, l3, e3, m1.turned ht (by omega) (by omega), m2.turned ht (by omega) (by omega), m3.turned ht (by omega) (by omega), hq, d⟩
set_option maxRecDepth 100000 in
theorem AcctI.mono {lo hi lo' hi' : Nat} {w : World} {vh vc vs vl : Value} {a : AcctD} (h : AcctI lo hi w vh vc vs vl a) (h1 : lo' ≤ lo) (h2 : hi ≤ hi') : AcctI lo' hi' w vh vc vs vl a := by
  obtain ⟨l1, e1, l2, e2, l3, e3, m1, m2, m3, hq, d⟩ := h
  exact ⟨l1, e1, l2, e2, l3, e3, m1, m2, m3, by omega, d⟩
set_option maxRecDepth 100000 in
theorem acctI_ivl {p0 p1 p2 p3 : Nat} {w : World} {a : AcctD} {vh vc vs vl : Value} (h1 : HoldsR.mine p0 p1 w [vh] (aH a)) (h2 : RingR.mine p1 p2 w [.int .i64 (aR a).1, .int .i64 (aR a).2.1, vc, vs] (aR a)) (h3 : SlotsR.mine p2 p3 w [vl] (aS a)) (h01 : p0 ≤ p1) (h12 : p1 ≤ p2) (h23 : p2 ≤ p3) : AcctI p0 p3 w vh vc vs vl a :=
  ⟨p0, p1, p1, p2, p2, p3, h1, h2, h3, by omega, .inl (Nat.le_refl _), .inl h12, .inl (Nat.le_refl _)⟩
/-- an account as it is given back, its parts in intervals -/
def acctOneI (a : AcctD) (w : World) (e : Ending) (w' : World) : Prop := ∃ vh vc vs vl, e = .returned (.agg #[.string (aId a), .int .i64 (aLim a), .int .i64 (aPos a), .int .i64 (aMost a), .int .i64 (aSum a), vh, .int .i64 (aR a).1, .int .i64 (aR a).2.1, vc, vs, vl]) ∧ AcctI w.heap.size w'.heap.size w' vh vc vs vl a ∧ Below w.heap.size w w'
set_option maxRecDepth 100000 in
theorem acctOneI.one {a : AcctD} {w : World} {e : Ending} {w' : World} (h : acctOneI a w e w') : acctOne a w e w' := by
  obtain ⟨vh, vc, vs, vl, he, hm, hb⟩ := h
  exact ⟨vh, vc, vs, vl, he, hm.mine, hb⟩
end Go.Proofs.YtkbakcnhhlmpkaaDoor
/- A law's account copied; no conditions. -/
set_option linter.unusedVariables false
namespace Go.Proofs.YtkbakcnhhlmpkaaDoor
open Go.ChangeShapes Go.WideShapes Go.ChangeAt Go.RowKit

end Go.Proofs.YtkbakcnhhlmpkaaDoor
/- Accounts: the law package's comparison and size; no conditions. -/
set_option linter.unusedVariables false
namespace Go.Proofs.YtkbakcnhhlmpkaaDoor
open Go.ChangeShapes Go.WideShapes Go.ChangeAt Go.RowKit

def acctSz (a : AcctD) : Nat := (aId a).size + holdsSz (aH a) + ((aR a).2.2.1.length + (aR a).2.2.2.length) + slotsSz (aS a)
/-- what an account that is given may be -/
structure acctBig (a : AcctD) : Prop where
  i : (aId a).size ≤ maxLen
  h : (aH a).length ≤ maxLen
  hi : ∀ x ∈ aH a, x.1.size ≤ maxLen
  c : (aR a).2.2.1.length ≤ maxLen
  s : (aR a).2.2.2.length ≤ maxLen
  l : (aS a).length ≤ maxLen
  li : ∀ x ∈ aS a, x.1.size ≤ maxLen ∧ x.2.1.size ≤ maxLen ∧ x.2.2.length ≤ maxLen
end Go.Proofs.YtkbakcnhhlmpkaaDoor
/- isDigit; the characters of a string of digits; no conditions. -/
set_option linter.unusedVariables false
namespace Go.Proofs.YtkbakcnhhlmpkaaDoor
open Go.ChangeShapes Go.WideShapes Go.ChangeAt Go.RowKit

/-- is the number of a character a digit's? -/
def runeDig (r : Int) : Bool := decide (48 ≤ r) && decide (r ≤ 57)
set_option maxRecDepth 100000 in
theorem isDigit_any (r : Int) (w : World) : Calls Tryd.prog 29 #[.int .i32 r] w fun e w' => e = .returned (.bool (runeDig r)) ∧ w = w' := by
  by_cases h0 : 48 ≤ r
  all_goals
    go_enter Tryd.func29, Tryd.ntmps29
    go_wp2
    go_ret
    exact ⟨by simp [runeDig]; omega, rfl⟩

set_option maxRecDepth 100000 in
/-- The character at a place: a digit there, or none. -/
theorem rune_dig (s : ByteArray) (pos : Nat) (h : pos < s.size) (hd : isDig s[pos] = true) : Utf8.decode s pos = (s[pos].toNat, 1) ∧ runeDig (s[pos].toNat : Int) = true := by
  have h1 := (isDig_iff _).1 hd
  exact ⟨decode_ascii s pos h (by omega), by simp [runeDig]; omega⟩
set_option maxRecDepth 100000 in
theorem rune_not (s : ByteArray) (pos : Nat) (h : pos < s.size) (hd : isDig s[pos] = false) : runeDig ((Utf8.decode s pos).1 : Int) = false := by
  have h1 := (isDig_no _).1 hd
  rcases Nat.lt_or_ge s[pos].toNat 128 with h2 | h2
  · rw [decode_ascii s pos h h2]; simp [runeDig]; omega
  · have := (decode_high s pos h h2).1; simp [runeDig]; omega

end Go.Proofs.YtkbakcnhhlmpkaaDoor
/- Digits: both functions tell whether a string is not empty and holds digits alone; no conditions. -/
set_option linter.unusedVariables false
namespace Go.Proofs.YtkbakcnhhlmpkaaDoor
open Go.ChangeShapes Go.WideShapes Go.ChangeAt Go.RowKit

end Go.Proofs.YtkbakcnhhlmpkaaDoor
/- Luhn, LuhnOk: what the two functions return is the check digit of the sum 'luSum'; no conditions. -/
set_option linter.unusedVariables false
namespace Go.Proofs.YtkbakcnhhlmpkaaDoor
open Go.ChangeShapes Go.WideShapes Go.ChangeAt Go.RowKit

/-- the digit of a byte -/
def dOf (c : UInt8) : Int := (c.toNat : Int) - 48
/-- a digit doubled, 9 taken off where it is greater than 9 -/
def twiceOf (d : Int) : Int := if 4 < d then 2 * d - 9 else 2 * d
/-- the Luhn sum: the last digit is doubled, and every second one before it -/
def luSum : List UInt8 → Int
  | [] => 0
  | c :: l => (if l.length % 2 = 0 then twiceOf (dOf c) else dOf c) + luSum l
def luVal (s : ByteArray) : Int := if digs s = true then (10 - luSum s.data.toList % 10) % 10 else -1

set_option maxRecDepth 100000 in
theorem twice_bd {d : Int} (h0 : 0 ≤ d) (h1 : d ≤ 9) : 0 ≤ twiceOf d ∧ twiceOf d ≤ 9 := by unfold twiceOf; split <;> omega
set_option maxRecDepth 100000 in
theorem drop_one (s : ByteArray) (k : Nat) (h : k < s.size) : s.data.toList.drop k = s[k] :: s.data.toList.drop (k + 1) :=
  List.drop_eq_getElem_cons (by simpa using h)
set_option maxRecDepth 100000 in
theorem drop_len (s : ByteArray) (k : Nat) : (s.data.toList.drop k).length = s.size - k := by simp
set_option maxRecDepth 100000 in
theorem luSum_bd {s : ByteArray} (hd : digs s = true) (k : Nat) : 0 ≤ luSum (s.data.toList.drop k) ∧ luSum (s.data.toList.drop k) ≤ 9 * ((s.size - k : Nat) : Int) := by
  generalize hn : s.size - k = n
  induction n generalizing k with
  | zero =>
    have : s.data.toList.drop k = [] := List.drop_eq_nil_of_le (by simp; omega)
    rw [this]; exact ⟨Int.le_refl _, Int.le_refl _⟩
  | succ n ih =>
    have hk : k < s.size := by omega
    have h1 := ih (k + 1) (by omega)
    have hg := digs_get hd k hk
    rw [drop_one s k hk]
    simp only [luSum]
    have ht := twice_bd (d := dOf s[k]) (by unfold dOf; omega) (by unfold dOf; omega)
    have hd0 : 0 ≤ dOf s[k] ∧ dOf s[k] ≤ 9 := by unfold dOf; omega
    split <;> omega
set_option maxRecDepth 100000 in
/-- one digit further -/
theorem luSum_even {s : ByteArray} (k : Nat) (hk : k < s.size) (he : (s.size - k) % 2 = 1) : luSum (s.data.toList.drop k) = twiceOf (dOf s[k]) + luSum (s.data.toList.drop (k + 1)) := by
  rw [drop_one s k hk]; simp only [luSum]; rw [if_pos (by rw [drop_len]; omega)]
set_option maxRecDepth 100000 in
theorem luSum_odd {s : ByteArray} (k : Nat) (hk : k < s.size) (he : (s.size - k) % 2 = 0) : luSum (s.data.toList.drop k) = dOf s[k] + luSum (s.data.toList.drop (k + 1)) := by
  rw [drop_one s k hk]; simp only [luSum]; rw [if_neg (by rw [drop_len]; omega)]

def parOf (s : ByteArray) (k : Nat) : Bool := decide ((s.size - k) % 2 = 1)
set_option maxRecDepth 100000 in
theorem par_next (s : ByteArray) (k : Nat) (h : k < s.size) : (!parOf s k) = parOf s (k + 1) := by
  unfold parOf
  rcases Nat.mod_two_eq_zero_or_one (s.size - k) with h1 | h1
  · rw [h1, show (s.size - (k + 1)) % 2 = 1 by omega]; rfl
  · rw [h1, show (s.size - (k + 1)) % 2 = 0 by omega]; rfl
set_option maxRecDepth 100000 in
theorem val_bool {a b : Bool} (h : a = b) : Value.bool a = Value.bool b := by rw [h]

set_option maxRecDepth 100000 in
set_option maxHeartbeats 800000 in
theorem specLuhn_any (s : ByteArray) (w : World) (hs : s.size ≤ 1048576) :
    Calls Tryd.prog 74 #[.string s] w fun e w' => e = .returned (.int .i64 (luVal s)) ∧ w = w' := by
  cases hd : digs s
  · have hv : luVal s = -1 := by simp [luVal, hd]
    rw [hv]
    go_enter Tryd.func74, Tryd.ntmps74
    go_wp2_with (go_at_call 73; refine (specDigits_any _ _ (by unfold maxLen; omega)).mono ?_; rintro e w1 ⟨rfl, rfl⟩)
    go_ret
    exact ⟨rfl, rfl⟩
  · have hv : luVal s = (10 - luSum s.data.toList % 10) % 10 := by simp [luVal, hd]
    rw [hv]
    have hD := Lib.hid hd
    clear hv
    have hpos := digs_pos hd
    go_enter Tryd.func74, Tryd.ntmps74
    go_wp2_with (go_at_call 73; refine (specDigits_any _ _ (by unfold maxLen; omega)).mono ?_; rintro e w1 ⟨rfl, rfl⟩)
    clear hd
    go_loop [3, 4, 5] (fun nv tv iv => ∃ k : Nat, k ≤ s.size ∧ iv = .int .i64 ((k : Int) - 1) ∧ tv = .bool (!parOf s k) ∧ nv = .int .i64 (luSum (s.data.toList.drop k) % 10)) (fun _ _ iv => (intOf iv + 1).toNat)
    case atStart => exact ⟨s.size, Nat.le_refl _, rfl, val_bool (by unfold parOf; simp), val_int (by rw [List.drop_eq_nil_of_le (by simp)]; rfl)⟩
    case round =>
      obtain ⟨j, hk, rfl, rfl, rfl⟩ := hrel
      cases j with
      | zero =>
        go_wp2
        go_ret
        exact ⟨ret_int (by omega), rfl⟩
      | succ k =>
        have hlt : k < s.size := by omega
        have hg := digs_get hD.out k hlt
        have hg1 : (48 : Int) ≤ (s[k].toNat : Int) := by omega
        have hg2 : (s[k].toNat : Int) ≤ 57 := by omega
        have hpn := Lib.hid (par_next s k hlt)
        have hpk := Lib.hid (show parOf s k = decide ((s.size - k) % 2 = 1) from rfl)
        rw [← par_next s k hlt]
        cases hp : parOf s k
        · have hstep := Lib.hid (luSum_odd k hlt (by have := of_decide_eq_false (hpk.out.symm.trans hp); omega))
          go_wp2
          go_round
          case rel => exact ⟨k, by omega, rfl, val_bool (by rw [hp]; rfl), val_int (by have := hstep.out; unfold dOf at this; omega)⟩
          case measure => simp [intOf] <;> omega
        · have hstep := Lib.hid (luSum_even k hlt (of_decide_eq_true (hpk.out.symm.trans hp)))
          by_cases h4 : (s[k].toNat : Int) ≤ 52
          · go_wp2
            go_round
            case rel => exact ⟨k, by omega, rfl, val_bool (by rw [hp]; rfl), val_int (by have := hstep.out; unfold dOf twiceOf at this; split at this <;> omega)⟩
            case measure => simp [intOf] <;> omega
          · go_wp2
            go_round
            case rel => exact ⟨k, by omega, rfl, val_bool (by rw [hp]; rfl), val_int (by have := hstep.out; unfold dOf twiceOf at this; split at this <;> omega)⟩
            case measure => simp [intOf] <;> omega
end Go.Proofs.YtkbakcnhhlmpkaaDoor
/- LuhnOk: both functions tell whether the last digit is the check digit of those before it; no conditions. -/
set_option linter.unusedVariables false
namespace Go.Proofs.YtkbakcnhhlmpkaaDoor
open Go.ChangeShapes Go.WideShapes Go.ChangeAt Go.RowKit

def initOf (s : ByteArray) : ByteArray := s.extract 0 (s.size - 1)
def luOk (s : ByteArray) : Bool := decide (2 ≤ s.size) && digs s && (luVal (initOf s) == dOf (s.data.toList.getLastD 0))

set_option maxRecDepth 100000 in
theorem luOk_eq (s : ByteArray) (hd : digs s = true) (h2 : ¬ s.size < 2) : luOk s = (luVal (s.extract 0 (s.size - 1)) == ((s[s.size - 1].toNat : Int) - 48)) := by
  have hl : s.data.toList.getLastD 0 = s[s.size - 1] := by
    have hne : s.data.toList ≠ [] := by
      intro h
      have h4 : s.data.toList.length = s.size := by simp
      rw [h] at h4
      simp only [List.length_nil] at h4
      omega
    rw [List.getLastD_eq_getLast?, List.getLast?_eq_some_getLast hne, Option.getD_some, List.getLast_eq_getElem]
    rfl
  have h3 : decide (2 ≤ s.size) = true := decide_eq_true (by omega)
  unfold luOk dOf initOf
  rw [hd, h3, hl]
  rfl
set_option maxRecDepth 100000 in
theorem bool_beq_comm (a b : Int) : (a == b) = (b == a) := by rw [Bool.eq_iff_iff]; simp only [beq_iff_eq]; exact eq_comm
set_option maxRecDepth 100000 in
theorem quiet_l {P : Program} {f : FuncId} {args : Array Value} {w : World} {n : Nat} {v : Value}
    (h : Calls P f args (w.drewN n) fun e w' => e = .returned v ∧ w.drewN n = w') : Calls P f args (w.drewN n) fun e w'' => e = .returned v ∧ ∃ m, w'' = w.drewN m :=
  h.mono fun _ _ ⟨he, hm⟩ => ⟨he, n, hm.symm⟩

set_option maxRecDepth 100000 in
set_option maxHeartbeats 800000 in
theorem specLuhnOk_any (s : ByteArray) (w : World) (hs : s.size ≤ 1048576) :
    Calls Tryd.prog 65 #[.string s] w fun e w' => e = .returned (.bool (luOk s)) ∧ Below w.heap.size w w' := by
  cases hd : digs s
  · go_enter Tryd.func65, Tryd.ntmps65
    go_wp2_with (go_at_call 73; refine (specDigits_any _ _ (by unfold maxLen; omega)).mono ?_; rintro e w1 ⟨rfl, rfl⟩)
    go_ret
    exact ⟨ret_bool (by simp [luOk, hd]), Below.refl _ _⟩
  · by_cases h2 : s.size < 2
    · go_enter Tryd.func65, Tryd.ntmps65
      go_wp2_with (go_at_call 73; refine (specDigits_any _ _ (by unfold maxLen; omega)).mono ?_; rintro e w1 ⟨rfl, rfl⟩)
      go_ret
      exact ⟨ret_bool (by simp [luOk]; omega), Below.refl _ _⟩
    · have hg := digs_get hd (s.size - 1) (by omega)
      go_enter Tryd.func65, Tryd.ntmps65
      go_wp2_with (go_at_call 73; refine (specDigits_any _ _ (by unfold maxLen; omega)).mono ?_; rintro e w1 ⟨rfl, rfl⟩)
      have e1 : IntKind.i64.wrap ((s.size : Int) - 1) = (s.size : Int) - 1 := IntWalk.i64_in _ (by omega)
      have e2 : ((s.size : Int) - 1).toNat = s.size - 1 := by omega
      have e3 : 0 ≤ (s.size : Int) - 1 := by omega
      have e4 : 1 ≤ (s.size : Int) := by omega
      have e5 : IntKind.i64.wrap (s[s.size - 1].toNat : Int) = (s[s.size - 1].toNat : Int) := IntWalk.i64_in _ (by omega)
      have e6 : IntKind.i64.wrap ((s[s.size - 1].toNat : Int) - 48) = (s[s.size - 1].toNat : Int) - 48 := IntWalk.i64_in _ (by omega)
      have e7 : IntKind.u8.wrap ((s[s.size - 1].toNat : Int) - 48) = (s[s.size - 1].toNat : Int) - 48 := IntWalk.u8_in _ (by omega)
      go_region_with ((go_at_call 74; refine (specLuhn_any _ _ (by simp <;> omega)).mono ?_; rintro e w' ⟨rfl, rfl⟩))
      all_goals
        go_wp2
        go_ret
        exact ⟨ret_bool (luOk_eq s hd h2).symm, (Below.refl _ _).drew⟩

end Go.Proofs.YtkbakcnhhlmpkaaDoor
/- AcctIdOk of the reference; no conditions. -/
set_option linter.unusedVariables false
namespace Go.Proofs.YtkbakcnhhlmpkaaDoor
open Go.ChangeShapes Go.WideShapes Go.ChangeAt Go.RowKit

def acctIdB (s : ByteArray) : Bool := decide (s.size ≤ 19) && luOk s
set_option maxRecDepth 100000 in
theorem specAcctIdOk_any (s : ByteArray) (w : World) (hs : s.size ≤ maxLen) :
    Calls Tryd.prog 50 #[.string s] w fun e w' => e = .returned (.bool (acctIdB s)) ∧ Below w.heap.size w w' := by
  by_cases h : s.size ≤ 19
  · have HI : Hid (acctIdB s = luOk s) := Lib.hid (by unfold acctIdB; rw [decide_eq_true h]; rfl)
    have HL := Lib.hid (fun w => specLuhnOk_any s w (by omega))
    have h' : (s.size : Int) ≤ 19 := by omega
    rw [HI.out]
    generalize luOk s = b at HL
    go_enter Tryd.func50, Tryd.ntmps50
    go_wp2_with fail
    refine (HL.out _).mono ?_
    rintro e w1 ⟨rfl, hb⟩
    go_wp2
    go_ret
    exact ⟨rfl, hb⟩
  · have HI : Hid (acctIdB s = false) := Lib.hid (by unfold acctIdB; rw [decide_eq_false h]; rfl)
    have h' : ¬ (s.size : Int) ≤ 19 := by omega
    rw [HI.out]
    go_enter Tryd.func50, Tryd.ntmps50
    go_wp2
    go_ret
    exact ⟨rfl, Below.refl _ _⟩
end Go.Proofs.YtkbakcnhhlmpkaaDoor
/- Live, LiveOnes, HoldDrop of the reference; no conditions. -/
set_option linter.unusedVariables false
namespace Go.Proofs.YtkbakcnhhlmpkaaDoor
open Go.ChangeShapes Go.WideShapes Go.ChangeAt Go.RowKit

end Go.Proofs.YtkbakcnhhlmpkaaDoor
/- Stored and LiveSum of the reference; no conditions. -/
set_option linter.unusedVariables false
namespace Go.Proofs.YtkbakcnhhlmpkaaDoor
open Go.ChangeShapes Go.WideShapes Go.ChangeAt Go.RowKit

set_option maxRecDepth 100000 in
theorem storedL_next {l : List HoldD} {i : Nat} {x : HoldD} (h : l[i]? = some x) : storedL (l.take (i + 1)) = satVal (storedL (l.take i)) x.2.1 := by
  obtain ⟨hi, rfl⟩ := List.getElem?_eq_some_iff.1 h
  unfold storedL
  rw [List.take_succ_eq_append_getElem hi, List.foldl_append]
  rfl
set_option maxRecDepth 100000 in
set_option maxHeartbeats 1600000 in
theorem specStored_any (hi : Nat) (v : Value) (l : List HoldD) (w : World) (hn : l.length ≤ 1048576) (h : HoldsR.rd hi w [v] l) (hh : hi ≤ w.heap.size) :
    Calls Tryd.prog 25 #[v] w fun e w' => e = .returned (.int .i64 (storedL l)) ∧ Below w.heap.size w w' := by
  obtain ⟨A, c, rfl, hc, h⟩ := holds_rd h
  have HR := Lib.hid h
  clear h
  go_enter Tryd.func25, Tryd.ntmps25
  go_wp2
  go_loopw [3, 8] (fun nv iv wr => ∃ i : Nat, i ≤ l.length ∧ iv = .int .i64 i ∧ nv = .int .i64 (storedL (l.take i)) ∧ Hid (Below w.heap.size w wr) ∧ w.heap.size ≤ wr.heap.size) (fun _ iv _ => l.length - (intOf iv).toNat)
  case atStart => exact ⟨0, Nat.zero_le _, rfl, rfl, Lib.hid (Below.refl _ _), Nat.le_refl _⟩
  case round =>
    obtain ⟨i, hi', rfl, rfl, HB, hz⟩ := hrel
    by_cases hin : i < l.length
    · obtain ⟨x, hx⟩ : ∃ x, l[i]? = some x := ⟨_, List.getElem?_eq_getElem hin⟩
      obtain ⟨b, off, rfl, hbl, c0, c1, c2⟩ := HR.out i x hx
      have HNX := Lib.hid (storedL_next hx)
      clear hx
      have c0 := (HB.out.cell (p := ⟨b, off + i * 3, none⟩) (show b < w.heap.size by omega)).trans c0
      have c1 := (HB.out.cell (p := ⟨b, off + i * 3 + 1, none⟩) (show b < w.heap.size by omega)).trans c1
      have c2 := (HB.out.cell (p := ⟨b, off + i * 3 + 2, none⟩) (show b < w.heap.size by omega)).trans c2
      have g1 : (i : Int) < (l.length : Int) := by omega
      have g2 : 0 ≤ (i : Int) := by omega
      have HSA := Lib.hid (fun W => specSat_any (storedL (l.take i)) x.2.1 W)
      have HB2 : Hid (Below w.heap.size w (wr.alloc (.cells #[.string x.1, .int .i64 x.2.1, .int .i64 x.2.2] 87))) := Lib.hid (HB.out.alloc hz _)
      go_wp2_with fail
      refine (HSA.out _).mono ?_
      rintro e w5 ⟨rfl, rfl⟩
      go_wp2
      go_roundw
      case rel => exact ⟨i + 1, by omega, by go_num, by rw [HNX.out], HB2, by simp; omega⟩
      case measure => simp [intOf] <;> omega
    · obtain rfl : i = l.length := by omega
      rw [List.take_length]
      go_wp2
      go_ret
      exact ⟨rfl, HB.out⟩
end Go.Proofs.YtkbakcnhhlmpkaaDoor
