/- HoldPut of the reference; no conditions. -/
import Derived.Test.YtnjpcbmonipaoaaHoldK
import Derived.Test.YtnjpcbmonipaoaaHoldA
set_option linter.unusedVariables false
namespace Go.Proofs.Ytnjpcbmonipaoaa
open Go.ChangeShapes Go.WideShapes Go.ChangeAt Go.RowKit

/-- holds as they are given back, with a word -/
def holdsRes (l : List HoldD) (ok : Bool) (w : World) (e : Ending) (w' : World) : Prop := ∃ u, e = .returned (.tuple #[u, .bool ok]) ∧ HoldsR.mine w.heap.size w'.heap.size w' [u] l ∧ Below w.heap.size w w'
set_option maxRecDepth 100000 in
theorem putH_no {l : List HoldD} {h : HoldD} (hk : holdsOk l = false) : putH l h = ([], false) := by unfold putH; rw [hk]; rfl
set_option maxRecDepth 100000 in
theorem putH_not {l : List HoldD} {h : HoldD} (hk : holdsOk (insL l h) = false) : putH l h = ([], false) := by unfold putH; rw [hk, Bool.and_false]; rfl
set_option maxRecDepth 100000 in
theorem putH_yes {l : List HoldD} {h : HoldD} (h1 : holdsOk l = true) (hk : holdsOk (insL l h) = true) : putH l h = (insL l h, true) := by unfold putH; rw [h1, hk]; rfl
set_option maxRecDepth 100000 in
theorem putH_len (l : List HoldD) (h : HoldD) : (putH l h).1.length ≤ 4 := by
  unfold putH
  split
  · rename_i h1
    simp only [Bool.and_eq_true] at h1
    have h2 := h1.2
    unfold holdsOk at h2
    simp only [Bool.and_eq_true, decide_eq_true_eq] at h2
    exact h2.2
  · exact Nat.zero_le _
def insTo (l : List HoldD) (h : HoldD) (i : Nat) : List HoldD × Bool := (l.take i).foldl (insOne h) ([], false)
set_option maxRecDepth 100000 in
theorem insTo_next {l : List HoldD} {h x : HoldD} {i : Nat} (hx : l[i]? = some x) : insTo l h (i + 1) = insOne h (insTo l h i) x := by
  obtain ⟨hi, rfl⟩ := List.getElem?_eq_some_iff.1 hx
  unfold insTo
  rw [List.take_succ_eq_append_getElem hi, List.foldl_append]; rfl
set_option maxRecDepth 100000 in
theorem insTo_end (l : List HoldD) (h : HoldD) : insL l h = if (insTo l h l.length).2 = true then (insTo l h l.length).1 else (insTo l h l.length).1 ++ [h] := by
  unfold insL insTo
  rw [List.take_length]

set_option maxRecDepth 100000 in
set_option maxHeartbeats 6400000 in
theorem specHoldPut_any (hi : Nat) (v : Value) (l : List HoldD) (h : HoldD) (w : World) (hn : l.length ≤ 1048576) (hs : ∀ x ∈ l, x.1.size ≤ maxLen) (hhs : h.1.size ≤ maxLen) (hr : HoldsR.rd hi w [v] l) (hh : hi ≤ w.heap.size) :
    Calls Try.prog 26 #[v, .agg #[.string h.1, .int .i64 h.2.1, .int .i64 h.2.2]] w (holdsRes (putH l h).1 (putH l h).2 w) := by
  have HOK := Lib.hid (fun W (hW : Below w.heap.size w W) => specHoldsOk_any hi v l W hn hs (Rep.below (R := HoldsR) hr hW hh) (Nat.le_trans hh hW.size))
  obtain ⟨A, c, rfl, hc, hr⟩ := holds_rd hr
  have HR := Lib.hid hr
  have HS := Lib.hid hs
  have HHS := Lib.hid hhs
  have HNO : Hid (holdsOk l = false → putH l h = ([], false)) := Lib.hid putH_no
  have HYES := Lib.hid (fun h1 => @putH_yes l h h1)
  have HNOT := Lib.hid (@putH_not l h)
  have HL4 : Hid (holdsOk l = true → l.length ≤ 4) := Lib.hid (fun h1 => by unfold holdsOk at h1; simp only [Bool.and_eq_true, decide_eq_true_eq] at h1; exact h1.2)
  clear hr hs
  generalize holdsOk l = ok at HOK HNO HYES HL4
  go_enter Try.func26, Try.ntmps26
  go_upto_region 1 with fail
  obtain ⟨W, hW⟩ : ∃ W, W = w.alloc (.cells #[.string h.1, .int .i64 h.2.1, .int .i64 h.2.2] 27) := ⟨_, rfl⟩
  have b0 : bk W w.heap.size 27 [.string h.1, .int .i64 h.2.1, .int .i64 h.2.2] := by rw [hW]; exact bk.new w _ _
  have HB0 : Hid (Below w.heap.size w W) := Lib.hid (by rw [hW]; exact (Below.refl _ _).alloc (Nat.le_refl _) _)
  rw [← hW]
  clear hW
  have z0 := b0.lt
  go_wp2_with fail
  refine (HOK.out W HB0.out).mono ?_
  rintro e w1 ⟨rfl, hb1⟩
  have HB1 : Hid (Below w.heap.size w w1) := Lib.hid (HB0.out.trans (hb1.mono (by omega)))
  have z1 := hb1.size
  have HK1 := Lib.hid (b0.below hb1 z0)
  clear hb1 HB0 b0
  cases ok
  · go_wp2
    refine bodyPost_ret (v := .tuple #[.slice none 0 0, .bool false]) (by simp [results, Try.results26, go_sem]) rfl ?_
    rw [HNO.out trivial]
    exact ⟨_, rfl, holds_none _ _ _, HB1.out⟩
  go_upto_region 4 with fail
  obtain ⟨W2, hW2⟩ : ∃ W2, W2 = w1.alloc (.cells #[] 27) := ⟨_, rfl⟩
  have HO2 : Hid (owE 27 3 hCells (w.heap.size + 1) W2 (.slice (some ⟨w1.heap.size, 0, none⟩) 0 0) []) := Lib.hid (by rw [hW2]; exact owE_empty _ _ _ _ _ (by omega))
  have HB2 : Hid (Below w.heap.size w W2) := Lib.hid (by rw [hW2]; exact HB1.out.alloc (by omega) _)
  have HK2 : Hid (bk W2 w.heap.size 27 [.string h.1, .int .i64 h.2.1, .int .i64 h.2.2]) := Lib.hid (by rw [hW2]; exact HK1.out.alloc _)
  have z2 : w1.heap.size < W2.heap.size := by rw [hW2]; simp
  rw [← hW2]
  clear hW2 HB1 HK1
  go_wp2
  go_loopw [6, 7, 16] (fun ov dv iv wr => ∃ (i : Nat) (A' : Option Addr) (c' : Nat) (s : List HoldD) (d : Bool), i ≤ l.length ∧ iv = .int .i64 i ∧ ov = .slice A' s.length c' ∧ dv = .bool d ∧ s.length ≤ 2 * i ∧ Hid (insTo l h i = (s, d)) ∧ Hid (∀ x ∈ s, x.1.size ≤ maxLen) ∧ Hid (owE 27 3 hCells (w.heap.size + 1) wr (.slice A' s.length c') s) ∧ Hid (bk wr w.heap.size 27 [.string h.1, .int .i64 h.2.1, .int .i64 h.2.2]) ∧ Hid (Below w.heap.size w wr) ∧ w.heap.size < wr.heap.size) (fun _ _ iv _ => l.length - (intOf iv).toNat)
  case atStart => exact ⟨0, _, _, [], false, Nat.zero_le _, rfl, rfl, rfl, Nat.zero_le _, Lib.hid rfl, Lib.hid (by simp), HO2, HK2, HB2, by omega⟩
  case round =>
    obtain ⟨i, A', c', s, d, hi', rfl, rfl, rfl, hsl, HI, HSS, HO, HK, HB, hz⟩ := hrel
    by_cases hin : i < l.length
    · obtain ⟨x, hx⟩ : ∃ x, l[i]? = some x := ⟨_, List.getElem?_eq_getElem hin⟩
      obtain ⟨b, off, rfl, hbl, c0, c1, c2⟩ := HR.out i x hx
      have c0 := (HB.out.cell (p := ⟨b, off + i * 3, none⟩) (show b < w.heap.size by omega)).trans c0
      have c1 := (HB.out.cell (p := ⟨b, off + i * 3 + 1, none⟩) (show b < w.heap.size by omega)).trans c1
      have c2 := (HB.out.cell (p := ⟨b, off + i * 3 + 2, none⟩) (show b < w.heap.size by omega)).trans c2
      have g1 : (i : Int) < (l.length : Int) := by omega
      have g2 : 0 ≤ (i : Int) := by omega
      have HXS := Lib.hid (HS.out x (List.mem_of_getElem? hx))
      have HIN : Hid (insTo l h (i + 1) = insOne h (s, d) x) := Lib.hid (by rw [insTo_next hx, HI.out])
      clear hx
      go_upto_region 8 with fail
      obtain ⟨W3, hW3⟩ : ∃ W3, W3 = wr.alloc (.cells #[.string x.1, .int .i64 x.2.1, .int .i64 x.2.2] 27) := ⟨_, rfl⟩
      have HO3 : Hid (owE 27 3 hCells (w.heap.size + 1) W3 (.slice A' s.length c') s) := Lib.hid (by rw [hW3]; exact HO.out.alloc _)
      have HK3 : Hid (bk W3 w.heap.size 27 [.string h.1, .int .i64 h.2.1, .int .i64 h.2.2]) := Lib.hid (by rw [hW3]; exact HK.out.alloc _)
      have HX3 : Hid (bk W3 wr.heap.size 27 [.string x.1, .int .i64 x.2.1, .int .i64 x.2.2]) := Lib.hid (by rw [hW3]; exact bk.new wr _ _)
      have HB3 : Hid (Below w.heap.size w W3) := Lib.hid (by rw [hW3]; exact HB.out.alloc (by omega) _)
      have HAP : Hid (∀ g, (Value.slice A' s.length c').ownBlock = some g → w.heap.size < g ∧ g < wr.heap.size) := Lib.hid (fun g hg => by have := HO.out.lt g hg; omega)
      have z3 : wr.heap.size < W3.heap.size := by rw [hW3]; simp
      rw [← hW3]
      clear hW3 HO HK HB c0 c1 c2
      obtain ⟨p0, p1, p2⟩ := HK3.out.cells3
      obtain ⟨q0, q1, q2⟩ := HX3.out.cells3
      have hl2 : l.length ≤ 1048576 := hn
      cases d
      · cases hbl : Op.bytesLess x.1.toList h.1.toList
        · have HSB := Lib.hid hbl
          go_wp2_with (at_builtin; refine app_elem hCells 3 (fun _ => rfl) (by decide) hCells_one 33 27 #[.string ⟨#[]⟩, .int .i64 0, .int .i64 0] 32 Try.underlying33 infoHold rfl _ _ rfl (by rfl) (w.heap.size + 1) W3 _ s h _ _ (by rfl) (by rfl) (by rfl) (by simp) HO3.out (by unfold maxLen; omega) (by omega) (by first | omega | (simp; omega)) ?_)
          intro A5 c5 w5 hown5 hc5 hg5 hlies5
          have z5 : W3.heap.size + 1 ≤ w5.heap.size := by have := hg5.size; simpa using this
          have HK5 : Hid (bk w5 w.heap.size 27 [.string h.1, .int .i64 h.2.1, .int .i64 h.2.2]) := Lib.hid ((HK3.out.alloc _).grown hg5 (fun e => by have := HAP.out _ e; omega))
          have HX5 : Hid (bk w5 wr.heap.size 27 [.string x.1, .int .i64 x.2.1, .int .i64 x.2.2]) := Lib.hid ((HX3.out.alloc _).grown hg5 (fun e => by have := HAP.out _ e; omega))
          have HB5 : Hid (Below w.heap.size w w5) := Lib.hid ((HB3.out.alloc (by omega) _).grown hg5 (by simp; omega) (fun g hg' => by have := HAP.out g hg'; omega))
          obtain ⟨s5, hs5⟩ : ∃ s5, s5 = s ++ [h] := ⟨_, rfl⟩
          have hl5 : s.length + 1 = s5.length := by rw [hs5]; simp
          rw [← hs5] at hown5
          have HS5 : Hid (∀ y ∈ s5, y.1.size ≤ maxLen) := Lib.hid (fun y hy => by rw [hs5] at hy; exact (List.mem_append.1 hy).elim (HSS.out y) (fun hy => by rw [List.mem_singleton.1 hy]; exact HHS.out))
          have hsl5 : s5.length ≤ 2 * i + 1 := by omega
          rw [hl5] at hown5 ⊢
          have HO5 := Lib.hid hown5
          have HQQ := Lib.hid hs5
          clear hown5 hg5 hlies5 p0 p1 p2 q0 q1 q2 hs5 hl5
          obtain ⟨p0, p1, p2⟩ := HK5.out.cells3
          obtain ⟨q0, q1, q2⟩ := HX5.out.cells3
          go_upto_region 11 with fail
          clear hbl
          by_cases he : x.1 = h.1
          · have hel : x.1.toList = h.1.toList := by rw [he]
            have HEQ : Hid (x.1 = h.1) := Lib.hid he
            clear he
            go_wp2
            go_roundw
            case rel => exact ⟨i + 1, A5, c5, s5, true, by omega, by go_num, rfl, rfl, by omega, Lib.hid (by rw [HIN.out]; rw [HQQ.out]; unfold insOne strLt; rw [HSB.out]; simp [HEQ.out]), HS5, HO5, HK5, HB5, by omega⟩
            case measure => simp [intOf] <;> omega
          · have hel : ¬ x.1.toList = h.1.toList := fun e => he (str_eq_list.1 e)
            have hel2 : (x.1.toList == h.1.toList) = false := by simpa using hel
            have HEQ : Hid (¬ x.1 = h.1) := Lib.hid he
            clear he
            go_wp2_with (at_builtin; refine app_elem hCells 3 (fun _ => rfl) (by decide) hCells_one 33 27 #[.string ⟨#[]⟩, .int .i64 0, .int .i64 0] 32 Try.underlying33 infoHold rfl _ _ rfl (by rfl) (w.heap.size + 1) w5 _ s5 x _ _ (by rfl) (by rfl) (by rfl) (by simp) HO5.out (by unfold maxLen; omega) (by omega) (by first | omega | (simp; omega)) ?_)
            intro A9 c9 w9 hown9 hc9 hg9 hlies9
            have z9 : w5.heap.size + 1 ≤ w9.heap.size := by have := hg9.size; simpa using this
            have HK9 : Hid (bk w9 w.heap.size 27 [.string h.1, .int .i64 h.2.1, .int .i64 h.2.2]) := Lib.hid ((HK5.out.alloc _).grown hg9 (fun e => by have := HO5.out.lt _ e; omega))
            have HB9 : Hid (Below w.heap.size w w9) := Lib.hid ((HB5.out.alloc (by omega) _).grown hg9 (by simp; omega) (fun g hg' => by have := HO5.out.lt g hg'; omega))
            have HS9 : Hid (∀ y ∈ s5 ++ [x], y.1.size ≤ maxLen) := Lib.hid (fun y hy => (List.mem_append.1 hy).elim (HS5.out y) (fun hy => by rw [List.mem_singleton.1 hy]; exact HXS.out))
            have HO9 := Lib.hid hown9
            clear hown9 hg9 hlies9
            go_wp2
            go_roundw
            case rel => exact ⟨i + 1, A9, c9, s5 ++ [x], true, by omega, by go_num, by simp, rfl, by simp; omega, Lib.hid (by rw [HIN.out]; rw [HQQ.out]; unfold insOne strLt; rw [HSB.out]; simp [HEQ.out]), HS9, Lib.hid (by simpa using HO9.out), HK9, HB9, by omega⟩
            case measure => simp [intOf] <;> omega
        · have HSB := Lib.hid hbl
          go_upto_region 11 with fail
          clear hbl
          by_cases he : x.1 = h.1
          · have hel : x.1.toList = h.1.toList := by rw [he]
            have HEQ : Hid (x.1 = h.1) := Lib.hid he
            clear he
            go_wp2
            go_roundw
            case rel => exact ⟨i + 1, A', c', s, false, by omega, by go_num, rfl, rfl, by omega, Lib.hid (by rw [HIN.out]; unfold insOne strLt; rw [HSB.out]; simp [HEQ.out]), HSS, HO3, HK3, HB3, by omega⟩
            case measure => simp [intOf] <;> omega
          · have hel : ¬ x.1.toList = h.1.toList := fun e => he (str_eq_list.1 e)
            have hel2 : (x.1.toList == h.1.toList) = false := by simpa using hel
            have HEQ : Hid (¬ x.1 = h.1) := Lib.hid he
            clear he
            go_wp2_with (at_builtin; refine app_elem hCells 3 (fun _ => rfl) (by decide) hCells_one 33 27 #[.string ⟨#[]⟩, .int .i64 0, .int .i64 0] 32 Try.underlying33 infoHold rfl _ _ rfl (by rfl) (w.heap.size + 1) W3 _ s x _ _ (by rfl) (by rfl) (by rfl) (by simp) HO3.out (by unfold maxLen; omega) (by omega) (by first | omega | (simp; omega)) ?_)
            intro A9 c9 w9 hown9 hc9 hg9 hlies9
            have z9 : W3.heap.size + 1 ≤ w9.heap.size := by have := hg9.size; simpa using this
            have HK9 : Hid (bk w9 w.heap.size 27 [.string h.1, .int .i64 h.2.1, .int .i64 h.2.2]) := Lib.hid ((HK3.out.alloc _).grown hg9 (fun e => by have := HO3.out.lt _ e; omega))
            have HB9 : Hid (Below w.heap.size w w9) := Lib.hid ((HB3.out.alloc (by omega) _).grown hg9 (by simp; omega) (fun g hg' => by have := HO3.out.lt g hg'; omega))
            have HS9 : Hid (∀ y ∈ s ++ [x], y.1.size ≤ maxLen) := Lib.hid (fun y hy => (List.mem_append.1 hy).elim (HSS.out y) (fun hy => by rw [List.mem_singleton.1 hy]; exact HXS.out))
            have HO9 := Lib.hid hown9
            clear hown9 hg9 hlies9
            go_wp2
            go_roundw
            case rel => exact ⟨i + 1, A9, c9, s ++ [x], false, by omega, by go_num, by simp, rfl, by simp; omega, Lib.hid (by rw [HIN.out]; unfold insOne strLt; rw [HSB.out]; simp [HEQ.out]), HS9, Lib.hid (by simpa using HO9.out), HK9, HB9, by omega⟩
            case measure => simp [intOf] <;> omega
      · go_upto_region 11 with fail
        by_cases he : x.1 = h.1
        · have hel : x.1.toList = h.1.toList := by rw [he]
          have HEQ : Hid (x.1 = h.1) := Lib.hid he
          clear he
          go_wp2
          go_roundw
          case rel => exact ⟨i + 1, A', c', s, true, by omega, by go_num, rfl, rfl, by omega, Lib.hid (by rw [HIN.out]; unfold insOne strLt; simp [HEQ.out]), HSS, HO3, HK3, HB3, by omega⟩
          case measure => simp [intOf] <;> omega
        · have hel : ¬ x.1.toList = h.1.toList := fun e => he (str_eq_list.1 e)
          have hel2 : (x.1.toList == h.1.toList) = false := by simpa using hel
          have HEQ : Hid (¬ x.1 = h.1) := Lib.hid he
          clear he
          go_wp2_with (at_builtin; refine app_elem hCells 3 (fun _ => rfl) (by decide) hCells_one 33 27 #[.string ⟨#[]⟩, .int .i64 0, .int .i64 0] 32 Try.underlying33 infoHold rfl _ _ rfl (by rfl) (w.heap.size + 1) W3 _ s x _ _ (by rfl) (by rfl) (by rfl) (by simp) HO3.out (by unfold maxLen; omega) (by omega) (by first | omega | (simp; omega)) ?_)
          intro A9 c9 w9 hown9 hc9 hg9 hlies9
          have z9 : W3.heap.size + 1 ≤ w9.heap.size := by have := hg9.size; simpa using this
          have HK9 : Hid (bk w9 w.heap.size 27 [.string h.1, .int .i64 h.2.1, .int .i64 h.2.2]) := Lib.hid ((HK3.out.alloc _).grown hg9 (fun e => by have := HO3.out.lt _ e; omega))
          have HB9 : Hid (Below w.heap.size w w9) := Lib.hid ((HB3.out.alloc (by omega) _).grown hg9 (by simp; omega) (fun g hg' => by have := HO3.out.lt g hg'; omega))
          have HS9 : Hid (∀ y ∈ s ++ [x], y.1.size ≤ maxLen) := Lib.hid (fun y hy => (List.mem_append.1 hy).elim (HSS.out y) (fun hy => by rw [List.mem_singleton.1 hy]; exact HXS.out))
          have HO9 := Lib.hid hown9
          clear hown9 hg9 hlies9
          go_wp2
          go_roundw
          case rel => exact ⟨i + 1, A9, c9, s ++ [x], true, by omega, by go_num, by simp, rfl, by simp; omega, Lib.hid (by rw [HIN.out]; unfold insOne strLt; simp [HEQ.out]), HS9, Lib.hid (by simpa using HO9.out), HK9, HB9, by omega⟩
          case measure => simp [intOf] <;> omega
    · obtain rfl : i = l.length := by omega
      have hl4 : l.length ≤ 4 := HL4.out trivial
      cases d
      · obtain ⟨p0, p1, p2⟩ := HK.out.cells3
        go_wp2_with (at_builtin; refine app_elem hCells 3 (fun _ => rfl) (by decide) hCells_one 33 27 #[.string ⟨#[]⟩, .int .i64 0, .int .i64 0] 32 Try.underlying33 infoHold rfl _ _ rfl (by rfl) (w.heap.size + 1) wr _ s h _ _ (by rfl) (by rfl) (by rfl) (by simp) HO.out (by unfold maxLen; omega) (by omega) (by first | omega | (simp; omega)) ?_)
        intro A5 c5 w5 hown5 hc5 hg5 hlies5
        have z5 : wr.heap.size + 1 ≤ w5.heap.size := by have := hg5.size; simpa using this
        have HB5 : Hid (Below w.heap.size w w5) := Lib.hid ((HB.out.alloc (by omega) _).grown hg5 (by simp; omega) (fun g hg' => by have := HO.out.lt g hg'; omega))
        obtain ⟨s5, hs5⟩ : ∃ s5, s5 = s ++ [h] := ⟨_, rfl⟩
        have hl5 : s.length + 1 = s5.length := by rw [hs5]; simp
        rw [← hs5] at hown5
        have HS5 : Hid (∀ y ∈ s5, y.1.size ≤ maxLen) := Lib.hid (fun y hy => by rw [hs5] at hy; exact (List.mem_append.1 hy).elim (HSS.out y) (fun hy => by rw [List.mem_singleton.1 hy]; exact HHS.out))
        have HIL : Hid (insL l h = s5) := Lib.hid (by rw [insTo_end, HI.out, hs5]; rfl)
        have hsl5 : s5.length ≤ 9 := by omega
        rw [hl5] at hown5 ⊢
        have HO5 := Lib.hid hown5
        clear hown5 hg5 hlies5 p0 p1 p2 hs5 hl5
        have HM := Lib.hid (owE_holds HO5.out)
        have HQ := Lib.hid (fun W' (hW' : Below w5.heap.size w5 W') => specHoldsOk_any w5.heap.size _ s5 W' (by omega) HS5.out (Rep.below (R := HoldsR) HM.out.rd hW' (Nat.le_refl _)) hW'.size)
        have HNOTS := HNOT
        rw [HIL.out] at HNOTS HYES
        generalize holdsOk s5 = ok2 at HQ HNOTS HYES
        go_wp2_with fail
        refine (HQ.out w5 (Below.refl _ _)).mono ?_
        rintro e w9 ⟨rfl, hb9⟩
        have HB9 : Hid (Below w.heap.size w w9) := Lib.hid (HB5.out.trans (hb9.mono (by omega)))
        have HM9 := Lib.hid (HM.out.below hb9 (Nat.le_refl _))
        have z9 := hb9.size
        clear hb9
        cases ok2
        · go_wp2
          refine bodyPost_ret (v := .tuple #[.slice none 0 0, .bool false]) (by simp [results, Try.results26, go_sem]) rfl ?_
          rw [HNOTS.out trivial]
          exact ⟨_, rfl, holds_none _ _ _, HB9.out⟩
        · go_wp2
          refine bodyPost_ret (v := .tuple #[.slice A5 s5.length c5, .bool true]) (by simp [results, Try.results26, go_sem]) rfl ?_
          rw [HYES.out trivial trivial]
          exact ⟨_, rfl, HM9.out.mono (by omega) (by omega), HB9.out⟩
      · have HIL : Hid (insL l h = s) := Lib.hid (by rw [insTo_end, HI.out]; rfl)
        have HM := Lib.hid (owE_holds HO.out)
        have HQ := Lib.hid (fun W' (hW' : Below wr.heap.size wr W') => specHoldsOk_any wr.heap.size _ s W' (by omega) HSS.out (Rep.below (R := HoldsR) HM.out.rd hW' (Nat.le_refl _)) hW'.size)
        have HNOTS := HNOT
        rw [HIL.out] at HNOTS HYES
        generalize holdsOk s = ok2 at HQ HNOTS HYES
        go_wp2_with fail
        refine (HQ.out wr (Below.refl _ _)).mono ?_
        rintro e w9 ⟨rfl, hb9⟩
        have HB9 : Hid (Below w.heap.size w w9) := Lib.hid (HB.out.trans (hb9.mono (by omega)))
        have HM9 := Lib.hid (HM.out.below hb9 (Nat.le_refl _))
        have z9 := hb9.size
        clear hb9
        cases ok2
        · go_wp2
          refine bodyPost_ret (v := .tuple #[.slice none 0 0, .bool false]) (by simp [results, Try.results26, go_sem]) rfl ?_
          rw [HNOTS.out trivial]
          exact ⟨_, rfl, holds_none _ _ _, HB9.out⟩
        · go_wp2
          refine bodyPost_ret (v := .tuple #[.slice A' s.length c', .bool true]) (by simp [results, Try.results26, go_sem]) rfl ?_
          rw [HYES.out trivial trivial]
          exact ⟨_, rfl, HM9.out.mono (by omega) (by omega), HB9.out⟩
end Go.Proofs.Ytnjpcbmonipaoaa
