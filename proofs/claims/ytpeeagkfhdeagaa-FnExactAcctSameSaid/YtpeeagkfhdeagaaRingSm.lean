/- l06Same of the reference: are two rings equal; no conditions. -/
import Derived.Test.YtpeeagkfhdeagaaRingS
import Derived.Test.YtpeeagkfhdeagaaRingT
import Derived.BigQuiet
import Derived.Deep.DeepCutAuto
set_option linter.unusedVariables false
namespace Go.Proofs.Ytpeeagkfhdeagaa
open Go.ChangeShapes Go.WideShapes Go.ChangeAt Go.RowKit

set_option maxRecDepth 100000 in
theorem take_next {l m : List Int} {i : Nat} {x : Int} (h1 : l[i]? = some x) (h2 : m[i]? = some x) (h : l.take i = m.take i) : l.take (i + 1) = m.take (i + 1) := by
  obtain ⟨a1, a2⟩ := List.getElem?_eq_some_iff.1 h1
  obtain ⟨b1, b2⟩ := List.getElem?_eq_some_iff.1 h2
  rw [List.take_succ_eq_append_getElem a1, List.take_succ_eq_append_getElem b1, h, a2, b2]
set_option maxRecDepth 100000 in
set_option maxHeartbeats 8000000 in
theorem specRingSame_any (hi : Nat) (vc vs vc' vs' : Value) (r q : RingD) (w : World) (h1 : rd .i64 hi w vc r.2.2.1) (h2 : rd .i64 hi w vs r.2.2.2) (h3 : rd .i64 hi w vc' q.2.2.1) (h4 : rd .i64 hi w vs' q.2.2.2) (hh : hi ≤ w.heap.size) (hc : r.2.2.1.length ≤ 1048576) (hs : r.2.2.2.length ≤ 1048576) :
    Calls Try.prog 17 #[.agg #[.int .i64 r.1, .int .i64 r.2.1, vc, vs], .agg #[.int .i64 q.1, .int .i64 q.2.1, vc', vs']] w fun e w' => e = .returned (.bool (decide (r = q))) ∧ Below w.heap.size w w' := by
  obtain ⟨sp, hd, cs, ss⟩ := r
  obtain ⟨sp', hd', cs', ss'⟩ := q
  simp only at h1 h2 h3 h4 hc hs ⊢
  obtain ⟨A1, c1, rfl, -⟩ := h1.form
  obtain ⟨A2, c2, rfl, -⟩ := h2.form
  obtain ⟨A3, c3, rfl, -⟩ := h3.form
  obtain ⟨A4, c4, rfl, -⟩ := h4.form
  have H1 := Lib.hid h1
  have H2 := Lib.hid h2
  have H3 := Lib.hid h3
  have H4 := Lib.hid h4
  clear h1 h2 h3 h4
  go_enter Try.func17, Try.ntmps17
  go_upto_region 1 with fail
  obtain ⟨W, hW⟩ : ∃ W, W = (w.alloc (.cells #[.int .i64 sp, .int .i64 hd, .slice A1 cs.length c1, .slice A2 ss.length c2] 33)).alloc (.cells #[.int .i64 sp', .int .i64 hd', .slice A3 cs'.length c3, .slice A4 ss'.length c4] 33) := ⟨_, rfl⟩
  have b0 : bk W w.heap.size 33 [.int .i64 sp, .int .i64 hd, .slice A1 cs.length c1, .slice A2 ss.length c2] := by rw [hW]; exact (bk.new w _ _).alloc _
  have b1 : bk W (w.heap.size + 1) 33 [.int .i64 sp', .int .i64 hd', .slice A3 cs'.length c3, .slice A4 ss'.length c4] := by rw [hW]; simpa using bk.new (w.alloc _) 33 [.int .i64 sp', .int .i64 hd', .slice A3 cs'.length c3, .slice A4 ss'.length c4]
  have HB : Hid (Below w.heap.size w W) := Lib.hid (by rw [hW]; exact ((Below.refl _ _).alloc (Nat.le_refl _) _).alloc (by simp) _)
  rw [← hW]
  clear hW
  obtain ⟨⟨p0, p1, p2, p3⟩, -⟩ := b0.cells
  obtain ⟨⟨q0, q1, q2, q3⟩, -⟩ := b1.cells
  clear b0 b1
  by_cases e1 : sp = sp'
  rotate_left
  · have n1 : (sp != sp') = true := by simpa using e1
    have HN : Hid (decide ((sp, hd, cs, ss) = (sp', hd', cs', ss')) = false) := Lib.hid (decide_eq_false fun e => by simp only [Prod.mk.injEq] at e; exact e1 e.1)
    clear e1
    go_wp2
    go_ret
    exact ⟨by rw [HN.out]; rfl, HB.out⟩
  subst e1
  by_cases e2 : hd = hd'
  rotate_left
  · have n1 : (hd != hd') = true := by simpa using e2
    have HN : Hid (decide ((sp, hd, cs, ss) = (sp, hd', cs', ss')) = false) := Lib.hid (decide_eq_false fun e => by simp only [Prod.mk.injEq] at e; exact e2 e.2.1)
    clear e2
    go_wp2
    go_ret
    exact ⟨by rw [HN.out]; rfl, HB.out⟩
  subst e2
  by_cases e3 : cs.length = cs'.length
  rotate_left
  · have n1 : ((cs.length : Int) != (cs'.length : Int)) = true := by simp; omega
    have HN : Hid (decide ((sp, hd, cs, ss) = (sp, hd, cs', ss')) = false) := Lib.hid (decide_eq_false fun e => by simp only [Prod.mk.injEq] at e; exact e3 (by rw [e.2.2.1]))
    clear e3
    go_wp2
    go_ret
    exact ⟨by rw [HN.out]; rfl, HB.out⟩
  have n3 : ((cs.length : Int) != (cs'.length : Int)) = false := by simp; omega
  have E3 := Lib.hid e3
  clear e3
  by_cases e4 : ss.length = ss'.length
  rotate_left
  · have n1 : ((ss.length : Int) != (ss'.length : Int)) = true := by simp; omega
    have HN : Hid (decide ((sp, hd, cs, ss) = (sp, hd, cs', ss')) = false) := Lib.hid (decide_eq_false fun e => by simp only [Prod.mk.injEq] at e; exact e4 (by rw [e.2.2.2]))
    clear e4
    go_wp2
    go_ret
    exact ⟨by rw [HN.out]; rfl, HB.out⟩
  have n4 : ((ss.length : Int) != (ss'.length : Int)) = false := by simp; omega
  have E4 := Lib.hid e4
  clear e4
  go_wp2
  clear n3 n4
  go_loopw [40] (fun iv wr => ∃ i k : Nat, i ≤ cs.length ∧ iv = .int .i64 i ∧ Hid (cs.take i = cs'.take i) ∧ wr = W.drewN k) (fun iv _ => cs.length - (intOf iv).toNat)
  case atStart => exact ⟨0, 0, Nat.zero_le _, rfl, Lib.hid rfl, rfl⟩
  case round =>
    obtain ⟨i, k, hi', rfl, HT, rfl⟩ := hrel
    by_cases hin : i < cs.length
    · obtain ⟨x, hx⟩ : ∃ x, cs[i]? = some x := ⟨_, List.getElem?_eq_getElem hin⟩
      obtain ⟨y, hy⟩ : ∃ y, cs'[i]? = some y := ⟨_, List.getElem?_eq_getElem (by rw [← E3.out]; exact hin)⟩
      obtain ⟨a1, o1, rfl, -, d1⟩ := ring_at (H1.out.below HB.out hh) hx
      obtain ⟨a3, o3, rfl, -, d3⟩ := ring_at (H3.out.below HB.out hh) hy
      have g1 : (i : Int) < (cs.length : Int) := by omega
      have g3 : (i : Int) < (cs'.length : Int) := by rw [← E3.out]; exact g1
      have g2 : 0 ≤ (i : Int) := by omega
      have HX := Lib.hid hx
      have HY := Lib.hid hy
      clear hx hy
      by_cases e : x = y
      · subst e
        have HN := Lib.hid (take_next HX.out HY.out HT.out)
        go_upto_region 6 with fail
        go_quiet (fail)
        go_wp2
        go_roundw
        case rel => exact ⟨i + 1, k + nq, by omega, by go_num, HN, by simp [World.drewN]⟩
        case measure => simp [intOf] <;> omega
      · have n1 : (x != y) = true := by simpa using e
        have HN : Hid (decide ((sp, hd, cs, ss) = (sp, hd, cs', ss')) = false) := Lib.hid (decide_eq_false fun e' => by
          simp only [Prod.mk.injEq] at e'
          have h5 := HX.out
          rw [e'.2.2.1, HY.out] at h5
          exact e (Option.some.inj h5).symm)
        clear e
        go_upto_region 6 with fail
        go_quiet (fail)
        go_wp2
        go_ret
        exact ⟨by rw [HN.out]; rfl, below_drew' (below_drew' HB.out k) nq⟩
    · obtain rfl : i = cs.length := by omega
      have HC : Hid (cs = cs') := Lib.hid (by have := HT.out; rwa [List.take_length, E3.out, List.take_length] at this)
      have g1 : ¬ (cs.length : Int) < (cs.length : Int) := by omega
      clear HT
      go_wp2
      go_loopw [58] (fun iv wr => ∃ i k : Nat, i ≤ ss.length ∧ iv = .int .i64 i ∧ Hid (ss.take i = ss'.take i) ∧ wr = W.drewN k) (fun iv _ => ss.length - (intOf iv).toNat)
      case atStart => exact ⟨0, k, Nat.zero_le _, rfl, Lib.hid rfl, rfl⟩
      case round =>
        obtain ⟨i, k, hi', rfl, HT, rfl⟩ := hrel
        by_cases hin : i < ss.length
        · obtain ⟨x, hx⟩ : ∃ x, ss[i]? = some x := ⟨_, List.getElem?_eq_getElem hin⟩
          obtain ⟨y, hy⟩ : ∃ y, ss'[i]? = some y := ⟨_, List.getElem?_eq_getElem (by rw [← E4.out]; exact hin)⟩
          obtain ⟨a1, o1, rfl, -, d1⟩ := ring_at (H2.out.below HB.out hh) hx
          obtain ⟨a3, o3, rfl, -, d3⟩ := ring_at (H4.out.below HB.out hh) hy
          have g1 : (i : Int) < (ss.length : Int) := by omega
          have g3 : (i : Int) < (ss'.length : Int) := by rw [← E4.out]; exact g1
          have g2 : 0 ≤ (i : Int) := by omega
          have HX := Lib.hid hx
          have HY := Lib.hid hy
          clear hx hy
          by_cases e : x = y
          · subst e
            have HN := Lib.hid (take_next HX.out HY.out HT.out)
            go_upto_region 12 with fail
            go_quiet (fail)
            go_wp2
            go_roundw
            case rel => exact ⟨i + 1, k + nq, by omega, by go_num, HN, by simp [World.drewN]⟩
            case measure => simp [intOf] <;> omega
          · have n1 : (x != y) = true := by simpa using e
            have HN : Hid (decide ((sp, hd, cs, ss) = (sp, hd, cs', ss')) = false) := Lib.hid (decide_eq_false fun e' => by
              simp only [Prod.mk.injEq] at e'
              have h5 := HX.out
              rw [e'.2.2.2, HY.out] at h5
              exact e (Option.some.inj h5).symm)
            clear e
            go_upto_region 12 with fail
            go_quiet (fail)
            go_wp2
            go_ret
            exact ⟨by rw [HN.out]; rfl, below_drew' (below_drew' HB.out k) nq⟩
        · obtain rfl : i = ss.length := by omega
          have HS : Hid (ss = ss') := Lib.hid (by have := HT.out; rwa [List.take_length, E4.out, List.take_length] at this)
          have HN : Hid (decide ((sp, hd, cs, ss) = (sp, hd, cs', ss')) = true) := Lib.hid (decide_eq_true (by rw [HC.out, HS.out]))
          go_wp2
          go_ret
          exact ⟨by rw [HN.out]; rfl, below_drew' HB.out k⟩
end Go.Proofs.Ytpeeagkfhdeagaa
