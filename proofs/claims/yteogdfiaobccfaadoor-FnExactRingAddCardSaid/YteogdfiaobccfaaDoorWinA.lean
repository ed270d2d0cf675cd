/- windowAt of the program; no conditions. -/
import Derived.Test.YteogdfiaobccfaaDoorWin
import Derived.Deep.RegionLaw
set_option linter.unusedVariables false
namespace Go.Proofs.YteogdfiaobccfaaDoor
open Go.ChangeShapes Go.WideShapes Go.ChangeAt Go.RowKit

set_option maxRecDepth 100000 in
theorem zip_at {cs ss : List Int} {i : Nat} (h1 : i < cs.length) (h2 : i < ss.length) : (cs.zip ss)[i]? = some (cs.getD i 0, ss.getD i 0) := by
  rw [List.getElem?_zip_eq_some]
  exact ⟨by show cs[i]? = some (cs.getD i 0); rw [List.getD_eq_getElem?_getD, List.getElem?_eq_getElem h1]; rfl, by show ss[i]? = some (ss.getD i 0); rw [List.getD_eq_getElem?_getD, List.getElem?_eq_getElem h2]; rfl⟩
set_option maxRecDepth 100000 in
set_option maxHeartbeats 4000000 in
theorem implWindow_any (hi : Nat) (vc vs : Value) (r : RingD) (now : Int) (w : World) (h1 : rd .i64 hi w vc r.2.2.1) (h2 : rd .i64 hi w vs r.2.2.2) (hh : hi ≤ w.heap.size) (hok : ringOk r = true) (hti : timeB now = true) :
    Calls Tryd.prog 30 #[.agg #[.int .i64 r.1, .int .i64 r.2.1, vc, vs], .int .i64 now] w fun e w' => ∃ p v, e = .returned (.pointer (some ⟨p, 0, none⟩)) ∧ Win w.heap.size w' p r.1 (winHead r.1 r.2.1 now) v (winRoll r.1 r.2.1 now (r.2.2.1.zip r.2.2.2)) ∧ Below w.heap.size w w' := by
  obtain ⟨o1, o2, o3, o4, o5, o6, o7⟩ := ringOk_len hok
  obtain ⟨n3, n4⟩ : 0 ≤ now ∧ now ≤ 1000000000 := by simpa [timeB, inB] using hti
  obtain ⟨sp, hd, cs, ss⟩ := r
  simp only at h1 h2 o1 o2 o3 o4 o5 o6 o7 ⊢
  obtain ⟨A1, c1, rfl, -⟩ := h1.form
  obtain ⟨A2, c2, rfl, -⟩ := h2.form
  obtain ⟨a1, e1, rfl, -, -⟩ := ring_at h1 (List.getElem?_eq_getElem (show 0 < cs.length by omega))
  obtain ⟨a2, e2, rfl, -, -⟩ := ring_at h2 (List.getElem?_eq_getElem (show 0 < ss.length by omega))
  have HC := Lib.hid h1
  have HS := Lib.hid h2
  have HO5 := Lib.hid o5
  obtain ⟨zl, hzl⟩ : ∃ zl, zl = cs.zip ss := ⟨_, rfl⟩
  have hzn : zl.length = cs.length := by rw [hzl, List.length_zip, o5, Nat.min_self]
  have HZA : Hid (∀ i, i < cs.length → zl[i]? = some (cs.getD i 0, ss.getD i 0)) := Lib.hid fun i hi => by rw [hzl]; exact zip_at hi (by omega)
  rw [← hzl]
  have HZN := Lib.hid hzn
  clear h1 h2 hok hti hzl hzn o5
  go_enter Tryd.func30, Tryd.ntmps30
  go_wp2_with fail
  obtain ⟨W, hW⟩ : ∃ W, W = (w.alloc (.cells #[.int .i64 sp, .int .i64 hd, .slice (some ⟨a1, e1, none⟩) cs.length c1, .slice (some ⟨a2, e2, none⟩) ss.length c2] 27)).alloc (.cells #[.int .i64 sp, .int .i64 hd, .slice none 0 0] 68) := ⟨_, rfl⟩
  have b0 : bk W w.heap.size 27 [.int .i64 sp, .int .i64 hd, .slice (some ⟨a1, e1, none⟩) cs.length c1, .slice (some ⟨a2, e2, none⟩) ss.length c2] := by rw [hW]; exact (bk.new w _ _).alloc _
  have b1 : bk W (w.heap.size + 1) 68 [.int .i64 sp, .int .i64 hd, .slice none 0 0] := by rw [hW]; simpa using bk.new (w.alloc _) _ _
  have HB0 : Hid (Below w.heap.size w W) := Lib.hid (by rw [hW]; exact ((Below.refl _ _).alloc (Nat.le_refl _) _).alloc (by simp) _)
  have z0 : w.heap.size + 2 ≤ W.heap.size := by rw [hW]; simp
  rw [← hW]
  clear hW
  have B0 := Lib.hid b0
  have B1 := Lib.hid b1
  clear b0 b1
  go_loopw [17] (fun iv wr => ∃ (l : List TD) (A : Option Addr) (c : Nat), l.length ≤ cs.length ∧ iv = .int .i64 (l.length : Int) ∧ Hid (l = zl.take l.length) ∧ Hid (bk wr (w.heap.size + 1) 68 [.int .i64 sp, .int .i64 hd, .slice A l.length c]) ∧ Hid (owE 53 2 tCells (w.heap.size + 2) wr (.slice A l.length c) l) ∧ Hid (bk wr w.heap.size 27 [.int .i64 sp, .int .i64 hd, .slice (some ⟨a1, e1, none⟩) cs.length c1, .slice (some ⟨a2, e2, none⟩) ss.length c2]) ∧ Hid (Below w.heap.size w wr) ∧ w.heap.size + 2 ≤ wr.heap.size) (fun iv _ => cs.length - (intOf iv).toNat)
  case atStart => exact ⟨[], none, 0, Nat.zero_le _, rfl, Lib.hid rfl, B1, Lib.hid (owE_none _ _ _ _ _), B0, HB0, z0⟩
  case round =>
    obtain ⟨l, A, c, hl, rfl, HL, BW, HO, BR, HB, hz⟩ := hrel
    by_cases hin : l.length < cs.length
    · obtain ⟨-, d0⟩ := (HC.out.below HB.out hh).cell_at hin
      obtain ⟨-, d1⟩ := (HS.out.below HB.out hh).cell_at (show l.length < ss.length by rw [HO5.out]; exact hin)
      have HZ := Lib.hid (HZA.out _ hin)
      generalize cs.getD l.length 0 = x at d0 HZ
      generalize ss.getD l.length 0 = y at d1 HZ
      have g1 : (l.length : Int) < (cs.length : Int) := by omega
      have g3 : (l.length : Int) < (ss.length : Int) := by rw [HO5.out]; exact g1
      have g2 : 0 ≤ (l.length : Int) := by omega
      obtain ⟨⟨p0, p1, p2, p3⟩, -⟩ := BR.out.cells
      obtain ⟨⟨q0, q1, q2⟩, f0, f1, f2⟩ := BW.out.three
      have hL1 : l.length + 1 ≤ maxLen := by unfold maxLen; omega
      have hL2 : (l.length + 1) * 16 ≤ 140737488355328 := by omega
      have hne : (Value.slice A l.length c).ownBlock ≠ some (w.heap.size + 1) := fun e => by have := (HO.out.lt _ e).1; omega
      have hne0 : (Value.slice A l.length c).ownBlock ≠ some w.heap.size := fun e => by have := (HO.out.lt _ e).1; omega
      have HN1 := Lib.hid hne
      have HN0 := Lib.hid hne0
      clear hne hne0
      have bv := BW.out.alloc (.cells #[.int .i64 x, .int .i64 y] 53)
      obtain ⟨⟨v0, v1, v2⟩, -⟩ := bv.three
      clear bv
      go_upto_region 5 with fail
      go_region_law (refine app_elem_step tCells 2 tCells_len (by decide) tCells_one 66 53 #[.int .i64 0, .int .i64 0] 16 Tryd.underlying66 infoTally rfl _ _ (by rfl) (by rfl) (w.heap.size + 2) wr.drew _ l (x, y) _ _ (by rfl) (by rfl) (by rfl) rfl HO.out hL1 hL2 hz ?_; intro A6 c6 w6 hown6 hc6 hg6 hl6; have b6 := (BW.out.drew.alloc (.cells #[.int .i64 x, .int .i64 y] 53)).grown hg6 HN1.out; have r6 := (BR.out.drew.alloc (.cells #[.int .i64 x, .int .i64 y] 53)).grown hg6 HN0.out; obtain ⟨⟨m0, m1, m2⟩, k0, k1, k2⟩ := b6.three; have B6 := Lib.hid b6; have R6 := Lib.hid r6; have HO6 := Lib.hid hown6; have hz6 : wr.heap.size + 1 ≤ w6.heap.size := Nat.le_trans (by simp) hg6.size; have HB6 : Hid (Below w.heap.size w w6) := Lib.hid ((HB.out.drew.alloc (show w.heap.size ≤ wr.heap.size by omega) _).grown hg6 (Nat.le_trans (show w.heap.size ≤ wr.heap.size by omega) (by simp)) (fun k hk => by have := (HO.out.lt _ hk).1; omega)); clear b6 r6 hown6 hg6 hl6)
      all_goals
        go_wp2
        go_roundw
        case rel =>
          have hN6 : (Value.slice A6 (l.length + 1) c6).ownBlock ≠ some (w.heap.size + 1) := fun e => by have := (HO6.out.lt _ e).1; omega
          refine ⟨l ++ [(x, y)], A6, c6, by simp; omega, by simp [go_sem], Lib.hid ?_, Lib.hid (by simpa using B6.out.set 2 (.slice A6 (l.length + 1) c6)), Lib.hid (by simpa using HO6.out.set hN6 2 _), Lib.hid (R6.out.far (p := ⟨w.heap.size + 1, 2, none⟩) (by simp) _), Lib.hid (HB6.out.setCell (p := ⟨w.heap.size + 1, 2, none⟩) (by simp) _), by simp; omega⟩
          obtain ⟨h5, h6⟩ := List.getElem?_eq_some_iff.1 HZ.out
          rw [List.length_append, List.length_singleton, List.take_succ_eq_append_getElem h5, h6, ← HL.out]
        case measure => simp [intOf] <;> omega
    · have HLZ : Hid (l = zl) := Lib.hid (by rw [HL.out, List.take_of_length_le (by rw [HZN.out]; omega)])
      have g1 : ¬ (l.length : Int) < (cs.length : Int) := by omega
      go_wp2_with fail
      refine (implRoll_any w.heap.size (w.heap.size + 1) sp hd now _ l wr ⟨BW.out, HO.out.mono (by omega), by omega, fun e => by have := (HO.out.lt _ e).1; omega⟩ o1 n3 n4 o6 o7 (by omega) (by omega)).mono ?_
      rintro e w2 ⟨rfl, hwin, hb⟩
      go_wp2
      go_ret
      exact ⟨_, _, rfl, by rw [← HLZ.out]; exact hwin, HB.out.trans hb⟩
end Go.Proofs.YteogdfiaobccfaaDoor
