/- ringOf of the program: a window's ring; no conditions. -/
import Derived.Test.YteogdfiaobccfaaDoorWinA
import Derived.Test.YteogdfiaobccfaaDoorRingN
import Derived.Deep.RegionHeld3
import Derived.Deep.DeepCutAuto
set_option linter.unusedVariables false
namespace Go.Proofs.YteogdfiaobccfaaDoor
open Go.ChangeShapes Go.WideShapes Go.ChangeAt Go.RowKit

set_option maxRecDepth 100000 in
theorem blk_own {v : Value} {b : Nat} (h : Proofs.YteogdfiaobccfaaDoor.blk v = some b) : v.ownBlock = some b := by
  unfold Proofs.YteogdfiaobccfaaDoor.blk at h
  split at h
  · exact h
  · cases h
set_option maxRecDepth 100000 in
set_option maxHeartbeats 4000000 in
theorem implRingOf_any (B p : Nat) (sp hd : Int) (v : Value) (l : List TD) (w : World) (hw : Win B w p sp hd v l) (hl : l.length ≤ 8) :
    Calls Tryd.prog 33 #[.pointer (some ⟨p, 0, none⟩)] w (ringOne (sp, hd, l.map Prod.fst, l.map Prod.snd) w) := by
  obtain ⟨b0, ho, -, -⟩ := hw
  obtain ⟨A, c, rfl, hlc⟩ := ho.form
  have HO := Lib.hid ho
  have BW := Lib.hid b0
  have y0 := b0.lt
  clear ho b0
  go_enter Tryd.func33, Tryd.ntmps33
  go_upto_region 1 with fail
  obtain ⟨W, hW⟩ : ∃ W, W = w.alloc (.cells #[.int .i64 0, .int .i64 0, .slice none 0 0, .slice none 0 0] 27) := ⟨_, rfl⟩
  have b0 : bk W w.heap.size 27 [.int .i64 0, .int .i64 0, .slice none 0 0, .slice none 0 0] := by rw [hW]; exact bk.new w _ _
  have HB0 : Hid (Below w.heap.size w W) := Lib.hid (by rw [hW]; exact (Below.refl _ _).alloc (Nat.le_refl _) _)
  have z0 : W.heap.size = w.heap.size + 1 := by rw [hW]; simp
  rw [← hW]
  clear hW
  obtain ⟨⟨p0, p1, p2⟩, -⟩ := (BW.out.below HB0.out y0).three
  have B0 := Lib.hid b0
  clear b0
  go_cut [3] (fun cv wx => cv = .pointer (some ⟨w.heap.size + 1, 0, none⟩) ∧ bk wx (w.heap.size + 1) 27 [.int .i64 sp, .int .i64 hd, .slice none 0 0, .slice none 0 0] ∧ bk wx w.heap.size 27 [.int .i64 0, .int .i64 0, .slice none 0 0, .slice none 0 0] ∧ Below w.heap.size w wx)
  case first =>
    go_region_held3 (fun V => V.cell? ⟨p, 0, none⟩ = some (.int .i64 sp) ∧ V.cell? ⟨p, 1, none⟩ = some (.int .i64 hd)) (go_keep) (fail)
    go_wp2
    go_meet
    refine ⟨rfl, ?_, (B0.out.alloc _).drew, (HB0.out.alloc (by omega) _).drew⟩
    have h := bk.new W 27 [.int .i64 sp, .int .i64 hd, .slice none 0 0, .slice none 0 0]
    rw [z0] at h
    exact h.drew
  case rest =>
    obtain ⟨rfl, b1, b0, hb⟩ := hcut
    have HBC := Lib.hid hb
    have B1 := Lib.hid b1
    have B0 := Lib.hid b0
    have zc := b1.lt
    obtain ⟨⟨p0, p1, p2⟩, -⟩ := (BW.out.below hb y0).three
    clear hb b1 b0
    go_upto_region 3 with fail
    clear p0 p1 p2
    go_loopw [20] (fun iv wr => ∃ (X Y : List Int) (A1 A2 : Option Addr) (c1 c2 : Nat), X.length ≤ l.length ∧ iv = .int .i64 (X.length : Int) ∧ Hid (Y.length = X.length) ∧ Hid (X = (l.take X.length).map Prod.fst) ∧ Hid (Y = (l.take X.length).map Prod.snd) ∧ Hid (bk wr (w.heap.size + 1) 27 [.int .i64 sp, .int .i64 hd, .slice A1 X.length c1, .slice A2 Y.length c2]) ∧ Hid (owE 3 1 iCells (w.heap.size + 2) wr (.slice A1 X.length c1) X) ∧ Hid (owE 3 1 iCells (w.heap.size + 2) wr (.slice A2 Y.length c2) Y) ∧ Hid (∀ g, (Value.slice A1 X.length c1).ownBlock = some g → (Value.slice A2 Y.length c2).ownBlock ≠ some g) ∧ Hid (bk wr w.heap.size 27 [.int .i64 0, .int .i64 0, .slice none 0 0, .slice none 0 0]) ∧ Hid (Below w.heap.size w wr) ∧ w.heap.size + 2 ≤ wr.heap.size) (fun iv _ => l.length - (intOf iv).toNat)
    case atStart => exact ⟨[], [], none, none, 0, 0, Nat.zero_le _, rfl, Lib.hid rfl, Lib.hid rfl, Lib.hid rfl, B1, Lib.hid (owE_none _ _ _ _ _), Lib.hid (owE_none _ _ _ _ _), Lib.hid (by intro g h; cases h), B0, HBC, by omega⟩
    case round =>
      obtain ⟨X, Y, A1, A2, c1, c2, hX, rfl, HYX, HX, HY, BR, HO1, HO2, HD, B0, HB, hz⟩ := hrel
      by_cases hin : X.length < l.length
      · rcases (HO.out.below HB.out (Nat.le_refl _)).filled tCells_len (0, 0) with ⟨h0, -⟩ | ⟨g, c', hv, -, -, hgl, hfl⟩
        · rw [h0] at hin; exact absurd hin (by simp)
        simp only [Value.slice.injEq, true_and] at hv
        obtain ⟨rfl, rfl⟩ := hv
        have hat := hfl.at_ X.length hin
        have d0 := hat 0 _ rfl
        have d1 := hat 1 _ rfl
        obtain ⟨t, ht⟩ : ∃ t, t = l.getD X.length (0, 0) := ⟨_, rfl⟩
        have HT : Hid (l[X.length]? = some t) := Lib.hid (by rw [ht, List.getD_eq_getElem?_getD, List.getElem?_eq_getElem hin]; rfl)
        rw [← ht, Nat.zero_add] at d0 d1
        rw [Nat.add_zero] at d0
        clear hat hfl ht
        obtain ⟨x, y⟩ := t
        have g1 : (X.length : Int) < (l.length : Int) := by omega
        have g2 : 0 ≤ (X.length : Int) := by omega
        go_upto_region 5 with fail
        obtain ⟨W4, hW4⟩ : ∃ W4, W4 = wr.alloc (.cells #[.int .i64 x, .int .i64 y] 53) := ⟨_, rfl⟩
        rw [← hW4]
        have BT := bk.new wr 53 [.int .i64 x, .int .i64 y]
        rw [show ([Value.int .i64 x, .int .i64 y] : List Value).toArray = #[.int .i64 x, .int .i64 y] from rfl] at BT
        have hb4 := (Below.refl wr.heap.size wr).alloc (Nat.le_refl _) (.cells #[.int .i64 x, .int .i64 y] 53)
        rw [← hW4] at BT hb4
        have z4 : W4.heap.size = wr.heap.size + 1 := by rw [hW4]; simp
        clear hW4 d0 d1
        have BT4 := Lib.hid BT
        have BR4 := Lib.hid (BR.out.below hb4 (by omega))
        have B04 := Lib.hid (B0.out.below hb4 (by omega))
        have HB4 := Lib.hid (HB.out.trans (hb4.mono (by omega)))
        have HX4 := Lib.hid (HO1.out.below hb4 (Nat.le_refl _))
        have HY4 := Lib.hid (HO2.out.below hb4 (Nat.le_refl _))
        have HO1lt : Hid (∀ g, (Value.slice A1 X.length c1).ownBlock = some g → g < wr.heap.size) := Lib.hid fun g h => (HO1.out.lt g h).2
        have HO2lt : Hid (∀ g, (Value.slice A2 Y.length c2).ownBlock = some g → g < wr.heap.size) := Lib.hid fun g h => (HO2.out.lt g h).2
        clear BT hb4 BR B0 HB HO1 HO2
        obtain ⟨⟨p0, p1, p2, p3⟩, q0, q1, q2, q3⟩ := BR4.out.cells
        have t0 := BT4.out.cell 0
        have t1 := BT4.out.cell 1
        simp only [List.getElem?_cons_zero, List.getElem?_cons_succ] at t0 t1
        have HN0 : Hid ((Value.slice A1 X.length c1).ownBlock ≠ some w.heap.size) := Lib.hid fun e => by have := (HX4.out.lt _ e).1; omega
        have HN1 : Hid ((Value.slice A1 X.length c1).ownBlock ≠ some (w.heap.size + 1)) := Lib.hid fun e => by have := (HX4.out.lt _ e).1; omega
        have HN2 : Hid ((Value.slice A1 X.length c1).ownBlock ≠ some wr.heap.size) := Lib.hid fun e => by have := (HO1lt.out _ e); omega
        have vR := BR4.out.alloc (.cells #[.int .i64 x] 3)
        obtain ⟨⟨v0, v1, v2, v3⟩, -⟩ := vR.cells
        clear vR
        go_upto_region 6 with (at_builtin; refine app_elem iCells 1 (fun _ => rfl) (by decide) iCells_one 23 3 #[.int .i64 0] 8 Tryd.underlying23 infoIntN rfl _ _ rfl (by rfl) (w.heap.size + 2) W4 _ X x _ _ (by rfl) (by rfl) (by rfl) (by omega) HX4.out (by unfold maxLen; omega) (by omega) (by omega) ?_; intro A6 c6 w6 hown6 hc6 hg6 hl6; have b6 := (BR4.out.alloc (.cells #[.int .i64 x] 3)).grown hg6 HN1.out; have HR6 := Lib.hid b6; have H06 := Lib.hid ((B04.out.alloc (.cells #[.int .i64 x] 3)).grown hg6 HN0.out); have HT6 := Lib.hid ((BT4.out.alloc (.cells #[.int .i64 x] 3)).grown hg6 HN2.out); have HX6 := Lib.hid hown6; have HL6 := Lib.hid hl6; have HY6 := Lib.hid ((HY4.out.alloc (.cells #[.int .i64 x] 3)).grown hg6 (fun g h e => HD.out g e h)); have z6 : W4.heap.size + 1 ≤ w6.heap.size := Nat.le_trans (by simp) hg6.size; have HB6 : Hid (Below w.heap.size w w6) := Lib.hid ((HB4.out.alloc (by omega) _).grown hg6 (by simp; omega) (fun k hk => by have := (HX4.out.lt _ hk).1; omega)); clear hown6 hg6 hl6; obtain ⟨⟨m0, m1, m2, m3⟩, n0, n1, n2, n3⟩ := b6.cells; clear b6)
        obtain ⟨W7, hW7⟩ : ∃ W7, W7 = w6.setCell ⟨w.heap.size + 1, 2, none⟩ (.slice A6 (X.length + 1) c6) := ⟨_, rfl⟩
        have hN6 : (Value.slice A6 (X.length + 1) c6).ownBlock ≠ some (w.heap.size + 1) := fun e => by have := (HX6.out.lt _ e).1; omega
        have hN6' : (Value.slice A2 Y.length c2).ownBlock ≠ some (w.heap.size + 1) := fun e => by have := (HY6.out.lt _ e).1; omega
        have HR7 := Lib.hid (HR6.out.set 2 (.slice A6 (X.length + 1) c6))
        have H07 := Lib.hid (H06.out.far (p := ⟨w.heap.size + 1, 2, none⟩) (by simp) (.slice A6 (X.length + 1) c6))
        have HT7 := Lib.hid (HT6.out.far (p := ⟨w.heap.size + 1, 2, none⟩) (show wr.heap.size ≠ w.heap.size + 1 by omega) (.slice A6 (X.length + 1) c6))
        have HX7 := Lib.hid (HX6.out.set hN6 2 (.slice A6 (X.length + 1) c6))
        have HY7 := Lib.hid (HY6.out.set hN6' 2 (.slice A6 (X.length + 1) c6))
        have HB7 := Lib.hid (HB6.out.setCell (p := ⟨w.heap.size + 1, 2, none⟩) (by simp) (.slice A6 (X.length + 1) c6))
        have z7 : w6.heap.size = (w6.setCell ⟨w.heap.size + 1, 2, none⟩ (.slice A6 (X.length + 1) c6)).heap.size := by simp
        have HD7 : Hid (∀ g, (Value.slice A6 (X.length + 1) c6).ownBlock = some g → (Value.slice A2 Y.length c2).ownBlock ≠ some g) := Lib.hid fun g hg e => by
          rcases HL6.out with h | h
          · exact HD.out g (h ▸ hg) e
          · rw [h] at hg
            have := HO2lt.out g e
            cases hg
            omega
        rw [← hW7] at HR7 H07 HT7 HX7 HY7 HB7 z7 ⊢
        clear hW7 hN6 hN6' HR6 H06 HT6 HX6 HY6 HB6 HL6 HD BT4 BR4 B04 HB4 HX4 HY4 p0 p1 p2 p3 q0 q1 q2 q3 t0 t1 v0 v1 v2 v3 m0 m1 m2 m3 n0 n1 n2 n3
        have HR7' : Hid (bk W7 (w.heap.size + 1) 27 [.int .i64 sp, .int .i64 hd, .slice A6 (X.length + 1) c6, .slice A2 Y.length c2]) := HR7
        obtain ⟨⟨p0, p1, p2, p3⟩, q0, q1, q2, q3⟩ := HR7'.out.cells
        have t0 := HT7.out.cell 0
        have t1 := HT7.out.cell 1
        simp only [List.getElem?_cons_zero, List.getElem?_cons_succ] at t0 t1
        have HM0 : Hid ((Value.slice A2 Y.length c2).ownBlock ≠ some w.heap.size) := Lib.hid fun e => by have := (HY7.out.lt _ e).1; omega
        have HM1 : Hid ((Value.slice A2 Y.length c2).ownBlock ≠ some (w.heap.size + 1)) := Lib.hid fun e => by have := (HY7.out.lt _ e).1; omega
        have vR := HR7'.out.alloc (.cells #[.int .i64 y] 3)
        obtain ⟨⟨v0, v1, v2, v3⟩, -⟩ := vR.cells
        clear vR HR7
        go_upto_region 7 with (at_builtin; refine app_elem iCells 1 (fun _ => rfl) (by decide) iCells_one 23 3 #[.int .i64 0] 8 Tryd.underlying23 infoIntN rfl _ _ rfl (by rfl) (w.heap.size + 2) W7 _ Y y _ _ (by rfl) (by rfl) (by rfl) rfl HY7.out (by have := HYX.out; unfold maxLen; omega) (by have := HYX.out; omega) (by omega) ?_; intro A9 c9 w9 hown9 hc9 hg9 hl9; have b9 := (HR7'.out.alloc (.cells #[.int .i64 y] 3)).grown hg9 HM1.out; have HR9 := Lib.hid b9; have H09 := Lib.hid ((H07.out.alloc (.cells #[.int .i64 y] 3)).grown hg9 HM0.out); have HY9 := Lib.hid hown9; have HL9 := Lib.hid hl9; have HX9 := Lib.hid ((HX7.out.alloc (.cells #[.int .i64 y] 3)).grown hg9 (fun g h e => HD7.out g h e)); have z9 : W7.heap.size + 1 ≤ w9.heap.size := Nat.le_trans (by simp) hg9.size; have HB9 : Hid (Below w.heap.size w w9) := Lib.hid ((HB7.out.alloc (by omega) _).grown hg9 (by simp; omega) (fun k hk => by have := (HY7.out.lt _ hk).1; omega)); clear hown9 hg9 hl9; obtain ⟨⟨m0, m1, m2, m3⟩, n0, n1, n2, n3⟩ := b9.cells; clear b9)
        go_wp2
        go_roundw
        case rel =>
          have hK9 : (Value.slice A9 (Y.length + 1) c9).ownBlock ≠ some (w.heap.size + 1) := fun e => by have := (HY9.out.lt _ e).1; omega
          have hK9' : (Value.slice A6 (X.length + 1) c6).ownBlock ≠ some (w.heap.size + 1) := fun e => by have := (HX9.out.lt _ e).1; omega
          obtain ⟨h5, h6⟩ := List.getElem?_eq_some_iff.1 HT.out
          refine ⟨X ++ [x], Y ++ [y], A6, A9, c6, c9, by simp; omega, by simp [go_sem], Lib.hid (by simp [HYX.out]), Lib.hid ?_, Lib.hid ?_, Lib.hid (by simpa using HR9.out.set 3 (.slice A9 (Y.length + 1) c9)), Lib.hid (by simpa using HX9.out.set hK9' 3 _), Lib.hid (by simpa using HY9.out.set hK9 3 _), Lib.hid ?_, Lib.hid (H09.out.far (p := ⟨w.heap.size + 1, 3, none⟩) (by simp) _), Lib.hid (HB9.out.setCell (p := ⟨w.heap.size + 1, 3, none⟩) (by simp) _), by simp; omega⟩
          · rw [List.length_append, List.length_singleton, List.take_succ_eq_append_getElem h5, h6, List.map_append, ← HX.out]; rfl
          · rw [List.length_append, List.length_singleton, List.take_succ_eq_append_getElem h5, h6, List.map_append, ← HY.out]; rfl
          · intro g hg e
            simp only [List.length_append, List.length_singleton] at hg e
            rcases HL9.out with h | h
            · exact HD7.out g hg (h ▸ e)
            · rw [h] at e
              have := (HX7.out.lt g hg).2
              cases e
              omega
        case measure => simp [intOf] <;> omega
      · have HXL : Hid (l.map Prod.fst = X) := Lib.hid (by rw [HX.out, List.take_of_length_le (by omega)])
        have HYL : Hid (l.map Prod.snd = Y) := Lib.hid (by rw [HY.out, List.take_of_length_le (by omega)])
        have g1 : ¬ (X.length : Int) < (l.length : Int) := by omega
        have HU := Lib.hid HO1.out.ints.nums
        have HV := Lib.hid HO2.out.ints.nums
        obtain ⟨⟨p0, p1, p2, p3⟩, -⟩ := BR.out.cells
        obtain ⟨⟨r0, r1, r2, r3⟩, f0, f1, f2, f3⟩ := B0.out.cells
        have HAP : Hid (∀ b, Proofs.YteogdfiaobccfaaDoor.blk (.slice A1 X.length c1) = some b → Proofs.YteogdfiaobccfaaDoor.blk (.slice A2 Y.length c2) ≠ some b) := Lib.hid fun b h h' => HD.out b (blk_own h) (blk_own h')
        clear HO1 HO2 HD BR B0
        go_wp2
        refine bodyPost_ret (v := .agg #[.int .i64 sp, .int .i64 hd, .slice A1 X.length c1, .slice A2 Y.length c2]) (by simp [results, Tryd.results33, go_sem, r0, r1, r2, r3]) rfl ?_
        rw [HXL.out, HYL.out]
        have ht := ((((Turned.refl w.heap.size (w.heap.size + 1) wr).set (b := w.heap.size) 0 (.int .i64 sp) (by omega) (by omega)).set (b := w.heap.size) 1 (.int .i64 hd) (by omega) (by omega)).set (b := w.heap.size) 2 (.slice A1 X.length c1) (by omega) (by omega)).set (b := w.heap.size) 3 (.slice A2 Y.length c2) (by omega) (by omega)
        have hsz := ht.size
        exact ⟨_, _, rfl, ring_mine_of ((HU.out.turned ht (.inr (by omega)) (by omega)).mono (by omega) (by omega)) ((HV.out.turned ht (.inr (by omega)) (by omega)).mono (by omega) (by omega)) HAP.out, HB.out.trans (ht.below (Nat.le_refl _) (by omega))⟩
end Go.Proofs.YteogdfiaobccfaaDoor
