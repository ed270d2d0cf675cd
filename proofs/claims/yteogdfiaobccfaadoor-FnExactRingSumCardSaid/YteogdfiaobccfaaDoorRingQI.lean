/- RingCount, RingSum of the program. The library's table of type handles holds what its text lays. -/
import Derived.Test.YteogdfiaobccfaaDoorRingAI
set_option linter.unusedVariables false
namespace Go.Proofs.YteogdfiaobccfaaDoor
open Go.ChangeShapes Go.WideShapes Go.ChangeAt Go.RowKit

set_option maxRecDepth 100000 in
theorem total_not {r : RingD} {now : Int} (h : (ringOk r && timeB now) = false) (b : Bool) : ringTotal r now b = 0 := by
  unfold ringTotal
  rw [h]
  rfl
set_option maxRecDepth 100000 in
theorem total_win {r : RingD} {now : Int} (hok : ringOk r = true) (ht : timeB now = true) : ringTotal r now false = totalL ((winRoll r.1 r.2.1 now (r.2.2.1.zip r.2.2.2)).map Prod.fst) ∧ ringTotal r now true = totalL ((winRoll r.1 r.2.1 now (r.2.2.1.zip r.2.2.2)).map Prod.snd) := by
  unfold ringTotal
  rw [hok, ht, roll_win hok ht]
  exact ⟨rfl, rfl⟩
set_option maxRecDepth 100000 in
theorem bk.two {w : World} {g : Nat} {t : TypeId} {a b : Value} (h : bk w g t [a, b]) : (w.cell? ⟨g, 0, none⟩ = some a ∧ w.cell? ⟨g, 1, none⟩ = some b) ∧ (w.frozen? ⟨g, 0, none⟩ = false ∧ w.frozen? ⟨g, 1, none⟩ = false) :=
  ⟨⟨h.cell 0, h.cell 1⟩, h.frozen 0, h.frozen 1⟩
set_option maxRecDepth 100000 in
set_option maxHeartbeats 4000000 in
theorem implTotal_any (hi : Nat) (vc vs : Value) (r : RingD) (now : Int) (w : World) (hg : Handle w) (h1 : rd .i64 hi w vc r.2.2.1) (h2 : rd .i64 hi w vs r.2.2.2) (hh : hi ≤ w.heap.size) (hc : r.2.2.1.length ≤ 1048576) (hs : r.2.2.2.length ≤ 1048576) :
    Calls Tryd.prog 36 #[.agg #[.int .i64 r.1, .int .i64 r.2.1, vc, vs], .int .i64 now] w fun e w' => e = .returned (.agg #[.int .i64 (ringTotal r now false), .int .i64 (ringTotal r now true)]) ∧ Below w.heap.size w w' := by
  have HG := Lib.hid hg
  obtain ⟨A1, c1, rfl, -⟩ := h1.form
  obtain ⟨A2, c2, rfl, -⟩ := h2.form
  have HCR := Lib.hid (fun W (hW : Below w.heap.size w W) => implCanRoll_any hi _ _ r now W (h1.below hW hh) (h2.below hW hh) (Nat.le_trans hh hW.size) hc hs)
  have HWA := Lib.hid (fun hk ht W (hW : Below w.heap.size w W) => implWindow_any hi _ _ r now W (h1.below hW hh) (h2.below hW hh) (Nat.le_trans hh hW.size) hk ht)
  have HRW := Lib.hid (fun hk ht => total_win (r := r) (now := now) hk ht)
  have HRN := Lib.hid (fun h => And.intro (total_not (r := r) (now := now) h false) (total_not (r := r) (now := now) h true))
  have HLN := Lib.hid (fun hk => win_len (r := r) (now := now) hk)
  clear h1 h2 hg
  generalize ringOk r = ok at HCR HWA HRW HRN HLN
  generalize timeB now = tm at HCR HWA HRW HRN
  generalize ringTotal r now false = Tc at HRW HRN ⊢
  generalize ringTotal r now true = Ts at HRW HRN ⊢
  obtain ⟨sp, hd, uc, us⟩ := r
  simp only at hc hs HCR HWA HRW HLN ⊢
  go_enter Tryd.func36, Tryd.ntmps36
  go_upto_region 2 with fail
  obtain ⟨W, hW⟩ : ∃ W, W = ((w.alloc (.cells #[.int .i64 sp, .int .i64 hd, .slice A1 uc.length c1, .slice A2 us.length c2] 27)).alloc (.cells #[.int .i64 0, .int .i64 0] 53)).alloc (.cells #[.int .i64 0, .int .i64 0] 53) := ⟨_, rfl⟩
  have b0 : bk W w.heap.size 27 [.int .i64 sp, .int .i64 hd, .slice A1 uc.length c1, .slice A2 us.length c2] := by rw [hW]; exact ((bk.new w _ _).alloc _).alloc _
  have b1 : bk W (w.heap.size + 1) 53 [.int .i64 0, .int .i64 0] := by rw [hW]; simpa using (bk.new (w.alloc _) 53 [.int .i64 0, .int .i64 0]).alloc _
  have b2 : bk W (w.heap.size + 2) 53 [.int .i64 0, .int .i64 0] := by rw [hW]; simpa using bk.new ((w.alloc _).alloc _) 53 [.int .i64 0, .int .i64 0]
  have HB0 : Hid (Below w.heap.size w W) := Lib.hid (by rw [hW]; exact (((Below.refl _ _).alloc (Nat.le_refl _) _).alloc (by simp) _).alloc (by simp <;> omega) _)
  have z0 : w.heap.size + 3 ≤ W.heap.size := by rw [hW]; simp
  rw [← hW]
  clear hW
  obtain ⟨⟨p0, p1, p2, p3⟩, -⟩ := b0.cells
  go_wp2_with fail
  refine (HCR.out W HB0.out).mono ?_
  rintro e w0 ⟨rfl, hb0⟩
  have y0 := hb0.size
  have HBX : Hid (Below w.heap.size w w0) := Lib.hid (HB0.out.trans (hb0.mono (by omega)))
  replace b0 := b0.below hb0 (by omega)
  replace b1 := b1.below hb0 (by omega)
  replace b2 := b2.below hb0 (by omega)
  clear hb0 HB0 p0 p1 p2 p3 HCR
  cases hg : (ok && tm)
  · have HTC := Lib.hid (HRN.out hg)
    clear HRN HRW HWA HLN hg b0
    obtain ⟨⟨p0, p1⟩, -⟩ := b2.two
    obtain ⟨⟨r0, r1⟩, f0, f1⟩ := b1.two
    clear b1 b2
    go_wp2
    refine bodyPost_ret (v := .agg #[.int .i64 0, .int .i64 0]) (by simp [results, Tryd.results36, go_sem, r0, r1]) rfl ?_
    rw [HTC.out.1, HTC.out.2]
    have ht := ((Turned.refl (w.heap.size + 1) (w.heap.size + 2) w0).set (b := w.heap.size + 1) 0 (.int .i64 0) (by omega) (by omega)).set (b := w.heap.size + 1) 1 (.int .i64 0) (by omega) (by omega)
    exact ⟨rfl, HBX.out.trans (ht.below (by omega) (by omega))⟩
  · simp only [Bool.and_eq_true] at hg
    obtain ⟨rfl, rfl⟩ := hg
    have HRF := Lib.hid (HRW.out (by trivial) (by trivial))
    obtain ⟨l1, l2, l3⟩ := HLN.out (by trivial)
    obtain ⟨⟨p0, p1, p2, p3⟩, -⟩ := b0.cells
    clear HRN HRW HLN b0
    go_wp2_with fail
    refine (HWA.out (by trivial) (by trivial) w0 HBX.out).mono ?_
    rintro e w5 ⟨p, v, rfl, hwin, hb5⟩
    have z5 := hb5.size
    have HB5 : Hid (Below w.heap.size w w5) := Lib.hid (HBX.out.trans (hb5.mono (by omega)))
    replace b1 := b1.below hb5 (by omega)
    replace b2 := b2.below hb5 (by omega)
    clear hb5 HBX p0 p1 p2 p3 HWA
    generalize winHead sp hd now = hd2 at hwin
    generalize winRoll sp hd now (uc.zip us) = wl at hwin HRF l1
    have HL1 : Hid (wl.length ≤ 8) := Lib.hid (by omega)
    have HL2 : Hid (1 ≤ wl.length) := Lib.hid (by omega)
    clear l1
    obtain ⟨A, c, rfl, -⟩ := hwin.row.form
    obtain ⟨g, rfl, hBg, hgl⟩ : ∃ g, A = some ⟨g, 0, none⟩ ∧ w0.heap.size ≤ g ∧ g < w5.heap.size := by
      rcases hwin.row.2 with ⟨h', h0⟩ | ⟨g, cap, cur, h', hB, hg, -⟩
      · have := HL2.out; omega
      · simp only [Value.slice.injEq] at h'
        exact ⟨g, h'.1, hB, (Array.getElem?_eq_some_iff.1 hg).1⟩
    have HO := Lib.hid hwin.row
    obtain ⟨⟨q0, q1, q2⟩, -⟩ := hwin.at_.three
    have B1 := Lib.hid b1
    have B2 := Lib.hid b2
    clear hwin b1 b2
    go_upto_region 5 with fail
    clear q0 q1 q2
    go_loopw [20] (fun iv wr => ∃ (i : Nat) (x y : Int), i ≤ wl.length ∧ iv = .int .i64 i ∧ Hid (x = totalL ((wl.map Prod.fst).take i)) ∧ Hid (y = totalL ((wl.map Prod.snd).take i)) ∧ Hid (bk wr (w.heap.size + 2) 53 [.int .i64 x, .int .i64 y]) ∧ Hid (bk wr (w.heap.size + 1) 53 [.int .i64 0, .int .i64 0]) ∧ Hid (owE 53 2 tCells w0.heap.size wr (.slice (some ⟨g, 0, none⟩) wl.length c) wl) ∧ Hid (Below w.heap.size w wr) ∧ w5.heap.size ≤ wr.heap.size) (fun iv _ => wl.length - (intOf iv).toNat)
    case atStart => exact ⟨0, 0, 0, Nat.zero_le _, rfl, Lib.hid rfl, Lib.hid rfl, B2, B1, HO, HB5, Nat.le_refl _⟩
    case round =>
      obtain ⟨i, x, y, hi', rfl, HX, HY, BT, BR, HR, HB, hz⟩ := hrel
      have hL8 := HL1.out
      by_cases hin : i < wl.length
      · rcases HR.out.filled tCells_len (0, 0) with ⟨h0, -⟩ | ⟨g', c', hv, -, -, -, hfl⟩
        · rw [h0] at hin; exact absurd hin (by simp)
        simp only [Value.slice.injEq, Option.some.injEq, Addr.mk.injEq, and_true, true_and] at hv
        obtain ⟨rfl, rfl⟩ := hv
        have hat := hfl.at_ i hin
        have d0 := hat 0 _ rfl
        have d1 := hat 1 _ rfl
        obtain ⟨t, ht⟩ : ∃ t, t = wl.getD i (0, 0) := ⟨_, rfl⟩
        have HT : Hid (wl[i]? = some t) := Lib.hid (by rw [ht, List.getD_eq_getElem?_getD, List.getElem?_eq_getElem hin]; rfl)
        rw [← ht, Nat.zero_add] at d0 d1
        rw [Nat.add_zero] at d0
        clear hat hfl ht
        obtain ⟨tx, ty⟩ := t
        have g1 : (i : Int) < (wl.length : Int) := by omega
        have g2 : 0 ≤ (i : Int) := by omega
        go_upto_region 7 with fail
        obtain ⟨W4, hW4⟩ : ∃ W4, W4 = wr.alloc (.cells #[.int .i64 tx, .int .i64 ty] 53) := ⟨_, rfl⟩
        rw [← hW4]
        have BN := bk.new wr 53 [.int .i64 tx, .int .i64 ty]
        rw [show ([Value.int .i64 tx, .int .i64 ty] : List Value).toArray = #[.int .i64 tx, .int .i64 ty] from rfl] at BN
        have hb4 := (Below.refl wr.heap.size wr).alloc (Nat.le_refl _) (.cells #[.int .i64 tx, .int .i64 ty] 53)
        rw [← hW4] at BN hb4
        have z4 : W4.heap.size = wr.heap.size + 1 := by rw [hW4]; simp
        clear hW4 d0 d1
        have BT4 := Lib.hid (BT.out.below hb4 (by omega))
        have BR4 := Lib.hid (BR.out.below hb4 (by omega))
        have HR4 := Lib.hid (HR.out.below hb4 (Nat.le_refl _))
        have HB4 := Lib.hid (HB.out.trans (hb4.mono (by omega)))
        have HG4 := Lib.hid (HG.out.below HB4.out (Nat.le_refl _))
        obtain ⟨⟨p0, p1⟩, -⟩ := BN.two
        clear BN hb4 BT BR HR HB
        go_wp2_with fail
        refine (implTally_any (w.heap.size + 2) _ _ x y tx ty W4 BT4.out rfl rfl HG4.out).mono ?_
        rintro e w6 ⟨rfl, ht6, hk6⟩
        have z6 := ht6.size
        have HT6 := Lib.hid ht6
        have HK6 := Lib.hid hk6
        clear ht6 hk6 p0 p1
        go_wp2
        go_roundw
        case rel =>
          refine ⟨i + 1, satVal x tx, satVal y ty, by omega, by go_num, Lib.hid ?_, Lib.hid ?_, HK6, Lib.hid (BR4.out.turned HT6.out (by omega)), Lib.hid (HR4.out.turned HT6.out (fun b hb => by simp [Value.ownBlock] at hb; omega)), Lib.hid (HB4.out.trans (HT6.out.below (by omega) (by omega))), by omega⟩
          · rw [totalL_next (x := tx) (by rw [List.getElem?_map, HT.out]; rfl), ← HX.out]
          · rw [totalL_next (x := ty) (by rw [List.getElem?_map, HT.out]; rfl), ← HY.out]
        case measure => simp [intOf] <;> omega
      · obtain rfl : i = wl.length := by omega
        have HXT : Hid (Tc = x) := Lib.hid (by rw [HRF.out.1, HX.out, List.take_of_length_le (by simp)])
        have HYT : Hid (Ts = y) := Lib.hid (by rw [HRF.out.2, HY.out, List.take_of_length_le (by simp)])
        obtain ⟨⟨p0, p1⟩, -⟩ := BT.out.two
        obtain ⟨⟨r0, r1⟩, f0, f1⟩ := BR.out.two
        go_wp2
        refine bodyPost_ret (v := .agg #[.int .i64 x, .int .i64 y]) (by simp [results, Tryd.results36, go_sem, r0, r1]) rfl ?_
        rw [HXT.out, HYT.out]
        have ht := ((Turned.refl (w.heap.size + 1) (w.heap.size + 2) wr).set (b := w.heap.size + 1) 0 (.int .i64 x) (by omega) (by omega)).set (b := w.heap.size + 1) 1 (.int .i64 y) (by omega) (by omega)
        exact ⟨rfl, HB.out.trans (ht.below (by omega) (by omega))⟩
set_option maxRecDepth 100000 in
theorem implCount_any (hi : Nat) (vc vs : Value) (r : RingD) (now : Int) (w : World) (hg : Handle w) (h1 : rd .i64 hi w vc r.2.2.1) (h2 : rd .i64 hi w vs r.2.2.2) (hh : hi ≤ w.heap.size) (hc : r.2.2.1.length ≤ 1048576) (hs : r.2.2.2.length ≤ 1048576) :
    Calls Tryd.prog 13 #[.agg #[.int .i64 r.1, .int .i64 r.2.1, vc, vs], .int .i64 now] w fun e w' => e = .returned (.int .i64 (ringTotal r now false)) ∧ Below w.heap.size w w' := by
  have HB0 : Hid (Below w.heap.size w (w.alloc (.cells #[.int .i64 r.1, .int .i64 r.2.1, vc, vs] 27))) := Lib.hid ((Below.refl _ _).alloc (Nat.le_refl _) _)
  have HT := Lib.hid (implTotal_any hi vc vs r now _ (hg.below HB0.out (Nat.le_refl _)) (h1.below HB0.out hh) (h2.below HB0.out hh) (Nat.le_trans hh HB0.out.size) hc hs)
  obtain ⟨A1, c1, rfl, -⟩ := h1.form
  obtain ⟨A2, c2, rfl, -⟩ := h2.form
  clear h1 h2 hg
  generalize ringTotal r now false = Tc at HT ⊢
  generalize ringTotal r now true = Ts at HT
  have hfd : ∀ W : World, (Instr.field 53 (.agg #[.int .i64 Tc, .int .i64 Ts]) 0).run Tryd.prog W = .ok (.int .i64 Tc) W := fun _ => by kernel_rfl
  go_enter Tryd.func13, Tryd.ntmps13
  go_wp2_with fail
  refine (HT.out).mono ?_
  rintro e w1 ⟨rfl, hb⟩
  go_wp2
  go_ret
  exact ⟨rfl, HB0.out.trans (hb.mono (by simp))⟩
set_option maxRecDepth 100000 in
theorem implSum_any (hi : Nat) (vc vs : Value) (r : RingD) (now : Int) (w : World) (hg : Handle w) (h1 : rd .i64 hi w vc r.2.2.1) (h2 : rd .i64 hi w vs r.2.2.2) (hh : hi ≤ w.heap.size) (hc : r.2.2.1.length ≤ 1048576) (hs : r.2.2.2.length ≤ 1048576) :
    Calls Tryd.prog 14 #[.agg #[.int .i64 r.1, .int .i64 r.2.1, vc, vs], .int .i64 now] w fun e w' => e = .returned (.int .i64 (ringTotal r now true)) ∧ Below w.heap.size w w' := by
  have HB0 : Hid (Below w.heap.size w (w.alloc (.cells #[.int .i64 r.1, .int .i64 r.2.1, vc, vs] 27))) := Lib.hid ((Below.refl _ _).alloc (Nat.le_refl _) _)
  have HT := Lib.hid (implTotal_any hi vc vs r now _ (hg.below HB0.out (Nat.le_refl _)) (h1.below HB0.out hh) (h2.below HB0.out hh) (Nat.le_trans hh HB0.out.size) hc hs)
  obtain ⟨A1, c1, rfl, -⟩ := h1.form
  obtain ⟨A2, c2, rfl, -⟩ := h2.form
  clear h1 h2 hg
  generalize ringTotal r now false = Tc at HT
  generalize ringTotal r now true = Ts at HT ⊢
  have hfd : ∀ W : World, (Instr.field 53 (.agg #[.int .i64 Tc, .int .i64 Ts]) 1).run Tryd.prog W = .ok (.int .i64 Ts) W := fun _ => by kernel_rfl
  go_enter Tryd.func14, Tryd.ntmps14
  go_wp2_with fail
  refine (HT.out).mono ?_
  rintro e w1 ⟨rfl, hb⟩
  go_wp2
  go_ret
  exact ⟨rfl, HB0.out.trans (hb.mono (by simp))⟩
end Go.Proofs.YteogdfiaobccfaaDoor
