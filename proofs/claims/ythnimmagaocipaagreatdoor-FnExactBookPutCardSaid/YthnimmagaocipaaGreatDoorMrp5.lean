/- copy(d, s) over a fresh row of structs, as long as s; no conditions. -/
import Derived.Test.YthnimmagaocipaaGreatDoorMrp3
import Derived.Test.YthnimmagaocipaaGreatDoorMrp4
import Derived.Deep.RegionLaw
import Derived.Deep.DeepCutAuto
import Derived.StillTailTactics
import Derived.BigQuiet
import Derived.Test.YthnimmagaocipaaGreatDoorMrp2
import Derived.Test.YthnimmagaocipaaGreatDoorMrp1
import Derived.Shelf.Abstract
import Derived.RegionTactic
import Derived.Deep.RegionHeld3
set_option linter.unusedVariables false
namespace Go.Proofs.YthnimmagaocipaaGreatDoor
open Go.ChangeShapes Go.WideShapes Go.ChangeAt Go.RowKit

set_option maxRecDepth 100000 in
theorem rows_cells {α : Type} {W : World} {k : Nat} {enc : α → List Value} (hk : ∀ x, (enc x).length = k) (hk0 : 0 < k) (m : List α) (ad : Addr) (hsrc : ∀ j y, m[j]? = some y → ∃ b off, some ad = some ⟨b, off, none⟩ ∧ atL W b (off + j * k) (enc y)) :
    ∀ j u, (m.flatMap enc)[j]? = some u → W.cell? (ad.add j) = some u := by
  intro j u hu
  have hlt := (List.getElem?_eq_some_iff.1 hu).1
  have hlen := flat_len hk m
  rw [hlen] at hlt
  have hq : j / k < m.length := by rw [Nat.div_lt_iff_lt_mul hk0]; exact hlt
  have hr : j % k < k := Nat.mod_lt _ hk0
  have hj : j = j / k * k + j % k := by rw [Nat.mul_comm]; exact (Nat.div_add_mod j k).symm
  obtain ⟨b, off, e', hat⟩ := hsrc (j / k) _ (List.getElem?_eq_getElem hq)
  obtain rfl := Option.some.inj e'
  obtain ⟨u', hu'⟩ : ∃ u', (enc m[j / k])[j % k]? = some u' := ⟨_, List.getElem?_eq_getElem (show j % k < (enc m[j / k]).length by have := hk m[j / k]; omega)⟩
  have h2 := flat_at hk m (j / k) _ (List.getElem?_eq_getElem hq) (j % k) u' hu'
  rw [← hj, hu] at h2
  obtain rfl := Option.some.inj h2
  have h3 := hat (j % k) u hu'
  rw [add_off, show off + j = off + j / k * k + j % k by omega]
  exact h3
section
variable {P : Program} {ops : Array Oper} {rest : List Oper} {o : Oper} {a : Act} {Q : Exit → Act → World → Prop}
set_option maxRecDepth 100000 in
theorem wpList_copy_full {α : Type} (enc : α → List Value) (k : Nat) (hk : ∀ x, (enc x).length = k) (hk0 : 0 < k) (hone : ∀ x, ∀ u ∈ enc x, u.oneCell' = true) (hgd : o.guard = none) (d s : Operand) (dT sT : TypeId)
    (ho : o.op = .call { callee := .builtin .copy, args := #[d, s], argTypes := #[dT, sT] }) (e : TypeId) (hu : P.underlying dT = some (.slice e)) (hsz : (P.info? e).map (·.size) = some k)
    (B : Nat) (W : World) (g : Nat) (cur : Array Value) (hg : W.heap[g]? = some (.cells cur e (0, 0))) (hB : B ≤ g) (m : List α) (hcur : cur.size = m.length * k) (hm : m.length ≤ maxLen) (A : Option Addr) (c : Nat)
    (hd : a.eval d = .slice (some ⟨g, 0, none⟩) m.length m.length) (hs : a.eval s = .slice A m.length c)
    (hsrc : ∀ j y, m[j]? = some y → ∃ b off, A = some ⟨b, off, none⟩ ∧ atL W b (off + j * k) (enc y))
    (h : ∀ w', owE e k enc B w' (.slice (some ⟨g, 0, none⟩) m.length m.length) m → Turned g (g + 1) W w' → wpList P ops Q rest (a.put o.dst (goInt (m.length : Int))) w') : wpList P ops Q (o :: rest) a W := by
  obtain ⟨i, hi, hsi⟩ := Option.map_eq_some_iff.1 hsz
  have hlen := flat_len hk m
  have hcells : (Builtin.firstCells k m.length (.slice A m.length c)).run P W = .ok (m.flatMap enc).toArray W := by
    cases A with
    | none =>
      have hm0 : m = [] := by
        cases m with
        | nil => rfl
        | cons y m => obtain ⟨b, off, e', -⟩ := hsrc 0 y rfl; cases e'
      subst hm0
      exact run_firstCells_none _ _ _ _ _
    | some ad => exact run_firstCells_some (P := P) W k m.length ad m.length c _ hlen (rows_cells hk hk0 m ad hsrc)
  have hst := run_storeCells_at P g 0 e (m.flatMap enc) 0 cur W hg (by rw [hlen, hcur]; omega) (fun v hv => by obtain ⟨x, -, hx⟩ := List.mem_flatMap.1 hv; exact hone x v hx)
  have hX : (cur.toList.take (0 + 0) ++ m.flatMap enc ++ cur.toList.drop (0 + 0 + (m.flatMap enc).length)).toArray = (m.flatMap enc).toArray := by
    rw [List.drop_of_length_le (by rw [hlen, Array.length_toList, hcur]; omega)]
    simp
  rw [hX] at hst
  have hnew : owE e k enc B (W.setRow g (m.flatMap enc).toArray) (.slice (some ⟨g, 0, none⟩) m.length m.length) m := by
    refine ⟨hlen, Or.inr ⟨g, m.length, (m.flatMap enc).toArray, rfl, hB, setRow_heap W g cur _ e _ hg, Nat.le_refl _, hm, by simpa using hlen, ?_⟩⟩
    rw [← hlen]
    exact List.take_length
  refine wpList_plain hgd fun K hK => ?_
  have hmin : Nat.min m.length m.length = m.length := Nat.min_self _
  generalize m.flatMap enc = us at hst hcells hnew
  have hrun : (Builtin.copy_ #[dT, sT] o.type #[.slice (some ⟨g, 0, none⟩) m.length m.length, .slice A m.length c]).run P W = .ok (goInt (m.length : Int)) (W.setRow g us.toArray) := by
    cases A <;> simp [Builtin.copy_, run_underlying hu, Builtin.lenOf, sizeOf, typeInfo, hi, hsi, hmin, hcells, hst]
  unfold Oper.wp
  simp [execOp, ho, resolve, invoke, builtin, hd, hs, hrun]
  exact hK _ _ (h _ hnew (setRow_turned _))
end
end Go.Proofs.YthnimmagaocipaaGreatDoor
set_option linter.unusedVariables false
namespace Go.Proofs.YthnimmagaocipaaGreatDoor
open Go.ChangeShapes Go.WideShapes Go.ChangeAt Go.RowKit

set_option maxRecDepth 100000 in
theorem sizeHold : (Tryz.prog.info? 104).map (·.size) = some 3 := by kernel_rfl
set_option maxRecDepth 100000 in
set_option maxHeartbeats 1600000 in
theorem holdsCopy_any (hi : Nat) (v : Value) (l : List HoldD) (w : World) (hn : l.length ≤ 1048576) (h : HoldsR.rd hi w [v] l) (hh : hi ≤ w.heap.size) :
    Calls Tryz.prog 81 #[v] w (holdsOne l w) := by
  obtain ⟨A, c, rfl, hc, hr⟩ := holds_rd h
  have HSR : Hid (∀ V, Below w.heap.size w V → ∀ (j : Nat) (y : HoldD), l[j]? = some y → ∃ b off, A = some ⟨b, off, none⟩ ∧ atL V b (off + j * 3) (hCells y)) := Lib.hid fun V hV j y hy => by
    obtain ⟨b, off, e, hb, q0, q1, q2⟩ := hr j y hy
    refine ⟨b, off, e, fun t u hu => ?_⟩
    match t, hu with
    | 0, hu => cases hu; exact (hV.cell (p := ⟨b, _, none⟩) (show b < w.heap.size by omega)).trans q0
    | 1, hu => cases hu; exact (hV.cell (p := ⟨b, _, none⟩) (show b < w.heap.size by omega)).trans q1
    | 2, hu => cases hu; exact (hV.cell (p := ⟨b, _, none⟩) (show b < w.heap.size by omega)).trans q2
    | n + 3, hu => simp [hCells] at hu
  have hmk := make_run (P := Tryz.prog) 46 104 #[.string ⟨#[]⟩, .int .i64 0, .int .i64 0] 3 32 Tryz.underlying46 infoHold l.length (by omega) (by omega) w
  clear h hr hc
  have n0 : (0 : Int) ≤ (l.length : Int) := by omega
  go_enter Tryz.func81, Tryz.ntmps81
  go_upto_region 2 with fail
  obtain ⟨W, hW⟩ : ∃ W, W = w.alloc (.cells (madeCells #[.string ⟨#[]⟩, .int .i64 0, .int .i64 0] (l.length * 3)) 104) := ⟨_, rfl⟩
  have hg : W.heap[w.heap.size]? = some (.cells (madeCells #[.string ⟨#[]⟩, .int .i64 0, .int .i64 0] (l.length * 3)) 104 (0, 0)) := by rw [hW]; exact heap_alloc_new w _
  have HB : Hid (Below w.heap.size w W) := Lib.hid (by rw [hW]; exact (Below.refl _ _).alloc (Nat.le_refl _) _)
  rw [← hW]
  clear hW hmk
  have HG := Lib.hid hg
  clear hg
  go_wp2_with (refine wpList_copy_full hCells 3 (fun _ => rfl) (by decide) hCells_one rfl _ _ _ _ rfl 104 Tryz.underlying46 sizeHold w.heap.size W w.heap.size _ HG.out (Nat.le_refl _) l (by simp [size_madeCells]) (by unfold maxLen; omega) A c rfl rfl (HSR.out W HB.out) ?_)
  intro w1 ho ht
  go_wp2
  go_ret
  refine ⟨_, rfl, ?_, HB.out.trans (ht.below (Nat.le_refl _) HB.out.size)⟩
  exact owE_holds ho
set_option maxRecDepth 100000 in
theorem slotsCopy_own (hi : Nat) (v : Value) (l : List SlotD) (w : World) (hn : l.length ≤ 1048576) (hs : ∀ x ∈ l, x.2.2.length ≤ 1048576) (h : SlotsR.rd hi w [v] l) (hh : hi ≤ w.heap.size) :
    Calls Tryz.prog 83 #[v] w (slotsOne l w) := by
  obtain ⟨A, c, ps, rfl, hps, hsn⟩ := slots_seen h
  have hl : l.length = ps.length := by rw [← hps, List.length_map]
  rw [hl]
  have := slotsCopy_any hi A c ps w (by omega) (fun x hx => hs x.1 (by rw [← hps]; exact List.mem_map.2 ⟨x, hx, rfl⟩)) hsn hh
  rw [hps] at this
  exact this
set_option maxRecDepth 100000 in
set_option maxHeartbeats 8000000 in
theorem acctCopy_any (hi : Nat) (vh vc vs vl : Value) (a : AcctD) (w : World) (hz : acctSmall 1048576 a) (h : AcctR.rd hi w (aCells a vh vc vs vl) a) (hh : hi ≤ w.heap.size) :
    Calls Tryz.prog 43 #[.agg #[.string (aId a), .int .i64 (aLim a), .int .i64 (aPos a), .int .i64 (aMost a), .int .i64 (aSum a), vh, .int .i64 (aR a).1, .int .i64 (aR a).2.1, vc, vs, vl]] w (acctOneI a w) := by
  obtain ⟨vh', vc', vs', vl', hcs, r1, r2, r3, r4⟩ := acct_rd h
  simp only [aCells, List.cons.injEq, and_true, true_and] at hcs
  obtain ⟨rfl, rfl, rfl, rfl⟩ := hcs
  clear h
  obtain ⟨z1, z2, z3, z4, z5⟩ := hz
  obtain ⟨id, lim, pos, most, sum, hs, ⟨sp, hd, cs, ss⟩, sl⟩ := a
  simp only [aId, aLim, aPos, aMost, aSum, aH, aS] at r1 r2 r3 r4 z1 z2 z3 z4 z5 ⊢
  obtain ⟨AH, cH, rfl, -⟩ := Rep.slice_form r1
  obtain ⟨AC, cC, rfl, -⟩ := r2.form
  obtain ⟨AS, cS, rfl, -⟩ := r3.form
  obtain ⟨AL, cL, rfl, -⟩ := Rep.slice_form r4
  have HC1 := Lib.hid (fun V (hV : Below w.heap.size w V) => holdsCopy_any hi _ hs V z1 (Rep.below (R := HoldsR) r1 hV hh) (Nat.le_trans hh hV.size))
  have HC2 := Lib.hid (fun V (hV : Below w.heap.size w V) => implCopy_any hi _ _ (sp, hd, cs, ss) V (r2.below hV hh) (r3.below hV hh) (Nat.le_trans hh hV.size) z2 z3)
  have HC3 := Lib.hid (fun V (hV : Below w.heap.size w V) => slotsCopy_own hi _ sl V z4 z5 (Rep.below (R := SlotsR) r4 hV hh) (Nat.le_trans hh hV.size))
  clear r1 r2 r3 r4 z1 z2 z3 z4 z5
  go_enter Tryz.func43, Tryz.ntmps43
  go_upto_region 1 with fail
  obtain ⟨W, hW⟩ : ∃ W, W = (w.alloc (.cells #[.string id, .int .i64 lim, .int .i64 pos, .int .i64 most, .int .i64 sum, .slice AH hs.length cH, .int .i64 sp, .int .i64 hd, .slice AC cs.length cC, .slice AS ss.length cS, .slice AL sl.length cL] 50)).alloc (.cells #[.string ⟨#[]⟩, .int .i64 0, .int .i64 0, .int .i64 0, .int .i64 0, .slice none 0 0, .int .i64 0, .int .i64 0, .slice none 0 0, .slice none 0 0, .slice none 0 0] 50) := ⟨_, rfl⟩
  have b0 : bk W w.heap.size 50 [.string id, .int .i64 lim, .int .i64 pos, .int .i64 most, .int .i64 sum, .slice AH hs.length cH, .int .i64 sp, .int .i64 hd, .slice AC cs.length cC, .slice AS ss.length cS, .slice AL sl.length cL] := by rw [hW]; exact (bk.new w _ _).alloc _
  have b1 : bk W (w.heap.size + 1) 50 [.string ⟨#[]⟩, .int .i64 0, .int .i64 0, .int .i64 0, .int .i64 0, .slice none 0 0, .int .i64 0, .int .i64 0, .slice none 0 0, .slice none 0 0, .slice none 0 0] := by rw [hW]; simpa using bk.new (w.alloc _) 50 [.string ⟨#[]⟩, .int .i64 0, .int .i64 0, .int .i64 0, .int .i64 0, .slice none 0 0, .int .i64 0, .int .i64 0, .slice none 0 0, .slice none 0 0, .slice none 0 0]
  have HB : Hid (Below w.heap.size w W) := Lib.hid (by rw [hW]; exact ((Below.refl _ _).alloc (Nat.le_refl _) _).alloc (by simp) _)
  have y0 : w.heap.size + 2 ≤ W.heap.size := by rw [hW]; simp
  rw [← hW]
  clear hW
  have B0 := Lib.hid b0
  have B1 := Lib.hid b1
  obtain ⟨⟨p0, p1, p2, p3, p4, p5, p6, p7, p8, p9, p10⟩, -⟩ := b0.eleven
  clear b0 b1 p0 p1 p2 p3 p4
  have HBX : Hid (∀ V, Below W.heap.size W V → Below w.heap.size w V) := Lib.hid fun V hV => HB.out.trans (hV.mono (by omega))
  have HD : Hid (Below W.heap.size W W.drew) := Lib.hid (Below.refl _ _).drew
  have HD0 := Lib.hid (HC1.out W.drew (HBX.out _ HD.out))
  go_cut [] (fun wx => ∃ (V : World) (A1 A2 A3 A4 : Option Addr) (c1 c2 c3 c4 : Nat), Hid (Below W.heap.size W V) ∧ Hid (AcctI W.heap.size V.heap.size V (.slice A1 hs.length c1) (.slice A2 cs.length c2) (.slice A3 ss.length c3) (.slice A4 sl.length c4) (id, lim, pos, most, sum, hs, (sp, hd, cs, ss), sl)) ∧ wx = (((((V.setCell ⟨w.heap.size, 5, none⟩ (.slice A1 hs.length c1)).setCell ⟨w.heap.size, 6, none⟩ (.int .i64 sp)).setCell ⟨w.heap.size, 7, none⟩ (.int .i64 hd)).setCell ⟨w.heap.size, 8, none⟩ (.slice A2 cs.length c2)).setCell ⟨w.heap.size, 9, none⟩ (.slice A3 ss.length c3)).setCell ⟨w.heap.size, 10, none⟩ (.slice A4 sl.length c4))
  case first =>
    go_region_law (go_simp; first
      | (go_at_call 81
         (with_reducible refine HD0.out.mono ?_)
         rintro e w1 ⟨u1, rfl, hm1, hb1⟩
         obtain ⟨A1, c1, rfl, -⟩ := Rep.slice_form hm1.rd
         have hx1 : Below W.heap.size W w1 := HD.out.trans (hb1.mono (Nat.le_refl _))
         have HX1 := Lib.hid hx1
         have HM1 := Lib.hid hm1
         have HS1 : Hid (W.heap.size ≤ w1.heap.size) := Lib.hid hx1.size
         obtain ⟨⟨-, -, -, -, -, q5, q6, q7, q8, q9, q10⟩, -⟩ := (B0.out.below hx1 (by omega)).eleven
         have HD1 := Lib.hid (HC2.out w1 (HBX.out _ hx1))
         clear hm1 hb1 hx1)
      | (go_at_call 82
         (with_reducible refine HD1.out.mono ?_)
         rintro e w2 ⟨uc, us, rfl, hm2, hb2⟩
         obtain ⟨uc', us', hue, hq1, hq2⟩ := ring_rd hm2.rd
         simp only [List.cons.injEq, and_true, true_and] at hue
         obtain ⟨rfl, rfl⟩ := hue
         obtain ⟨A2, c2, rfl, -⟩ := hq1.form
         obtain ⟨A3, c3, rfl, -⟩ := hq2.form
         clear hq1 hq2
         have hx2 : Below W.heap.size W w2 := HX1.out.trans (hb2.mono HS1.out)
         have HX2 := Lib.hid hx2
         have HM2 := Lib.hid hm2
         have HY2 := Lib.hid hb2
         have HS2 := Lib.hid hb2.size
         obtain ⟨⟨-, -, -, -, -, r5, r6, r7, r8, r9, r10⟩, -⟩ := (B0.out.below hx2 (by omega)).eleven
         have HD2 := Lib.hid (HC3.out w2 (HBX.out _ hx2))
         clear hm2 hb2 hx2)
      | (go_at_call 83
         (with_reducible refine HD2.out.mono ?_)
         rintro e w3 ⟨u3, rfl, hm3, hb3⟩
         obtain ⟨A4, c4, rfl, -⟩ := Rep.slice_form hm3.rd
         have hx3 : Below W.heap.size W w3 := HX2.out.trans (hb3.mono (Nat.le_trans HS1.out HS2.out))
         have HX3 := Lib.hid hx3
         have HM3 := Lib.hid hm3
         have HY3 := Lib.hid hb3
         obtain ⟨⟨s0, s1, s2, s3, s4, s5, s6, s7, s8, s9, s10⟩, f0, f1, f2, f3, f4, f5, f6, f7, f8, f9, f10⟩ := (B0.out.below hx3 (by omega)).eleven
         clear hm3 hb3 hx3)
      | fail)
    all_goals go_wp2
    all_goals go_meet
    all_goals exact ⟨w3, A1, A2, A3, A4, c1, c2, c3, c4, HX3, Lib.hid (acctI_ivl ((HM1.out.below HY2.out (Nat.le_refl _)).below HY3.out HS2.out) (HM2.out.below HY3.out (Nat.le_refl _)) HM3.out HS1.out HS2.out HY3.out.size), rfl⟩
  case rest =>
    obtain ⟨V, A1, A2, A3, A4, c1, c2, c3, c4, HXV, HAI, hwc⟩ := hcut
    have zV := HXV.out.size
    have hq := (((((((B0.out.below HXV.out (by omega)).set 5 (.slice A1 hs.length c1)).set 6 (.int .i64 sp)).set 7 (.int .i64 hd)).set 8 (.slice A2 cs.length c2)).set 9 (.slice A3 ss.length c3)).set 10 (.slice A4 sl.length c4))
    have ht := (((((((Turned.refl w.heap.size (w.heap.size + 1) V).set (b := w.heap.size) 5 (.slice A1 hs.length c1) (by omega) (by omega)).set (b := w.heap.size) 6 (.int .i64 sp) (by omega) (by omega)).set (b := w.heap.size) 7 (.int .i64 hd) (by omega) (by omega)).set (b := w.heap.size) 8 (.slice A2 cs.length c2) (by omega) (by omega)).set (b := w.heap.size) 9 (.slice A3 ss.length c3) (by omega) (by omega)).set (b := w.heap.size) 10 (.slice A4 sl.length c4) (by omega) (by omega))
    rw [← hwc] at hq ht
    have zc := ht.size
    have HA2 := Lib.hid (HAI.out.turned ht (.inr (by omega)) (Nat.le_refl _))
    have HB2 : Hid (Below w.heap.size w wc) := Lib.hid ((HBX.out V HXV.out).trans (ht.below (B := w.heap.size) (by omega) (by omega)))
    have hq1 := (B1.out.below HXV.out (by omega)).under ht (by omega)
    have hq0 : bk wc w.heap.size 50 [.string id, .int .i64 lim, .int .i64 pos, .int .i64 most, .int .i64 sum, .slice A1 hs.length c1, .int .i64 sp, .int .i64 hd, .slice A2 cs.length c2, .slice A3 ss.length c3, .slice A4 sl.length c4] := hq
    obtain ⟨⟨r0, r1, r2, r3, r4, r5, r6, r7, r8, r9, r10⟩, -⟩ := hq0.eleven
    obtain ⟨⟨u0, u1, u2, u3, u4, u5, u6, u7, u8, u9, u10⟩, g0, g1, g2, g3, g4, g5, g6, g7, g8, g9, g10⟩ := hq1.eleven
    clear hq hq0 hq1 ht hwc p5 p6 p7 p8 p9 p10 HC1 HC2 HC3 HD0 B0 B1 HAI HXV HB HBX HD
    go_wp2
    refine bodyPost_ret (v := .agg #[.string id, .int .i64 lim, .int .i64 pos, .int .i64 most, .int .i64 sum, .slice A1 hs.length c1, .int .i64 sp, .int .i64 hd, .slice A2 cs.length c2, .slice A3 ss.length c3, .slice A4 sl.length c4]) (by simp [results, Tryz.results43, go_sem, u0, u1, u2, u3, u4, u5, u6, u7, u8, u9, u10]) rfl ?_
    have ht := ((((((((((((Turned.refl (w.heap.size + 1) (w.heap.size + 2) wc).set (b := w.heap.size + 1) 0 (.string id) (by omega) (by omega)).set (b := w.heap.size + 1) 1 (.int .i64 lim) (by omega) (by omega)).set (b := w.heap.size + 1) 2 (.int .i64 pos) (by omega) (by omega)).set (b := w.heap.size + 1) 3 (.int .i64 most) (by omega) (by omega)).set (b := w.heap.size + 1) 4 (.int .i64 sum) (by omega) (by omega)).set (b := w.heap.size + 1) 5 (.slice A1 hs.length c1) (by omega) (by omega)).set (b := w.heap.size + 1) 6 (.int .i64 sp) (by omega) (by omega)).set (b := w.heap.size + 1) 7 (.int .i64 hd) (by omega) (by omega)).set (b := w.heap.size + 1) 8 (.slice A2 cs.length c2) (by omega) (by omega)).set (b := w.heap.size + 1) 9 (.slice A3 ss.length c3) (by omega) (by omega)).set (b := w.heap.size + 1) 10 (.slice A4 sl.length c4) (by omega) (by omega))
    have hsz := ht.size
    exact ⟨_, _, _, _, rfl, (HA2.out.turned ht (.inr (by omega)) (by omega)).mono (by omega) (by omega), HB2.out.trans (ht.below (by omega) (by omega))⟩
end Go.Proofs.YthnimmagaocipaaGreatDoor
set_option linter.unusedVariables false
namespace Go.Proofs.YthnimmagaocipaaGreatDoor
open Go.ChangeShapes Go.WideShapes Go.ChangeAt Go.RowKit

set_option maxRecDepth 100000 in
theorem bk.turned {w w' : World} {lo hi g : Nat} {t : TypeId} {cs : List Value} (h : bk w g t cs) (ht : Turned lo hi w w') (hg : g < lo ∨ hi ≤ g) : bk w' g t cs := (ht.block g h.lt (by omega)).trans h
set_option maxRecDepth 100000 in
theorem nums.len {K : IntKind} {lo hi : Nat} {w : World} {A : Option Addr} {n c : Nat} {l : List Int} (h : nums K lo hi w (.slice A n c) l) : n = l.length := by
  obtain ⟨A', c', hv, -⟩ := h
  simp only [Value.slice.injEq] at hv
  exact hv.2.1
end Go.Proofs.YthnimmagaocipaaGreatDoor
set_option linter.unusedVariables false
namespace Go.Proofs.YthnimmagaocipaaGreatDoor
open Go.ChangeShapes Go.WideShapes Go.ChangeAt Go.RowKit

end Go.Proofs.YthnimmagaocipaaGreatDoor
set_option linter.unusedVariables false
namespace Go.Proofs.YthnimmagaocipaaGreatDoor
open Go.ChangeShapes Go.WideShapes Go.ChangeAt Go.RowKit

end Go.Proofs.YthnimmagaocipaaGreatDoor
set_option linter.unusedVariables false
namespace Go.Proofs.YthnimmagaocipaaGreatDoor
open Go.ChangeShapes Go.WideShapes Go.ChangeAt Go.RowKit

set_option maxRecDepth 100000 in
theorem implAcctIdOk_any (s : ByteArray) (w : World) (hs : s.size ≤ maxLen) :
    Calls Tryz.prog 93 #[.string s] w fun e w' => e = .returned (.bool (acctIdB s)) ∧ Below w.heap.size w w' := by
  by_cases h : s.size ≤ 19
  · have HI : Hid (acctIdB s = luOk s) := Lib.hid (by unfold acctIdB; rw [decide_eq_true h]; rfl)
    have HL := Lib.hid (fun w => implLuhnOk_any s w (by omega))
    have h' : (s.size : Int) ≤ 19 := by omega
    rw [HI.out]
    generalize luOk s = b at HL
    go_enter Tryz.func93, Tryz.ntmps93
    go_wp2_with fail
    refine (HL.out _).mono ?_
    rintro e w1 ⟨rfl, hb⟩
    go_wp2
    go_ret
    exact ⟨rfl, hb⟩
  · have HI : Hid (acctIdB s = false) := Lib.hid (by unfold acctIdB; rw [decide_eq_false h]; rfl)
    have h' : ¬ (s.size : Int) ≤ 19 := by omega
    rw [HI.out]
    go_enter Tryz.func93, Tryz.ntmps93
    go_wp2
    go_ret
    exact ⟨rfl, Below.refl _ _⟩
end Go.Proofs.YthnimmagaocipaaGreatDoor
set_option linter.unusedVariables false
namespace Go.Proofs.YthnimmagaocipaaGreatDoor
open Go.ChangeShapes Go.WideShapes Go.ChangeAt Go.RowKit

set_option maxRecDepth 100000 in
theorem implTime_any (n : Int) (w : World) : Calls Tryz.prog 102 #[.int .i64 n] w fun e w' => e = .returned (.bool (timeB n)) ∧ w = w' := by
  by_cases h0 : 0 ≤ n
  all_goals
    go_enter Tryz.func102, Tryz.ntmps102
    go_wp2
    go_ret
    exact ⟨by simp [timeB, inB]; omega, rfl⟩
set_option maxRecDepth 100000 in
theorem implSpan_any (n : Int) (w : World) : Calls Tryz.prog 120 #[.int .i64 n] w fun e w' => e = .returned (.bool (inB n 1 1000)) ∧ w = w' := by
  by_cases h0 : 1 ≤ n
  all_goals
    go_enter Tryz.func120, Tryz.ntmps120
    go_wp2
    go_ret
    exact ⟨by simp [inB]; omega, rfl⟩
set_option maxRecDepth 100000 in
theorem implBuckets_any (n : Int) (w : World) : Calls Tryz.prog 121 #[.int .i64 n] w fun e w' => e = .returned (.bool (inB n 1 8)) ∧ w = w' := by
  by_cases h0 : 1 ≤ n
  all_goals
    go_enter Tryz.func121, Tryz.ntmps121
    go_wp2
    go_ret
    exact ⟨by simp [inB]; omega, rfl⟩
set_option maxRecDepth 100000 in
theorem implIsMon_any (n : Int) (w : World) : Calls Tryz.prog 118 #[.int .i64 n] w fun e w' => e = .returned (.bool (isMon n)) ∧ w = w' := by
  by_cases h0 : 0 ≤ n
  all_goals
    go_enter Tryz.func118, Tryz.ntmps118
    go_wp2
    go_ret
    exact ⟨by simp [isMon]; omega, rfl⟩
set_option maxRecDepth 100000 in
set_option maxHeartbeats 1600000 in
theorem implAll_any (hi : Nat) (v : Value) (l : List Int) (w : World) (h : rd .i64 hi w v l) (hl : l.length ≤ 1048576) :
    Calls Tryz.prog 122 #[v] w fun e w' => e = .returned (.bool (l.all isMon)) ∧ w = w' := by
  obtain ⟨A, c, rfl, -⟩ := h.form
  have HC := Lib.hid h
  clear h
  go_enter Tryz.func122, Tryz.ntmps122
  go_wp2
  go_loop [7] (fun iv => ∃ i : Nat, i ≤ l.length ∧ iv = .int .i64 i ∧ Hid ((l.take i).all isMon = true)) (fun iv => l.length - (intOf iv).toNat)
  case atStart => exact ⟨0, Nat.zero_le _, rfl, Lib.hid rfl⟩
  case round =>
    obtain ⟨i, hi', rfl, HA⟩ := hrel
    by_cases hin : i < l.length
    · obtain ⟨x, hx⟩ : ∃ x, l[i]? = some x := ⟨_, List.getElem?_eq_getElem hin⟩
      obtain ⟨p, o, rfl, hp, d0⟩ := ring_at HC.out hx
      have HX := Lib.hid (all_snoc hx HA.out)
      have HMX := Lib.hid (fun w => implIsMon_any x w)
      have HLX := Lib.hid (all_fail hx)
      have g1 : (i : Int) < (l.length : Int) := by omega
      have g2 : 0 ≤ (i : Int) := by omega
      clear hx
      generalize isMon x = mx at HX HMX HLX
      cases mx
      · have HF := Lib.hid (HLX.out rfl)
        go_wp2_with fail
        refine (HMX.out _).mono ?_
        rintro e w2 ⟨rfl, rfl⟩
        go_wp2
        go_ret
        exact ⟨by rw [HF.out]; rfl, rfl⟩
      · go_wp2_with fail
        refine (HMX.out _).mono ?_
        rintro e w2 ⟨rfl, rfl⟩
        go_wp2
        go_round
        case rel => exact ⟨i + 1, by omega, by go_num, Lib.hid (HX.out trivial)⟩
        case measure => simp [intOf] <;> omega
    · obtain rfl : i = l.length := by omega
      have HF : Hid (l.all isMon = true) := Lib.hid (by have h1 := HA.out; rwa [List.take_length] at h1)
      go_wp2
      go_ret
      exact ⟨by rw [HF.out]; rfl, rfl⟩
set_option maxRecDepth 100000 in
set_option maxHeartbeats 4000000 in
theorem implRingOk_any (hi : Nat) (vc vs : Value) (r : RingD) (w : World) (hc : rd .i64 hi w vc r.2.2.1) (hs : rd .i64 hi w vs r.2.2.2) (hh : hi ≤ w.heap.size) (hlc : r.2.2.1.length ≤ 1048576) (hls : r.2.2.2.length ≤ 1048576) :
    Calls Tryz.prog 96 #[.agg #[.int .i64 r.1, .int .i64 r.2.1, vc, vs]] w fun e w' => e = .returned (.bool (ringOk r)) ∧ Below w.heap.size w w' := by
  obtain ⟨sp, hd, cs, ss⟩ := r
  simp only at hc hs hlc hls ⊢
  obtain ⟨AC, cC, rfl, hcC⟩ := hc.form
  obtain ⟨AS, cS, rfl, hcS⟩ := hs.form
  have HB0 : Hid (Below w.heap.size w (w.alloc (.cells #[.int .i64 sp, .int .i64 hd, .slice AC cs.length cC, .slice AS ss.length cS] 47))) := Lib.hid ((Below.refl _ _).alloc (Nat.le_refl _) _)
  have HE : Hid (ringOk (sp, hd, cs, ss) = ((inB sp 1 1000 && (inB (cs.length : Int) 1 8 && (((cs.length : Int) == (ss.length : Int)) && timeB hd))) && (cs.all isMon && ss.all isMon))) := Lib.hid (by
    have e : decide (ss.length = cs.length) = ((cs.length : Int) == (ss.length : Int)) := by
      by_cases h : ss.length = cs.length
      · rw [h]; simp
      · rw [decide_eq_false h]; symm; simp; omega
    rw [← e]; rfl)
  have HI1 := Lib.hid (fun w => implSpan_any sp w)
  have HI2 := Lib.hid (fun w => implBuckets_any (cs.length : Int) w)
  have HT := Lib.hid (fun w => implTime_any hd w)
  have HA1 := Lib.hid (implAll_any hi _ cs _ (hc.below HB0.out hh) hlc)
  have HA2 := Lib.hid (implAll_any hi _ ss _ (hs.below HB0.out hh) hls)
  clear hc hs
  generalize inB sp 1 1000 = b1 at HI1 HE
  generalize inB (cs.length : Int) 1 8 = b2 at HI2 HE
  generalize timeB hd = b4 at HT HE
  generalize cs.all isMon = m1 at HA1 HE
  generalize ss.all isMon = m2 at HA2 HE
  obtain ⟨d, hd5⟩ : ∃ d, d = ((cs.length : Int) == (ss.length : Int)) := ⟨_, rfl⟩
  rw [← hd5] at HE
  go_enter Tryz.func96, Tryz.ntmps96
  go_wp2_with fail
  refine (HI1.out _).mono ?_
  rintro e w1 ⟨rfl, rfl⟩
  cases b1
  · go_wp2
    go_ret
    exact ⟨by rw [HE.out]; simp, HB0.out⟩
  go_wp2_with fail
  refine (HT.out _).mono ?_
  rintro e w1 ⟨rfl, rfl⟩
  cases b4
  · go_wp2
    go_ret
    exact ⟨by rw [HE.out]; simp, HB0.out⟩
  go_wp2_with fail
  refine (HI2.out _).mono ?_
  rintro e w1 ⟨rfl, rfl⟩
  cases b2
  · go_wp2
    go_ret
    exact ⟨by rw [HE.out]; simp, HB0.out⟩
  cases d
  · replace hd5 := hd5.symm
    go_wp2
    go_ret
    exact ⟨by rw [HE.out]; simp, HB0.out⟩
  replace hd5 := hd5.symm
  go_wp2_with fail
  refine (HA1.out).mono ?_
  rintro e w1 ⟨rfl, rfl⟩
  cases m1
  · go_wp2
    go_ret
    exact ⟨by rw [HE.out]; simp, HB0.out⟩
  go_wp2_with fail
  refine (HA2.out).mono ?_
  rintro e w1 ⟨rfl, rfl⟩
  cases m2
  · go_wp2
    go_ret
    exact ⟨by rw [HE.out]; simp, HB0.out⟩
  go_wp2
  go_ret
  exact ⟨by rw [HE.out]; simp, HB0.out⟩
end Go.Proofs.YthnimmagaocipaaGreatDoor
set_option linter.unusedVariables false
namespace Go.Proofs.YthnimmagaocipaaGreatDoor
open Go.ChangeShapes Go.WideShapes Go.ChangeAt Go.RowKit

/-- the library's handle of the type error -/
def Handle (w : World) : Prop := w.cell? ⟨1, 0, none⟩ = some (.iface RT (.agg #[.pointer (some ⟨2, ER, none⟩)]))
set_option maxRecDepth 100000 in
theorem Handle.lt {w : World} (h : Handle w) : 1 < w.heap.size := by
  unfold Handle at h
  rcases Nat.lt_or_ge 1 w.heap.size with h' | h'
  · exact h'
  · simp [World.cell?, Array.getElem?_eq_none h'] at h
set_option maxRecDepth 100000 in
theorem Handle.below {w w' : World} {B : Nat} (h : Handle w) (hb : Below B w w') (hB : w.heap.size ≤ B) : Handle w' := (hb.cell (p := ⟨_, _, none⟩) (show 1 < B by have := h.lt; omega)).trans h
set_option maxRecDepth 100000 in
theorem Handle.turned {w w' : World} {lo hi : Nat} (h : Handle w) (ht : Turned lo hi w w') (hb : 1 < lo ∨ hi ≤ 1) : Handle w' := (cell_keep (ht.block _ h.lt hb)).trans h
end Go.Proofs.YthnimmagaocipaaGreatDoor
set_option linter.unusedVariables false
namespace Go.Proofs.YthnimmagaocipaaGreatDoor
open Go.ChangeShapes Go.WideShapes Go.ChangeAt Go.RowKit

set_option maxRecDepth 100000 in
theorem implLimit_any (n : Int) (w : World) : Calls Tryz.prog 117 #[.int .i64 n] w fun e w' => e = .returned (.bool (inB n 0 9007199254740992)) ∧ w = w' := by
  by_cases h0 : 0 ≤ n
  all_goals
    go_enter Tryz.func117, Tryz.ntmps117
    go_wp2
    go_ret
    exact ⟨by simp [inB]; omega, rfl⟩
/-- are the four numbers in their ranges -/
def amtsB (l p m s : Int) : Bool := inB l 0 9007199254740992 && (isMon p && (inB m 0 1000 && inB s 0 9007199254740992))
set_option maxRecDepth 100000 in
set_option maxHeartbeats 1600000 in
theorem implInRange_any (l p m s : Int) (w : World) :
    Calls Tryz.prog 94 #[.agg #[.int .i64 l, .int .i64 p, .int .i64 m, .int .i64 s]] w fun e w' => e = .returned (.bool (amtsB l p m s)) ∧ Below w.heap.size w w' := by
  have HE : Hid (amtsB l p m s = (inB l 0 9007199254740992 && (isMon p && (inB m 0 1000 && inB s 0 9007199254740992)))) := Lib.hid rfl
  have H1 := Lib.hid (fun w => implLimit_any l w)
  have H2 := Lib.hid (fun w => implIsMon_any p w)
  have H3 := Lib.hid (fun w => implLimit_any s w)
  have HM : Hid (inB m 0 1000 = (decide (0 ≤ m) && decide (m ≤ 1000))) := Lib.hid (by unfold inB; rw [Bool.decide_and])
  have HB0 : Hid (∀ o, Below w.heap.size w (w.alloc o)) := Lib.hid fun o => (Below.refl _ _).alloc (Nat.le_refl _) _
  generalize inB l 0 9007199254740992 = b1 at HE H1
  generalize isMon p = b2 at HE H2
  generalize inB s 0 9007199254740992 = b4 at HE H3
  rw [HM.out] at HE
  generalize amtsB l p m s = res at HE ⊢
  go_enter Tryz.func94, Tryz.ntmps94
  go_wp2_with fail
  refine (H1.out _).mono ?_
  rintro e w1 ⟨rfl, rfl⟩
  cases b1
  · go_wp2
    go_ret
    exact ⟨by rw [HE.out]; rfl, HB0.out _⟩
  go_wp2_with fail
  refine (H2.out _).mono ?_
  rintro e w1 ⟨rfl, rfl⟩
  cases b2
  · go_wp2
    go_ret
    exact ⟨by rw [HE.out]; rfl, HB0.out _⟩
  by_cases m0 : 0 ≤ m
  rotate_left
  · have HN := Lib.hid (HE.out.trans (show _ = false by rw [decide_eq_false m0]; rfl))
    go_wp2
    go_ret
    exact ⟨by rw [HN.out]; rfl, HB0.out _⟩
  by_cases m1 : m ≤ 1000
  rotate_left
  · have HN := Lib.hid (HE.out.trans (show _ = false by rw [decide_eq_false m1]; simp))
    go_wp2
    go_ret
    exact ⟨by rw [HN.out]; rfl, HB0.out _⟩
  have HN := Lib.hid (HE.out.trans (show _ = b4 by rw [decide_eq_true m1, decide_eq_true m0]; rfl))
  go_wp2_with fail
  refine (H3.out _).mono ?_
  rintro e w1 ⟨rfl, rfl⟩
  go_wp2
  go_ret
  exact ⟨by rw [HN.out]; rfl, HB0.out _⟩
set_option maxRecDepth 100000 in
theorem implCovers_any (l p m s h : Int) (w : World) (hg : Handle w) :
    Calls Tryz.prog 98 #[.agg #[.int .i64 l, .int .i64 p, .int .i64 m, .int .i64 s], .int .i64 h] w fun e w' => e = .returned (.bool (decide (satVal p h ≤ l))) ∧ Below w.heap.size w w' := by
  have HB0 : Hid (Below w.heap.size w (w.alloc (.cells #[.int .i64 l, .int .i64 p, .int .i64 m, .int .i64 s] 86))) := Lib.hid ((Below.refl _ _).alloc (Nat.le_refl _) _)
  have b0 := bk.new w 86 [.int .i64 l, .int .i64 p, .int .i64 m, .int .i64 s]
  have b0 : bk (w.alloc (.cells #[.int .i64 l, .int .i64 p, .int .i64 m, .int .i64 s] 86)) w.heap.size 86 [.int .i64 l, .int .i64 p, .int .i64 m, .int .i64 s] := b0
  have HSA := Lib.hid (fun W (hW : Below w.heap.size w W) => implSat_any p h W (hg.below hW (Nat.le_refl _)))
  generalize satVal p h = sv at HSA ⊢
  go_enter Tryz.func98, Tryz.ntmps98
  go_upto_region 1 with fail
  obtain ⟨W, hW⟩ : ∃ W, W = w.alloc (.cells #[.int .i64 l, .int .i64 p, .int .i64 m, .int .i64 s] 86) := ⟨_, rfl⟩
  rw [← hW] at HB0 b0 ⊢
  clear hW hg
  obtain ⟨⟨p0, p1, p2, p3⟩, -⟩ := b0.cells
  have z0 := b0.lt
  have P0 := Lib.hid p0
  have P1 := Lib.hid p1
  clear p0 p1 p2 p3 b0
  have HBX : Hid (∀ V, Ext W V → Below w.heap.size w V) := Lib.hid fun V hV => HB0.out.trans (hV.below.mono (by omega))
  have HX : Hid (Ext W W.drew) := Lib.hid (Ext.refl W).drew
  by_cases hle : sv ≤ l
  all_goals
    refine quiet_region (C := Ext W) (by kernel_rfl) (by kernel_rfl) HX.out ?_
    repeat (first
      | go_big_quiet_skip
      | (go_big_quiet_want; go_big_quiet_op; go_big_quiet_on)
      | (go_big_quiet_want; go_big_quiet_op; apply Exists.intro; refine ⟨fun _ _ => rfl, ?_⟩; go_big_quiet_on)
      | (go_big_quiet_want
         apply Exists.intro
         refine ⟨fun V hV => ?_, ?_⟩
         (have q0 := hV.cell P0.out (by omega)
          have q1 := hV.cell P1.out (by omega)
          unfold Oper.quietAt
          go_simp
          rfl)
         simp only [Act.put, List.setIfInBounds_toArray, List.set_cons_zero, List.set_cons_succ]
         go_big_quiet_on)
      | (go_big_quiet_want
         apply Exists.intro
         refine ⟨fun V hV => ?_, ?_⟩
         (unfold Oper.quietAt
          go_simp
          go_at_call 125
          refine (HSA.out V (HBX.out V hV)).mono ?_
          rintro e w4 ⟨rfl, hb4⟩
          exact ⟨rfl, hV.step hb4⟩)
         simp only [Act.put, List.setIfInBounds_toArray, List.set_cons_zero, List.set_cons_succ]
         go_big_quiet_on)
      | fail)
    refine wpQuiet_nil ?_
    intro W4 hW4
    go_wp2
    go_ret
    exact ⟨by simp [hle], HBX.out W4 hW4⟩
end Go.Proofs.YthnimmagaocipaaGreatDoor
set_option linter.unusedVariables false
namespace Go.Proofs.YthnimmagaocipaaGreatDoor
open Go.ChangeShapes Go.WideShapes Go.ChangeAt Go.RowKit

set_option maxRecDepth 100000 in
set_option maxHeartbeats 1600000 in
/-- an account's cells as the program's own account holds them -/
theorem implAccountOf_any (id : ByteArray) (l p m s : Int) (A1 : Option Addr) (n1 c1 : Nat) (rs rh : Int) (A2 : Option Addr) (n2 c2 : Nat) (A3 : Option Addr) (n3 c3 : Nat) (A4 : Option Addr) (n4 c4 : Nat) (w : World) :
    Calls Tryz.prog 58 #[.agg #[.string id, .int .i64 l, .int .i64 p, .int .i64 m, .int .i64 s, .slice A1 n1 c1, .int .i64 rs, .int .i64 rh, .slice A2 n2 c2, .slice A3 n3 c3, .slice A4 n4 c4]] w fun e w' => e = .returned (.agg #[.int .i64 l, .int .i64 p, .int .i64 m, .int .i64 s, .string id, .slice A1 n1 c1, .int .i64 rs, .int .i64 rh, .slice A2 n2 c2, .slice A3 n3 c3, .slice A4 n4 c4]) ∧ Below w.heap.size w w' := by
  go_enter Tryz.func58, Tryz.ntmps58
  go_upto_region 1 with fail
  obtain ⟨W, hW⟩ : ∃ W, W = (w.alloc (.cells #[.string id, .int .i64 l, .int .i64 p, .int .i64 m, .int .i64 s, .slice A1 n1 c1, .int .i64 rs, .int .i64 rh, .slice A2 n2 c2, .slice A3 n3 c3, .slice A4 n4 c4] 50)).alloc (.cells #[.int .i64 0, .int .i64 0, .int .i64 0, .int .i64 0, .string ⟨#[]⟩, .slice none 0 0, .int .i64 0, .int .i64 0, .slice none 0 0, .slice none 0 0, .slice none 0 0] 88) := ⟨_, rfl⟩
  have b0 : bk W w.heap.size 50 [.string id, .int .i64 l, .int .i64 p, .int .i64 m, .int .i64 s, .slice A1 n1 c1, .int .i64 rs, .int .i64 rh, .slice A2 n2 c2, .slice A3 n3 c3, .slice A4 n4 c4] := by rw [hW]; exact (bk.new w _ _).alloc _
  have b1 : bk W (w.heap.size + 1) 88 [.int .i64 0, .int .i64 0, .int .i64 0, .int .i64 0, .string ⟨#[]⟩, .slice none 0 0, .int .i64 0, .int .i64 0, .slice none 0 0, .slice none 0 0, .slice none 0 0] := by rw [hW]; simpa using bk.new (w.alloc _) 88 [.int .i64 0, .int .i64 0, .int .i64 0, .int .i64 0, .string ⟨#[]⟩, .slice none 0 0, .int .i64 0, .int .i64 0, .slice none 0 0, .slice none 0 0, .slice none 0 0]
  have HB : Hid (Below w.heap.size w W) := Lib.hid (by rw [hW]; exact ((Below.refl _ _).alloc (Nat.le_refl _) _).alloc (by simp) _)
  have z : w.heap.size + 2 ≤ W.heap.size := by rw [hW]; simp
  rw [← hW]
  clear hW
  obtain ⟨⟨p0, p1, p2, p3, p4, p5, p6, p7, p8, p9, p10⟩, -⟩ := b0.eleven
  obtain ⟨⟨r0, r1, r2, r3, r4, r5, r6, r7, r8, r9, r10⟩, g0, g1, g2, g3, g4, g5, g6, g7, g8, g9, g10⟩ := b1.eleven
  clear b0 b1
  go_wp2
  refine bodyPost_ret (v := .agg #[.int .i64 l, .int .i64 p, .int .i64 m, .int .i64 s, .string id, .slice A1 n1 c1, .int .i64 rs, .int .i64 rh, .slice A2 n2 c2, .slice A3 n3 c3, .slice A4 n4 c4]) (by simp [results, Tryz.results58, go_sem, r0, r1, r2, r3, r4, r5, r6, r7, r8, r9, r10]) rfl ?_
  refine ⟨rfl, ?_⟩
  repeat (refine Below.setCell ?_ (by simp <;> omega) _)
  exact HB.out
end Go.Proofs.YthnimmagaocipaaGreatDoor
set_option linter.unusedVariables false
namespace Go.Proofs.YthnimmagaocipaaGreatDoor
open Go.ChangeShapes Go.WideShapes Go.ChangeAt Go.RowKit

set_option maxRecDepth 100000 in
theorem empty_yes (s : ByteArray) (h : ¬ 0 < s.size) : s.toList.isEmpty = true := by
  have := not_empty s
  rw [decide_eq_false h] at this
  simpa using this
set_option maxRecDepth 100000 in
theorem empty_no (s : ByteArray) (h : 0 < s.size) : s.toList.isEmpty = false := by
  have := not_empty s
  rw [decide_eq_true h] at this
  simpa using this
end Go.Proofs.YthnimmagaocipaaGreatDoor
set_option linter.unusedVariables false
namespace Go.Proofs.YthnimmagaocipaaGreatDoor
open Go.ChangeShapes Go.WideShapes Go.ChangeAt Go.RowKit

set_option maxRecDepth 100000 in
/-- a small letter, at a place: its character -/
theorem rune_low (s : ByteArray) (pos : Nat) (h : pos < s.size) (hd : isDig s[pos] = false) (hc : idCh s[pos] = true) : Utf8.decode s pos = (s[pos].toNat, 1) ∧ runeDig (s[pos].toNat : Int) = false ∧ (97 : Int) ≤ (s[pos].toNat : Int) ∧ (s[pos].toNat : Int) ≤ 122 := by
  have h1 := (isDig_no _).1 hd
  have h2 : 48 ≤ s[pos].toNat ∧ s[pos].toNat ≤ 57 ∨ 97 ≤ s[pos].toNat ∧ s[pos].toNat ≤ 122 := of_decide_eq_true hc
  have h3 : 97 ≤ s[pos].toNat ∧ s[pos].toNat ≤ 122 := by omega
  exact ⟨decode_ascii s pos h (by omega), by simp [runeDig]; omega, by omega, by omega⟩
set_option maxRecDepth 100000 in
/-- no sign of an id, at a place: its character -/
theorem rune_none (s : ByteArray) (pos : Nat) (h : pos < s.size) (hc : idCh s[pos] = false) : runeDig ((Utf8.decode s pos).1 : Int) = false ∧ (((Utf8.decode s pos).1 : Int) < 97 ∨ 122 < ((Utf8.decode s pos).1 : Int)) := by
  have h2 : ¬ (48 ≤ s[pos].toNat ∧ s[pos].toNat ≤ 57 ∨ 97 ≤ s[pos].toNat ∧ s[pos].toNat ≤ 122) := of_decide_eq_false hc
  rcases Nat.lt_or_ge s[pos].toNat 128 with h1 | h1
  · rw [decode_ascii s pos h h1]
    exact ⟨by simp [runeDig]; omega, by show (s[pos].toNat : Int) < 97 ∨ 122 < (s[pos].toNat : Int); omega⟩
  · have := (decode_high s pos h h1).1
    exact ⟨by simp [runeDig]; omega, .inr (by omega)⟩
set_option maxRecDepth 100000 in
theorem idOk_end {s : ByteArray} {k : Nat} (hk : ¬ k < s.size) (h : (s.data.toList.take k).all idCh = true) : idOk s = decide (0 < s.size ∧ s.size ≤ 6) := by
  rw [take_end s k hk] at h
  rw [idOk_yes h]
  unfold inB
  exact decide_eq_decide.2 ⟨fun ⟨_, _⟩ => ⟨by omega, by omega⟩, fun ⟨_, _⟩ => ⟨by omega, by omega⟩⟩
set_option maxRecDepth 100000 in
set_option maxHeartbeats 1600000 in
theorem implHoldIdOk_any (s : ByteArray) (w : World) (hs : s.size ≤ maxLen) :
    Calls Tryz.prog 134 #[.string s] w fun e w' => e = .returned (.bool (idOk s)) ∧ Below w.heap.size w w' := by
  unfold maxLen at hs
  go_enter Tryz.func134, Tryz.ntmps134
  go_wp2
  go_loopw [2] (fun _ wr => ∃ k : Nat, k ≤ s.size ∧ wr = w.iter s k ∧ (s.data.toList.take k).all idCh = true) (fun _ wr => s.size - wr.iterPos w.heap.size)
  case atStart => exact ⟨0, Nat.zero_le _, rfl, rfl⟩
  case round =>
    obtain ⟨k, hk, rfl, ha0⟩ := hrel
    have ha := Lib.hid ha0
    clear ha0
    by_cases hlt : k < s.size
    · cases hc : idCh s[k]
      · obtain ⟨hr, hr2⟩ := rune_none s k hlt hc
        have HF := Lib.hid (idOk_not (all_not (p := idCh) hlt hc))
        have hnx : ∀ ty, (Instr.next (.pointer (some ⟨w.heap.size, 0, none⟩)) true ty).run Tryz.prog (w.iter s k) = _ := fun ty => run_next_any w s k ty hlt
        generalize hq : Utf8.decode s k = q at hnx hr hr2
        obtain ⟨r, wd⟩ := q
        clear hq
        simp only at hr hr2
        rcases hr2 with hr2 | hr2
        · go_wp2_with (go_at_call 141; refine (isDigit_any _ _).mono ?_; rintro e w' ⟨rfl, rfl⟩)
          go_ret
          exact ⟨ret_bool HF.out.symm, below_iter _ _ _⟩
        · have hr3 : ¬ (r : Int) < 97 := by omega
          go_wp2_with (go_at_call 141; refine (isDigit_any _ _).mono ?_; rintro e w' ⟨rfl, rfl⟩)
          go_ret
          exact ⟨ret_bool HF.out.symm, below_iter _ _ _⟩
      · have hb := Lib.hid (all_step (p := idCh) hlt ha.out hc)
        have hnx : ∀ ty, (Instr.next (.pointer (some ⟨w.heap.size, 0, none⟩)) true ty).run Tryz.prog (w.iter s k) = _ := fun ty => run_next_any w s k ty hlt
        cases hd : isDig s[k]
        · obtain ⟨hdec, hr, hr2, hr3⟩ := rune_low s k hlt hd hc
          rw [hdec] at hnx
          clear hdec hd hc
          go_wp2_with (go_at_call 141; refine (isDigit_any _ _).mono ?_; rintro e w' ⟨rfl, rfl⟩)
          go_roundw
          case rel => exact ⟨k + 1, by omega, rfl, hb.out⟩
          case measure => simp <;> omega
        · obtain ⟨hdec, hr⟩ := rune_dig s k hlt hd
          rw [hdec] at hnx
          clear hdec hd hc
          go_wp2_with (go_at_call 141; refine (isDigit_any _ _).mono ?_; rintro e w' ⟨rfl, rfl⟩)
          go_roundw
          case rel => exact ⟨k + 1, by omega, rfl, hb.out⟩
          case measure => simp <;> omega
    · have HV := Lib.hid (idOk_end hlt ha.out)
      have hnx : ∀ ty, (Instr.next (.pointer (some ⟨w.heap.size, 0, none⟩)) true ty).run Tryz.prog (w.iter s k) = _ := fun ty => run_next_end w s k ty hlt
      by_cases h0 : 0 < s.size
      · have hE := empty_no s h0
        go_wp2
        go_ret
        exact ⟨ret_bool (by rw [HV.out]; exact decide_eq_decide.2 ⟨fun _ => ⟨h0, by omega⟩, fun _ => by omega⟩), below_iter _ _ _⟩
      · have hE := empty_yes s h0
        go_wp2
        go_ret
        exact ⟨ret_bool (by rw [HV.out]; exact (decide_eq_false (fun h => h0 h.1)).symm), below_iter _ _ _⟩
set_option maxRecDepth 100000 in
set_option maxHeartbeats 1600000 in
theorem implHoldOk_any (x : HoldD) (w : World) (hs : x.1.size ≤ maxLen) :
    Calls Tryz.prog 119 #[.agg #[.string x.1, .int .i64 x.2.1, .int .i64 x.2.2]] w fun e w' => e = .returned (.bool (holdOk x)) ∧ Below w.heap.size w w' := by
  obtain ⟨id, am, du⟩ := x
  have HI := Lib.hid (fun w => implHoldIdOk_any id w hs)
  have HT := Lib.hid (fun w => implTime_any du w)
  have HD : Hid (holdOk (id, am, du) = (idOk id && (inB am 1 9007199254740992 && timeB du))) := Lib.hid rfl
  have HA1 : Hid (inB am 1 9007199254740992 = (decide (1 ≤ am) && decide (am ≤ 9007199254740992))) := Lib.hid (Bool.decide_and ..)
  clear hs
  generalize idOk id = b1 at HI HD
  generalize timeB du = b3 at HT HD
  obtain ⟨W, hW⟩ : ∃ W, W = w.alloc (.cells #[.string id, .int .i64 am, .int .i64 du] 104) := ⟨_, rfl⟩
  have b0 : bk W w.heap.size 104 [.string id, .int .i64 am, .int .i64 du] := by rw [hW]; exact bk.new w _ _
  have HB0 : Hid (Below w.heap.size w W) := Lib.hid (by rw [hW]; exact (Below.refl _ _).alloc (Nat.le_refl _) _)
  have z0 := b0.lt
  go_enter Tryz.func119, Tryz.ntmps119
  go_upto_region 1 with fail
  rw [← hW]
  clear hW
  obtain ⟨p0, p1, p2⟩ := b0.cells3
  go_wp2_with fail
  refine (HI.out _).mono ?_
  rintro e w1 ⟨rfl, hb1⟩
  have HB1 : Hid (Below w.heap.size w w1) := Lib.hid (HB0.out.trans (hb1.mono (by omega)))
  replace b0 := b0.below hb1 z0
  clear hb1 p0 p1 p2
  obtain ⟨p0, p1, p2⟩ := b0.cells3
  clear b0
  cases b1
  · have HV : Hid (holdOk (id, am, du) = false) := Lib.hid (by rw [HD.out]; rfl)
    go_wp2
    go_ret
    exact ⟨ret_bool HV.out.symm, HB1.out⟩
  by_cases h1 : 1 ≤ am
  · by_cases h2 : am ≤ 9007199254740992
    · have HV : Hid (holdOk (id, am, du) = b3) := Lib.hid (by rw [HD.out, HA1.out, decide_eq_true h1, decide_eq_true h2]; rfl)
      go_wp2_with fail
      refine (HT.out _).mono ?_
      rintro e w2 ⟨rfl, rfl⟩
      go_wp2
      go_ret
      exact ⟨ret_bool HV.out.symm, HB1.out⟩
    · have HV : Hid (holdOk (id, am, du) = false) := Lib.hid (by rw [HD.out, HA1.out, decide_eq_false h2, Bool.and_false]; rfl)
      go_wp2
      go_ret
      exact ⟨ret_bool HV.out.symm, HB1.out⟩
  · have HV : Hid (holdOk (id, am, du) = false) := Lib.hid (by rw [HD.out, HA1.out, decide_eq_false h1]; rfl)
    go_wp2
    go_ret
    exact ⟨ret_bool HV.out.symm, HB1.out⟩
end Go.Proofs.YthnimmagaocipaaGreatDoor
set_option linter.unusedVariables false
namespace Go.Proofs.YthnimmagaocipaaGreatDoor
open Go.ChangeShapes Go.WideShapes Go.ChangeAt Go.RowKit

set_option maxRecDepth 100000 in
set_option maxHeartbeats 1600000 in
theorem implHoldsOk_any (hi : Nat) (v : Value) (l : List HoldD) (w : World) (hn : l.length ≤ 1048576) (hs : ∀ x ∈ l, x.1.size ≤ maxLen) (h : HoldsR.rd hi w [v] l) (hh : hi ≤ w.heap.size) :
    Calls Tryz.prog 95 #[v] w fun e w' => e = .returned (.bool (holdsOk l)) ∧ Below w.heap.size w w' := by
  obtain ⟨A, c, rfl, hc, h⟩ := holds_rd h
  have HR := Lib.hid h
  have HS := Lib.hid hs
  clear h hs
  by_cases hbig : 4 < l.length
  · have HV : Hid (holdsOk l = false) := Lib.hid (by unfold holdsOk; rw [decide_eq_false (by omega), Bool.and_false])
    have g0 : (4 : Int) < (l.length : Int) := by omega
    go_enter Tryz.func95, Tryz.ntmps95
    go_wp2
    go_ret
    exact ⟨ret_bool HV.out.symm, Below.refl _ _⟩
  have g0 : ¬ (4 : Int) < (l.length : Int) := by omega
  have HST : Hid (Value.string ⟨#[]⟩ = .string (befH l 0)) := Lib.hid rfl
  go_enter Tryz.func95, Tryz.ntmps95
  go_wp2
  go_loopw [3, 11] (fun bv iv wr => ∃ i : Nat, i ≤ l.length ∧ iv = .int .i64 i ∧ bv = .string (befH l i) ∧ Hid ((List.range i).all (holdAtOk l) = true) ∧ Hid (Below w.heap.size w wr) ∧ w.heap.size ≤ wr.heap.size) (fun _ iv _ => l.length - (intOf iv).toNat)
  case atStart => exact ⟨0, Nat.zero_le _, rfl, HST.out, Lib.hid rfl, Lib.hid (Below.refl _ _), Nat.le_refl _⟩
  case round =>
    obtain ⟨i, hi', rfl, rfl, HN, HB, hz⟩ := hrel
    by_cases hin : i < l.length
    · obtain ⟨x, hx⟩ : ∃ x, l[i]? = some x := ⟨_, List.getElem?_eq_getElem hin⟩
      obtain ⟨b, off, rfl, hbl, c0, c1, c2⟩ := HR.out i x hx
      have HXD := Lib.hid (holdAt_bef hx)
      have HNX := Lib.hid (befH_next hx)
      have hxs := HS.out x (List.mem_of_getElem? hx)
      have HOK := Lib.hid (fun W => implHoldOk_any x W hxs)
      have HNO := Lib.hid (fun h => holds_ok_not (l := l) hin h)
      have HSN := Lib.hid (fun h => range_snoc (l := l) HN.out h)
      clear hx
      generalize befH l i = bf at HXD
      generalize holdOk x = hk at HXD HOK
      have c0 := (HB.out.cell (p := ⟨b, off + i * 3, none⟩) (show b < w.heap.size by omega)).trans c0
      have c1 := (HB.out.cell (p := ⟨b, off + i * 3 + 1, none⟩) (show b < w.heap.size by omega)).trans c1
      have c2 := (HB.out.cell (p := ⟨b, off + i * 3 + 2, none⟩) (show b < w.heap.size by omega)).trans c2
      have g1 : (i : Int) < (l.length : Int) := by omega
      have g2 : 0 ≤ (i : Int) := by omega
      go_upto_region 7 with fail
      obtain ⟨W, hW⟩ : ∃ W, W = wr.alloc (.cells #[.string x.1, .int .i64 x.2.1, .int .i64 x.2.2] 104) := ⟨_, rfl⟩
      have b0 : bk W wr.heap.size 104 [.string x.1, .int .i64 x.2.1, .int .i64 x.2.2] := by rw [hW]; exact bk.new wr _ _
      have HB0 : Hid (Below w.heap.size w W) := Lib.hid (by rw [hW]; exact HB.out.alloc hz _)
      have z0 := b0.lt
      rw [← hW]
      clear hW c0 c1 c2
      obtain ⟨p0, p1, p2⟩ := b0.cells3
      go_wp2_with fail
      refine (HOK.out _).mono ?_
      rintro e w1 ⟨rfl, hb1⟩
      have HB1 : Hid (Below w.heap.size w w1) := Lib.hid (HB0.out.trans (hb1.mono (by omega)))
      have z1 := hb1.size
      replace b0 := b0.below hb1 z0
      clear hb1 p0 p1 p2
      obtain ⟨p0, p1, p2⟩ := b0.cells3
      clear b0
      cases hk
      · have HF : Hid (holdsOk l = false) := Lib.hid (HNO.out (by rw [HXD.out]; rfl))
        go_wp2
        go_ret
        exact ⟨ret_bool HF.out.symm, HB1.out⟩
      rcases str_cmp x.1 bf with ⟨-, h2, h3, h4⟩ | ⟨-, h2⟩ | ⟨-, h2, h3, h4⟩
      · have HF : Hid (holdsOk l = false) := Lib.hid (HNO.out (by rw [HXD.out, h3]; rfl))
        have h5 : Op.bytesLess x.1.toList bf.toList = true := h2
        clear h2 h3 h4
        go_wp2
        go_ret
        exact ⟨ret_bool HF.out.symm, HB1.out⟩
      · have HF : Hid (holdsOk l = false) := Lib.hid (HNO.out (by rw [HXD.out, h2, strLt_irrefl]; rfl))
        have h5 : (x.1.toList == bf.toList) = true := by rw [h2]; simp
        clear h2
        go_wp2
        go_ret
        exact ⟨ret_bool HF.out.symm, HB1.out⟩
      · have HT : Hid ((List.range (i + 1)).all (holdAtOk l) = true) := Lib.hid (HSN.out (by rw [HXD.out, h2]; rfl))
        have h5 : Op.bytesLess x.1.toList bf.toList = false := h3
        have h6 : (x.1.toList == bf.toList) = false := by simpa using fun e => h4 (str_eq_list.1 e)
        have h7 : ¬ x.1.toList = bf.toList := fun e => h4 (str_eq_list.1 e)
        clear h2 h3 h4
        go_wp2
        go_roundw
        case rel => exact ⟨i + 1, by omega, by go_num, by rw [HNX.out], HT, HB1, by omega⟩
        case measure => simp [intOf] <;> omega
    · obtain rfl : i = l.length := by omega
      have HV : Hid (holdsOk l = true) := Lib.hid (by rw [holds_ok_end HN.out]; exact decide_eq_true (by omega))
      go_wp2
      go_ret
      exact ⟨ret_bool HV.out.symm, HB.out⟩
end Go.Proofs.YthnimmagaocipaaGreatDoor
set_option linter.unusedVariables false
namespace Go.Proofs.YthnimmagaocipaaGreatDoor
open Go.ChangeShapes Go.WideShapes Go.ChangeAt Go.RowKit

/-- the holds that stay -/
def staysP (p : HoldD → Bool) (l : List HoldD) : List HoldD := l.filter fun x => !p x
set_option maxRecDepth 100000 in
theorem stays_all {p : HoldD → Bool} {l : List HoldD} (h : ∀ x ∈ l, p x = false) : staysP p l = l := List.filter_eq_self.2 fun x hx => by rw [h x hx]; rfl
set_option maxRecDepth 100000 in
theorem stays_next {p : HoldD → Bool} {l : List HoldD} {j : Nat} {x : HoldD} (hx : l[j]? = some x) : staysP p (l.take (j + 1)) = if p x = true then staysP p (l.take j) else staysP p (l.take j) ++ [x] := by
  obtain ⟨hj, rfl⟩ := List.getElem?_eq_some_iff.1 hx
  unfold staysP
  rw [List.take_succ_eq_append_getElem hj, List.filter_append]
  cases hp : p l[j] <;> simp [hp]
/-- n holds in block g, the first i of them those of l's first j that stay, from j on l's own -/
def cutH (p : HoldD → Bool) (l : List HoldD) (g i j : Nat) (w : World) : Prop := ∃ L : List HoldD, L.length = l.length ∧ L.take i = staysP p (l.take j) ∧ L.drop j = l.drop j ∧ i < j ∧ j ≤ l.length ∧ filled w g 0 3 l.length l.length fun k => hCells (L.getD k noH)
set_option maxRecDepth 100000 in
theorem cutH.keep {p : HoldD → Bool} {l : List HoldD} {g i j : Nat} {w w' : World} (h : cutH p l g i j w) (hk : w'.heap[g]? = w.heap[g]?) : cutH p l g i j w' := by
  obtain ⟨L, h1, h2, h3, h4, h5, h6⟩ := h
  exact ⟨L, h1, h2, h3, h4, h5, h6.keep hk⟩
set_option maxRecDepth 100000 in
theorem cutH.lt {p : HoldD → Bool} {l : List HoldD} {g i j : Nat} {w : World} (h : cutH p l g i j w) : i < j ∧ j ≤ l.length := by
  obtain ⟨L, h1, h2, h3, h4, h5, h6⟩ := h
  exact ⟨h4, h5⟩
set_option maxRecDepth 100000 in
theorem cutH.start {p : HoldD → Bool} {l : List HoldD} {g i : Nat} {w : World} {x : HoldD} (hx : l[i]? = some x) (he : p x = true) (h : ∀ y ∈ l.take i, p y = false) (hr : filled w g 0 3 l.length l.length fun k => hCells (l.getD k noH)) : cutH p l g i (i + 1) w := by
  have hi := (List.getElem?_eq_some_iff.1 hx).1
  refine ⟨l, rfl, ?_, rfl, by omega, by omega, hr⟩
  rw [stays_next hx, if_pos he, stays_all h]
set_option maxRecDepth 100000 in
/-- the next element, as it lies -/
theorem cutH.next {p : HoldD → Bool} {l : List HoldD} {g i j : Nat} {w : World} (h : cutH p l g i j w) {x : HoldD} (hx : l[j]? = some x) : w.cell? ⟨g, j * 3, none⟩ = some (.string x.1) ∧ w.cell? ⟨g, j * 3 + 1, none⟩ = some (.int .i64 x.2.1) ∧ w.cell? ⟨g, j * 3 + 2, none⟩ = some (.int .i64 x.2.2) := by
  obtain ⟨L, h1, h2, h3, h4, h5, h6⟩ := h
  have hj := (List.getElem?_eq_some_iff.1 hx).1
  have e : L[j]? = some x := by
    have e1 : L[j]? = (L.drop j)[0]? := by rw [List.getElem?_drop, Nat.add_zero]
    rw [e1, h3, List.getElem?_drop, Nat.add_zero, hx]
  have ha := h6.at_ j hj
  have e2 : L.getD j noH = x := by rw [List.getD_eq_getElem?_getD, e]; rfl
  rw [e2, Nat.zero_add] at ha
  exact ⟨ha 0 _ rfl, ha 1 _ rfl, ha 2 _ rfl⟩
set_option maxRecDepth 100000 in
/-- the place that is written, as it lies -/
theorem cutH.place {p : HoldD → Bool} {l : List HoldD} {g i j : Nat} {w : World} (h : cutH p l g i j w) : ∀ t, t < 3 → (∃ u, w.cell? ⟨g, i * 3 + t, none⟩ = some u) ∧ w.frozen? ⟨g, i * 3 + t, none⟩ = false := by
  obtain ⟨L, h1, h2, h3, h4, h5, h6⟩ := h
  intro t ht
  have := h6.cells (show i < l.length by omega) t ht
  rwa [Nat.zero_add] at this
set_option maxRecDepth 100000 in
theorem cutH.skip {p : HoldD → Bool} {l : List HoldD} {g i j : Nat} {w : World} (h : cutH p l g i j w) {x : HoldD} (hx : l[j]? = some x) (hp : p x = true) : cutH p l g i (j + 1) w := by
  obtain ⟨L, h1, h2, h3, h4, h5, h6⟩ := h
  have hj := (List.getElem?_eq_some_iff.1 hx).1
  refine ⟨L, h1, ?_, ?_, by omega, by omega, h6⟩
  · rw [stays_next hx, if_pos hp]; exact h2
  · rw [← List.drop_drop, h3, List.drop_drop]
set_option maxRecDepth 100000 in
theorem cutH.stay {p : HoldD → Bool} {l : List HoldD} {g i j : Nat} {w : World} (h : cutH p l g i j w) {x : HoldD} (hx : l[j]? = some x) (hp : p x = false) : cutH p l g (i + 1) (j + 1) (setsAt w g (i * 3) (hCells x)) := by
  obtain ⟨L, h1, h2, h3, h4, h5, h6⟩ := h
  have hj := (List.getElem?_eq_some_iff.1 hx).1
  have hi : i < L.length := by omega
  refine ⟨L.set i x, by simpa using h1, ?_, ?_, by omega, by omega, ?_⟩
  · rw [stays_next hx, if_neg (by rw [hp]; exact Bool.false_ne_true), ← h2, List.take_succ_eq_append_getElem (by simpa using hi), List.getElem_set_self]
    congr 1
    rw [List.take_set_of_le (Nat.le_refl _)]
  · rw [List.drop_set_of_lt (by omega), ← List.drop_drop, h3, List.drop_drop]
  · have e : hCells ((L.set i x).getD i noH) = hCells x := by rw [List.getD_eq_getElem?_getD, List.getElem?_set_self hi]; rfl
    have := h6.put (E' := fun k => hCells ((L.set i x).getD k noH)) (show i < l.length by omega) (fun _ _ => rfl) rfl (fun j _ hne => by
      show hCells _ = hCells _
      rw [List.getD_eq_getElem?_getD, List.getD_eq_getElem?_getD, List.getElem?_set_ne (fun e => hne e.symm)])
    rw [Nat.zero_add] at this
    simp only [e] at this
    exact this
set_option maxRecDepth 100000 in
theorem cutH.done {p : HoldD → Bool} {l : List HoldD} {g i : Nat} {w : World} (h : cutH p l g i l.length w) (us : List Value) : i = (staysP p l).length ∧ filled (setsAt w g (i * 3) us) g 0 3 i i fun k => hCells ((staysP p l).getD k noH) := by
  obtain ⟨L, h1, h2, h3, h4, h5, h6⟩ := h
  rw [List.take_length] at h2
  have e : i = (staysP p l).length := by rw [← h2, List.length_take]; omega
  have hf := h6.ahead (i := i) (by omega) (fun _ _ => rfl) us
  refine ⟨e, hf.room, fun k hk => ?_⟩
  have hk2 : (staysP p l).getD k noH = L.getD k noH := by rw [← h2, List.getD_eq_getElem?_getD, List.getD_eq_getElem?_getD, List.getElem?_take, if_pos hk]
  show atL _ _ _ (hCells _)
  rw [hk2]
  exact hf.at_ k hk
end Go.Proofs.YthnimmagaocipaaGreatDoor
set_option linter.unusedVariables false
namespace Go.Proofs.YthnimmagaocipaaGreatDoor
open Go.ChangeShapes Go.WideShapes Go.ChangeAt Go.RowKit

set_option maxRecDepth 100000 in
set_option maxHeartbeats 1600000 in
theorem implStored_any (hi : Nat) (v : Value) (l : List HoldD) (w : World) (hg : Handle w) (hn : l.length ≤ 1048576) (h : HoldsR.rd hi w [v] l) (hh : hi ≤ w.heap.size) :
    Calls Tryz.prog 99 #[v] w fun e w' => e = .returned (.int .i64 (storedL l)) ∧ Below w.heap.size w w' := by
  obtain ⟨A, c, rfl, hc, h⟩ := holds_rd h
  have HR := Lib.hid h
  have HG := Lib.hid hg
  clear h hg
  go_enter Tryz.func99, Tryz.ntmps99
  go_wp2
  go_loopw [3, 8] (fun nv iv wr => ∃ i : Nat, i ≤ l.length ∧ iv = .int .i64 i ∧ nv = .int .i64 (storedL (l.take i)) ∧ Hid (Below w.heap.size w wr) ∧ w.heap.size ≤ wr.heap.size) (fun _ iv _ => l.length - (intOf iv).toNat)
  case atStart => exact ⟨0, Nat.zero_le _, rfl, rfl, Lib.hid (Below.refl _ _), Nat.le_refl _⟩
  case round =>
    obtain ⟨i, hi', rfl, rfl, HB, hz⟩ := hrel
    by_cases hin : i < l.length
    · obtain ⟨x, hx⟩ : ∃ x, l[i]? = some x := ⟨_, List.getElem?_eq_getElem hin⟩
      obtain ⟨b, off, rfl, hbl, c0, c1, c2⟩ := HR.out i x hx
      have HNX := Lib.hid (storedL_next hx)
      clear hx
      have c0 := (HB.out.cell (p := ⟨b, off + i * 3, none⟩) (show b < w.heap.size by omega)).trans c0
      have c1 := (HB.out.cell (p := ⟨b, off + i * 3 + 1, none⟩) (show b < w.heap.size by omega)).trans c1
      have c2 := (HB.out.cell (p := ⟨b, off + i * 3 + 2, none⟩) (show b < w.heap.size by omega)).trans c2
      have g1 : (i : Int) < (l.length : Int) := by omega
      have g2 : 0 ≤ (i : Int) := by omega
      have HSA := Lib.hid (fun W (hW : Below w.heap.size w W) => implSat_any (storedL (l.take i)) x.2.1 W (HG.out.below hW (Nat.le_refl _)))
      have HB2 : Hid (Below w.heap.size w (wr.alloc (.cells #[.string x.1, .int .i64 x.2.1, .int .i64 x.2.2] 104))) := Lib.hid (HB.out.alloc hz _)
      go_wp2_with fail
      refine (HSA.out _ HB2.out).mono ?_
      rintro e w5 ⟨rfl, hb5⟩
      have HB5 : Hid (Below w.heap.size w w5) := Lib.hid (HB2.out.trans (hb5.mono (by simp; omega)))
      have z5 := hb5.size
      have z6 : w.heap.size ≤ w5.heap.size := by simp at z5; omega
      clear hb5 z5
      go_wp2
      go_roundw
      case rel => exact ⟨i + 1, by omega, by go_num, by rw [HNX.out], HB5, z6⟩
      case measure => simp [intOf] <;> omega
    · obtain rfl : i = l.length := by omega
      rw [List.take_length]
      go_wp2
      go_ret
      exact ⟨rfl, HB.out⟩
end Go.Proofs.YthnimmagaocipaaGreatDoor
set_option linter.unusedVariables false
namespace Go.Proofs.YthnimmagaocipaaGreatDoor
open Go.ChangeShapes Go.WideShapes Go.ChangeAt Go.RowKit

set_option maxRecDepth 100000 in
theorem acctOk_amts (a : AcctD) : acctOk a = (acctIdB (aId a) && (amtsB (aLim a) (aPos a) (aMost a) (aSum a) && (holdsOk (aH a) && (ringOk (aR a) && (slotsOk (aS a) && decide (satVal (aPos a) (storedL (aH a)) ≤ aLim a)))))) := by
  unfold acctOk acctHead acctTail amtsB
  cases acctIdB (aId a) <;> cases inB (aLim a) 0 9007199254740992 <;> cases inB (aMost a) 0 1000 <;> cases inB (aSum a) 0 9007199254740992 <;> cases isMon (aPos a) <;> rfl
set_option maxRecDepth 100000 in
set_option maxHeartbeats 8000000 in
theorem implOk_any (hi : Nat) (id : ByteArray) (lim pos most sum : Int) (hs : List HoldD) (sp hd : Int) (cs ss : List Int) (sl : List SlotD) (vh vc vs vl : Value) (w : World) (hg : Handle w) (y0 : id.size ≤ maxLen) (z1 : hs.length ≤ 1048576) (y1 : ∀ x ∈ hs, x.1.size ≤ maxLen) (z2 : cs.length ≤ 1048576) (z3 : ss.length ≤ 1048576) (z4 : sl.length ≤ 1048576) (y4 : ∀ x ∈ sl, x.1.size ≤ maxLen ∧ x.2.1.size ≤ maxLen) (r1 : HoldsR.rd hi w [vh] hs) (r2 : rd .i64 hi w vc cs) (r3 : rd .i64 hi w vs ss) (r4 : SlotsR.rd hi w [vl] sl) (hh : hi ≤ w.heap.size) :
    Calls Tryz.prog 59 #[.agg #[.int .i64 lim, .int .i64 pos, .int .i64 most, .int .i64 sum, .string id, vh, .int .i64 sp, .int .i64 hd, vc, vs, vl]] w fun e w' => e = .returned (.bool (acctOk (id, lim, pos, most, sum, hs, (sp, hd, cs, ss), sl))) ∧ Below w.heap.size w w' := by
  have HE : Hid (acctOk (id, lim, pos, most, sum, hs, (sp, hd, cs, ss), sl) = (acctIdB id && (amtsB lim pos most sum && (holdsOk hs && (ringOk (sp, hd, cs, ss) && (slotsOk sl && decide (satVal pos (storedL hs) ≤ lim))))))) := Lib.hid (acctOk_amts _)
  obtain ⟨AH, cH, rfl, -⟩ := Rep.slice_form r1
  obtain ⟨AC, cC, rfl, -⟩ := r2.form
  obtain ⟨AS, cS, rfl, -⟩ := r3.form
  obtain ⟨AL, cL, rfl, -⟩ := Rep.slice_form r4
  have HQ1 := Lib.hid (fun V (hV : Below w.heap.size w V) => implAcctIdOk_any id V y0)
  have HQ2 := Lib.hid (fun V (hV : Below w.heap.size w V) => implInRange_any lim pos most sum V)
  have HQ3 := Lib.hid (fun V (hV : Below w.heap.size w V) => implHoldsOk_any hi _ hs V z1 y1 (Rep.below (R := HoldsR) r1 hV hh) (Nat.le_trans hh hV.size))
  have HQ4 := Lib.hid (fun V (hV : Below w.heap.size w V) => implRingOk_any hi _ _ (sp, hd, cs, ss) V (r2.below hV hh) (r3.below hV hh) (Nat.le_trans hh hV.size) z2 z3)
  have HQ5 := Lib.hid (fun V (hV : Below w.heap.size w V) => implSlotsOk_any hi _ sl V (by omega) y4 (Rep.below (R := SlotsR) r4 hV hh) (Nat.le_trans hh hV.size))
  have HQ6 := Lib.hid (fun V (hV : Below w.heap.size w V) => implStored_any hi _ hs V (hg.below hV (Nat.le_refl _)) z1 (Rep.below (R := HoldsR) r1 hV hh) (Nat.le_trans hh hV.size))
  have HQ7 := Lib.hid (fun V (hV : Below w.heap.size w V) => implCovers_any lim pos most sum (storedL hs) V (hg.below hV (Nat.le_refl _)))
  clear r1 r2 r3 r4 y0 y1 y4 hg
  generalize decide (satVal pos (storedL hs) ≤ lim) = t6 at HE HQ7
  generalize storedL hs = st at HQ6 HQ7
  generalize acctOk (id, lim, pos, most, sum, hs, (sp, hd, cs, ss), sl) = res at HE ⊢
  generalize acctIdB id = t1 at HE HQ1
  generalize amtsB lim pos most sum = t2 at HE HQ2
  generalize holdsOk hs = t3 at HE HQ3
  generalize ringOk (sp, hd, cs, ss) = t4 at HE HQ4
  generalize slotsOk sl = t5 at HE HQ5
  go_enter Tryz.func59, Tryz.ntmps59
  go_upto_region 1 with fail
  obtain ⟨W, hW⟩ : ∃ W, W = w.alloc (.cells #[.int .i64 lim, .int .i64 pos, .int .i64 most, .int .i64 sum, .string id, .slice AH hs.length cH, .int .i64 sp, .int .i64 hd, .slice AC cs.length cC, .slice AS ss.length cS, .slice AL sl.length cL] 88) := ⟨_, rfl⟩
  have b0 : bk W w.heap.size 88 [.int .i64 lim, .int .i64 pos, .int .i64 most, .int .i64 sum, .string id, .slice AH hs.length cH, .int .i64 sp, .int .i64 hd, .slice AC cs.length cC, .slice AS ss.length cS, .slice AL sl.length cL] := by rw [hW]; exact bk.new w _ _
  have HB0 : Hid (Below w.heap.size w W) := Lib.hid (by rw [hW]; exact (Below.refl _ _).alloc (Nat.le_refl _) _)
  rw [← hW]
  clear hW
  obtain ⟨⟨p0, p1, p2, p3, p4, p5, p6, p7, p8, p9, p10⟩, -⟩ := b0.eleven
  have z0 := b0.lt
  have P0 := Lib.hid p0
  have P1 := Lib.hid p1
  have P2 := Lib.hid p2
  have P3 := Lib.hid p3
  have P4 := Lib.hid p4
  have P5 := Lib.hid p5
  have P6 := Lib.hid p6
  have P7 := Lib.hid p7
  have P8 := Lib.hid p8
  have P9 := Lib.hid p9
  have P10 := Lib.hid p10
  clear p0 p1 p2 p3 p4 p5 p6 p7 p8 p9 p10 b0
  have HBX : Hid (∀ V, Ext W V → Below w.heap.size w V) := Lib.hid fun V hV => HB0.out.trans (hV.below.mono (by omega))
  have HX : Hid (Ext W W.drew) := Lib.hid (Ext.refl W).drew
  cases t1
  · refine quiet_region (C := Ext W) (by kernel_rfl) (by kernel_rfl) HX.out ?_
    repeat (first
      | go_big_quiet_skip
      | (go_big_quiet_want; go_big_quiet_op; go_big_quiet_on)
      | (go_big_quiet_want; go_big_quiet_op; apply Exists.intro; refine ⟨fun _ _ => rfl, ?_⟩; go_big_quiet_on)
      | (go_big_quiet_want
         apply Exists.intro
         refine ⟨fun V hV => ?_, ?_⟩
         (have q0 := hV.cell P0.out (by omega)
          have q1 := hV.cell P1.out (by omega)
          have q2 := hV.cell P2.out (by omega)
          have q3 := hV.cell P3.out (by omega)
          have q4 := hV.cell P4.out (by omega)
          have q5 := hV.cell P5.out (by omega)
          have q6 := hV.cell P6.out (by omega)
          have q7 := hV.cell P7.out (by omega)
          have q8 := hV.cell P8.out (by omega)
          have q9 := hV.cell P9.out (by omega)
          have q10 := hV.cell P10.out (by omega)
          unfold Oper.quietAt
          go_simp
          rfl)
         simp only [Act.put, List.setIfInBounds_toArray, List.set_cons_zero, List.set_cons_succ]
         go_big_quiet_on)
      | (go_big_quiet_want
         apply Exists.intro
         refine ⟨fun V hV => ?_, ?_⟩
         (unfold Oper.quietAt
          go_simp
          go_at_call 93
          (with_reducible refine (HQ1.out V (HBX.out V hV)).mono ?_)
          rintro e w4 ⟨rfl, hb4⟩
          exact ⟨rfl, hV.step hb4⟩)
         simp only [Act.put, List.setIfInBounds_toArray, List.set_cons_zero, List.set_cons_succ]
         go_big_quiet_on)
      | (go_big_quiet_want
         apply Exists.intro
         refine ⟨fun V hV => ?_, ?_⟩
         (unfold Oper.quietAt
          go_simp
          go_at_call 94
          (with_reducible refine (HQ2.out V (HBX.out V hV)).mono ?_)
          rintro e w4 ⟨rfl, hb4⟩
          exact ⟨rfl, hV.step hb4⟩)
         simp only [Act.put, List.setIfInBounds_toArray, List.set_cons_zero, List.set_cons_succ]
         go_big_quiet_on)
      | (go_big_quiet_want
         apply Exists.intro
         refine ⟨fun V hV => ?_, ?_⟩
         (unfold Oper.quietAt
          go_simp
          go_at_call 95
          (with_reducible refine (HQ3.out V (HBX.out V hV)).mono ?_)
          rintro e w4 ⟨rfl, hb4⟩
          exact ⟨rfl, hV.step hb4⟩)
         simp only [Act.put, List.setIfInBounds_toArray, List.set_cons_zero, List.set_cons_succ]
         go_big_quiet_on)
      | (go_big_quiet_want
         apply Exists.intro
         refine ⟨fun V hV => ?_, ?_⟩
         (unfold Oper.quietAt
          go_simp
          go_at_call 96
          (with_reducible refine (HQ4.out V (HBX.out V hV)).mono ?_)
          rintro e w4 ⟨rfl, hb4⟩
          exact ⟨rfl, hV.step hb4⟩)
         simp only [Act.put, List.setIfInBounds_toArray, List.set_cons_zero, List.set_cons_succ]
         go_big_quiet_on)
      | (go_big_quiet_want
         apply Exists.intro
         refine ⟨fun V hV => ?_, ?_⟩
         (unfold Oper.quietAt
          go_simp
          go_at_call 97
          (with_reducible refine (HQ5.out V (HBX.out V hV)).mono ?_)
          rintro e w4 ⟨rfl, hb4⟩
          exact ⟨rfl, hV.step hb4⟩)
         simp only [Act.put, List.setIfInBounds_toArray, List.set_cons_zero, List.set_cons_succ]
         go_big_quiet_on)
      | (go_big_quiet_want
         apply Exists.intro
         refine ⟨fun V hV => ?_, ?_⟩
         (unfold Oper.quietAt
          go_simp
          go_at_call 99
          (with_reducible refine (HQ6.out V (HBX.out V hV)).mono ?_)
          rintro e w4 ⟨rfl, hb4⟩
          exact ⟨rfl, hV.step hb4⟩)
         simp only [Act.put, List.setIfInBounds_toArray, List.set_cons_zero, List.set_cons_succ]
         go_big_quiet_on)
      | (go_big_quiet_want
         apply Exists.intro
         refine ⟨fun V hV => ?_, ?_⟩
         (unfold Oper.quietAt
          go_simp
          go_at_call 98
          (with_reducible refine (HQ7.out V (HBX.out V hV)).mono ?_)
          rintro e w4 ⟨rfl, hb4⟩
          exact ⟨rfl, hV.step hb4⟩)
         simp only [Act.put, List.setIfInBounds_toArray, List.set_cons_zero, List.set_cons_succ]
         go_big_quiet_on)
      | fail)
    refine wpQuiet_nil ?_
    intro W4 hW4
    go_wp2
    go_ret
    exact ⟨by rw [HE.out]; rfl, HBX.out W4 hW4⟩
  cases t2
  · refine quiet_region (C := Ext W) (by kernel_rfl) (by kernel_rfl) HX.out ?_
    repeat (first
      | go_big_quiet_skip
      | (go_big_quiet_want; go_big_quiet_op; go_big_quiet_on)
      | (go_big_quiet_want; go_big_quiet_op; apply Exists.intro; refine ⟨fun _ _ => rfl, ?_⟩; go_big_quiet_on)
      | (go_big_quiet_want
         apply Exists.intro
         refine ⟨fun V hV => ?_, ?_⟩
         (have q0 := hV.cell P0.out (by omega)
          have q1 := hV.cell P1.out (by omega)
          have q2 := hV.cell P2.out (by omega)
          have q3 := hV.cell P3.out (by omega)
          have q4 := hV.cell P4.out (by omega)
          have q5 := hV.cell P5.out (by omega)
          have q6 := hV.cell P6.out (by omega)
          have q7 := hV.cell P7.out (by omega)
          have q8 := hV.cell P8.out (by omega)
          have q9 := hV.cell P9.out (by omega)
          have q10 := hV.cell P10.out (by omega)
          unfold Oper.quietAt
          go_simp
          rfl)
         simp only [Act.put, List.setIfInBounds_toArray, List.set_cons_zero, List.set_cons_succ]
         go_big_quiet_on)
      | (go_big_quiet_want
         apply Exists.intro
         refine ⟨fun V hV => ?_, ?_⟩
         (unfold Oper.quietAt
          go_simp
          go_at_call 93
          (with_reducible refine (HQ1.out V (HBX.out V hV)).mono ?_)
          rintro e w4 ⟨rfl, hb4⟩
          exact ⟨rfl, hV.step hb4⟩)
         simp only [Act.put, List.setIfInBounds_toArray, List.set_cons_zero, List.set_cons_succ]
         go_big_quiet_on)
      | (go_big_quiet_want
         apply Exists.intro
         refine ⟨fun V hV => ?_, ?_⟩
         (unfold Oper.quietAt
          go_simp
          go_at_call 94
          (with_reducible refine (HQ2.out V (HBX.out V hV)).mono ?_)
          rintro e w4 ⟨rfl, hb4⟩
          exact ⟨rfl, hV.step hb4⟩)
         simp only [Act.put, List.setIfInBounds_toArray, List.set_cons_zero, List.set_cons_succ]
         go_big_quiet_on)
      | (go_big_quiet_want
         apply Exists.intro
         refine ⟨fun V hV => ?_, ?_⟩
         (unfold Oper.quietAt
          go_simp
          go_at_call 95
          (with_reducible refine (HQ3.out V (HBX.out V hV)).mono ?_)
          rintro e w4 ⟨rfl, hb4⟩
          exact ⟨rfl, hV.step hb4⟩)
         simp only [Act.put, List.setIfInBounds_toArray, List.set_cons_zero, List.set_cons_succ]
         go_big_quiet_on)
      | (go_big_quiet_want
         apply Exists.intro
         refine ⟨fun V hV => ?_, ?_⟩
         (unfold Oper.quietAt
          go_simp
          go_at_call 96
          (with_reducible refine (HQ4.out V (HBX.out V hV)).mono ?_)
          rintro e w4 ⟨rfl, hb4⟩
          exact ⟨rfl, hV.step hb4⟩)
         simp only [Act.put, List.setIfInBounds_toArray, List.set_cons_zero, List.set_cons_succ]
         go_big_quiet_on)
      | (go_big_quiet_want
         apply Exists.intro
         refine ⟨fun V hV => ?_, ?_⟩
         (unfold Oper.quietAt
          go_simp
          go_at_call 97
          (with_reducible refine (HQ5.out V (HBX.out V hV)).mono ?_)
          rintro e w4 ⟨rfl, hb4⟩
          exact ⟨rfl, hV.step hb4⟩)
         simp only [Act.put, List.setIfInBounds_toArray, List.set_cons_zero, List.set_cons_succ]
         go_big_quiet_on)
      | (go_big_quiet_want
         apply Exists.intro
         refine ⟨fun V hV => ?_, ?_⟩
         (unfold Oper.quietAt
          go_simp
          go_at_call 99
          (with_reducible refine (HQ6.out V (HBX.out V hV)).mono ?_)
          rintro e w4 ⟨rfl, hb4⟩
          exact ⟨rfl, hV.step hb4⟩)
         simp only [Act.put, List.setIfInBounds_toArray, List.set_cons_zero, List.set_cons_succ]
         go_big_quiet_on)
      | (go_big_quiet_want
         apply Exists.intro
         refine ⟨fun V hV => ?_, ?_⟩
         (unfold Oper.quietAt
          go_simp
          go_at_call 98
          (with_reducible refine (HQ7.out V (HBX.out V hV)).mono ?_)
          rintro e w4 ⟨rfl, hb4⟩
          exact ⟨rfl, hV.step hb4⟩)
         simp only [Act.put, List.setIfInBounds_toArray, List.set_cons_zero, List.set_cons_succ]
         go_big_quiet_on)
      | fail)
    refine wpQuiet_nil ?_
    intro W4 hW4
    go_wp2
    go_ret
    exact ⟨by rw [HE.out]; rfl, HBX.out W4 hW4⟩
  cases t3
  · refine quiet_region (C := Ext W) (by kernel_rfl) (by kernel_rfl) HX.out ?_
    repeat (first
      | go_big_quiet_skip
      | (go_big_quiet_want; go_big_quiet_op; go_big_quiet_on)
      | (go_big_quiet_want; go_big_quiet_op; apply Exists.intro; refine ⟨fun _ _ => rfl, ?_⟩; go_big_quiet_on)
      | (go_big_quiet_want
         apply Exists.intro
         refine ⟨fun V hV => ?_, ?_⟩
         (have q0 := hV.cell P0.out (by omega)
          have q1 := hV.cell P1.out (by omega)
          have q2 := hV.cell P2.out (by omega)
          have q3 := hV.cell P3.out (by omega)
          have q4 := hV.cell P4.out (by omega)
          have q5 := hV.cell P5.out (by omega)
          have q6 := hV.cell P6.out (by omega)
          have q7 := hV.cell P7.out (by omega)
          have q8 := hV.cell P8.out (by omega)
          have q9 := hV.cell P9.out (by omega)
          have q10 := hV.cell P10.out (by omega)
          unfold Oper.quietAt
          go_simp
          rfl)
         simp only [Act.put, List.setIfInBounds_toArray, List.set_cons_zero, List.set_cons_succ]
         go_big_quiet_on)
      | (go_big_quiet_want
         apply Exists.intro
         refine ⟨fun V hV => ?_, ?_⟩
         (unfold Oper.quietAt
          go_simp
          go_at_call 93
          (with_reducible refine (HQ1.out V (HBX.out V hV)).mono ?_)
          rintro e w4 ⟨rfl, hb4⟩
          exact ⟨rfl, hV.step hb4⟩)
         simp only [Act.put, List.setIfInBounds_toArray, List.set_cons_zero, List.set_cons_succ]
         go_big_quiet_on)
      | (go_big_quiet_want
         apply Exists.intro
         refine ⟨fun V hV => ?_, ?_⟩
         (unfold Oper.quietAt
          go_simp
          go_at_call 94
          (with_reducible refine (HQ2.out V (HBX.out V hV)).mono ?_)
          rintro e w4 ⟨rfl, hb4⟩
          exact ⟨rfl, hV.step hb4⟩)
         simp only [Act.put, List.setIfInBounds_toArray, List.set_cons_zero, List.set_cons_succ]
         go_big_quiet_on)
      | (go_big_quiet_want
         apply Exists.intro
         refine ⟨fun V hV => ?_, ?_⟩
         (unfold Oper.quietAt
          go_simp
          go_at_call 95
          (with_reducible refine (HQ3.out V (HBX.out V hV)).mono ?_)
          rintro e w4 ⟨rfl, hb4⟩
          exact ⟨rfl, hV.step hb4⟩)
         simp only [Act.put, List.setIfInBounds_toArray, List.set_cons_zero, List.set_cons_succ]
         go_big_quiet_on)
      | (go_big_quiet_want
         apply Exists.intro
         refine ⟨fun V hV => ?_, ?_⟩
         (unfold Oper.quietAt
          go_simp
          go_at_call 96
          (with_reducible refine (HQ4.out V (HBX.out V hV)).mono ?_)
          rintro e w4 ⟨rfl, hb4⟩
          exact ⟨rfl, hV.step hb4⟩)
         simp only [Act.put, List.setIfInBounds_toArray, List.set_cons_zero, List.set_cons_succ]
         go_big_quiet_on)
      | (go_big_quiet_want
         apply Exists.intro
         refine ⟨fun V hV => ?_, ?_⟩
         (unfold Oper.quietAt
          go_simp
          go_at_call 97
          (with_reducible refine (HQ5.out V (HBX.out V hV)).mono ?_)
          rintro e w4 ⟨rfl, hb4⟩
          exact ⟨rfl, hV.step hb4⟩)
         simp only [Act.put, List.setIfInBounds_toArray, List.set_cons_zero, List.set_cons_succ]
         go_big_quiet_on)
      | (go_big_quiet_want
         apply Exists.intro
         refine ⟨fun V hV => ?_, ?_⟩
         (unfold Oper.quietAt
          go_simp
          go_at_call 99
          (with_reducible refine (HQ6.out V (HBX.out V hV)).mono ?_)
          rintro e w4 ⟨rfl, hb4⟩
          exact ⟨rfl, hV.step hb4⟩)
         simp only [Act.put, List.setIfInBounds_toArray, List.set_cons_zero, List.set_cons_succ]
         go_big_quiet_on)
      | (go_big_quiet_want
         apply Exists.intro
         refine ⟨fun V hV => ?_, ?_⟩
         (unfold Oper.quietAt
          go_simp
          go_at_call 98
          (with_reducible refine (HQ7.out V (HBX.out V hV)).mono ?_)
          rintro e w4 ⟨rfl, hb4⟩
          exact ⟨rfl, hV.step hb4⟩)
         simp only [Act.put, List.setIfInBounds_toArray, List.set_cons_zero, List.set_cons_succ]
         go_big_quiet_on)
      | fail)
    refine wpQuiet_nil ?_
    intro W4 hW4
    go_wp2
    go_ret
    exact ⟨by rw [HE.out]; rfl, HBX.out W4 hW4⟩
  cases t4
  · refine quiet_region (C := Ext W) (by kernel_rfl) (by kernel_rfl) HX.out ?_
    repeat (first
      | go_big_quiet_skip
      | (go_big_quiet_want; go_big_quiet_op; go_big_quiet_on)
      | (go_big_quiet_want; go_big_quiet_op; apply Exists.intro; refine ⟨fun _ _ => rfl, ?_⟩; go_big_quiet_on)
      | (go_big_quiet_want
         apply Exists.intro
         refine ⟨fun V hV => ?_, ?_⟩
         (have q0 := hV.cell P0.out (by omega)
          have q1 := hV.cell P1.out (by omega)
          have q2 := hV.cell P2.out (by omega)
          have q3 := hV.cell P3.out (by omega)
          have q4 := hV.cell P4.out (by omega)
          have q5 := hV.cell P5.out (by omega)
          have q6 := hV.cell P6.out (by omega)
          have q7 := hV.cell P7.out (by omega)
          have q8 := hV.cell P8.out (by omega)
          have q9 := hV.cell P9.out (by omega)
          have q10 := hV.cell P10.out (by omega)
          unfold Oper.quietAt
          go_simp
          rfl)
         simp only [Act.put, List.setIfInBounds_toArray, List.set_cons_zero, List.set_cons_succ]
         go_big_quiet_on)
      | (go_big_quiet_want
         apply Exists.intro
         refine ⟨fun V hV => ?_, ?_⟩
         (unfold Oper.quietAt
          go_simp
          go_at_call 93
          (with_reducible refine (HQ1.out V (HBX.out V hV)).mono ?_)
          rintro e w4 ⟨rfl, hb4⟩
          exact ⟨rfl, hV.step hb4⟩)
         simp only [Act.put, List.setIfInBounds_toArray, List.set_cons_zero, List.set_cons_succ]
         go_big_quiet_on)
      | (go_big_quiet_want
         apply Exists.intro
         refine ⟨fun V hV => ?_, ?_⟩
         (unfold Oper.quietAt
          go_simp
          go_at_call 94
          (with_reducible refine (HQ2.out V (HBX.out V hV)).mono ?_)
          rintro e w4 ⟨rfl, hb4⟩
          exact ⟨rfl, hV.step hb4⟩)
         simp only [Act.put, List.setIfInBounds_toArray, List.set_cons_zero, List.set_cons_succ]
         go_big_quiet_on)
      | (go_big_quiet_want
         apply Exists.intro
         refine ⟨fun V hV => ?_, ?_⟩
         (unfold Oper.quietAt
          go_simp
          go_at_call 95
          (with_reducible refine (HQ3.out V (HBX.out V hV)).mono ?_)
          rintro e w4 ⟨rfl, hb4⟩
          exact ⟨rfl, hV.step hb4⟩)
         simp only [Act.put, List.setIfInBounds_toArray, List.set_cons_zero, List.set_cons_succ]
         go_big_quiet_on)
      | (go_big_quiet_want
         apply Exists.intro
         refine ⟨fun V hV => ?_, ?_⟩
         (unfold Oper.quietAt
          go_simp
          go_at_call 96
          (with_reducible refine (HQ4.out V (HBX.out V hV)).mono ?_)
          rintro e w4 ⟨rfl, hb4⟩
          exact ⟨rfl, hV.step hb4⟩)
         simp only [Act.put, List.setIfInBounds_toArray, List.set_cons_zero, List.set_cons_succ]
         go_big_quiet_on)
      | (go_big_quiet_want
         apply Exists.intro
         refine ⟨fun V hV => ?_, ?_⟩
         (unfold Oper.quietAt
          go_simp
          go_at_call 97
          (with_reducible refine (HQ5.out V (HBX.out V hV)).mono ?_)
          rintro e w4 ⟨rfl, hb4⟩
          exact ⟨rfl, hV.step hb4⟩)
         simp only [Act.put, List.setIfInBounds_toArray, List.set_cons_zero, List.set_cons_succ]
         go_big_quiet_on)
      | (go_big_quiet_want
         apply Exists.intro
         refine ⟨fun V hV => ?_, ?_⟩
         (unfold Oper.quietAt
          go_simp
          go_at_call 99
          (with_reducible refine (HQ6.out V (HBX.out V hV)).mono ?_)
          rintro e w4 ⟨rfl, hb4⟩
          exact ⟨rfl, hV.step hb4⟩)
         simp only [Act.put, List.setIfInBounds_toArray, List.set_cons_zero, List.set_cons_succ]
         go_big_quiet_on)
      | (go_big_quiet_want
         apply Exists.intro
         refine ⟨fun V hV => ?_, ?_⟩
         (unfold Oper.quietAt
          go_simp
          go_at_call 98
          (with_reducible refine (HQ7.out V (HBX.out V hV)).mono ?_)
          rintro e w4 ⟨rfl, hb4⟩
          exact ⟨rfl, hV.step hb4⟩)
         simp only [Act.put, List.setIfInBounds_toArray, List.set_cons_zero, List.set_cons_succ]
         go_big_quiet_on)
      | fail)
    refine wpQuiet_nil ?_
    intro W4 hW4
    go_wp2
    go_ret
    exact ⟨by rw [HE.out]; rfl, HBX.out W4 hW4⟩
  cases t5
  · refine quiet_region (C := Ext W) (by kernel_rfl) (by kernel_rfl) HX.out ?_
    repeat (first
      | go_big_quiet_skip
      | (go_big_quiet_want; go_big_quiet_op; go_big_quiet_on)
      | (go_big_quiet_want; go_big_quiet_op; apply Exists.intro; refine ⟨fun _ _ => rfl, ?_⟩; go_big_quiet_on)
      | (go_big_quiet_want
         apply Exists.intro
         refine ⟨fun V hV => ?_, ?_⟩
         (have q0 := hV.cell P0.out (by omega)
          have q1 := hV.cell P1.out (by omega)
          have q2 := hV.cell P2.out (by omega)
          have q3 := hV.cell P3.out (by omega)
          have q4 := hV.cell P4.out (by omega)
          have q5 := hV.cell P5.out (by omega)
          have q6 := hV.cell P6.out (by omega)
          have q7 := hV.cell P7.out (by omega)
          have q8 := hV.cell P8.out (by omega)
          have q9 := hV.cell P9.out (by omega)
          have q10 := hV.cell P10.out (by omega)
          unfold Oper.quietAt
          go_simp
          rfl)
         simp only [Act.put, List.setIfInBounds_toArray, List.set_cons_zero, List.set_cons_succ]
         go_big_quiet_on)
      | (go_big_quiet_want
         apply Exists.intro
         refine ⟨fun V hV => ?_, ?_⟩
         (unfold Oper.quietAt
          go_simp
          go_at_call 93
          (with_reducible refine (HQ1.out V (HBX.out V hV)).mono ?_)
          rintro e w4 ⟨rfl, hb4⟩
          exact ⟨rfl, hV.step hb4⟩)
         simp only [Act.put, List.setIfInBounds_toArray, List.set_cons_zero, List.set_cons_succ]
         go_big_quiet_on)
      | (go_big_quiet_want
         apply Exists.intro
         refine ⟨fun V hV => ?_, ?_⟩
         (unfold Oper.quietAt
          go_simp
          go_at_call 94
          (with_reducible refine (HQ2.out V (HBX.out V hV)).mono ?_)
          rintro e w4 ⟨rfl, hb4⟩
          exact ⟨rfl, hV.step hb4⟩)
         simp only [Act.put, List.setIfInBounds_toArray, List.set_cons_zero, List.set_cons_succ]
         go_big_quiet_on)
      | (go_big_quiet_want
         apply Exists.intro
         refine ⟨fun V hV => ?_, ?_⟩
         (unfold Oper.quietAt
          go_simp
          go_at_call 95
          (with_reducible refine (HQ3.out V (HBX.out V hV)).mono ?_)
          rintro e w4 ⟨rfl, hb4⟩
          exact ⟨rfl, hV.step hb4⟩)
         simp only [Act.put, List.setIfInBounds_toArray, List.set_cons_zero, List.set_cons_succ]
         go_big_quiet_on)
      | (go_big_quiet_want
         apply Exists.intro
         refine ⟨fun V hV => ?_, ?_⟩
         (unfold Oper.quietAt
          go_simp
          go_at_call 96
          (with_reducible refine (HQ4.out V (HBX.out V hV)).mono ?_)
          rintro e w4 ⟨rfl, hb4⟩
          exact ⟨rfl, hV.step hb4⟩)
         simp only [Act.put, List.setIfInBounds_toArray, List.set_cons_zero, List.set_cons_succ]
         go_big_quiet_on)
      | (go_big_quiet_want
         apply Exists.intro
         refine ⟨fun V hV => ?_, ?_⟩
         (unfold Oper.quietAt
          go_simp
          go_at_call 97
          (with_reducible refine (HQ5.out V (HBX.out V hV)).mono ?_)
          rintro e w4 ⟨rfl, hb4⟩
          exact ⟨rfl, hV.step hb4⟩)
         simp only [Act.put, List.setIfInBounds_toArray, List.set_cons_zero, List.set_cons_succ]
         go_big_quiet_on)
      | (go_big_quiet_want
         apply Exists.intro
         refine ⟨fun V hV => ?_, ?_⟩
         (unfold Oper.quietAt
          go_simp
          go_at_call 99
          (with_reducible refine (HQ6.out V (HBX.out V hV)).mono ?_)
          rintro e w4 ⟨rfl, hb4⟩
          exact ⟨rfl, hV.step hb4⟩)
         simp only [Act.put, List.setIfInBounds_toArray, List.set_cons_zero, List.set_cons_succ]
         go_big_quiet_on)
      | (go_big_quiet_want
         apply Exists.intro
         refine ⟨fun V hV => ?_, ?_⟩
         (unfold Oper.quietAt
          go_simp
          go_at_call 98
          (with_reducible refine (HQ7.out V (HBX.out V hV)).mono ?_)
          rintro e w4 ⟨rfl, hb4⟩
          exact ⟨rfl, hV.step hb4⟩)
         simp only [Act.put, List.setIfInBounds_toArray, List.set_cons_zero, List.set_cons_succ]
         go_big_quiet_on)
      | fail)
    refine wpQuiet_nil ?_
    intro W4 hW4
    go_wp2
    go_ret
    exact ⟨by rw [HE.out]; rfl, HBX.out W4 hW4⟩
  · refine quiet_region (C := Ext W) (by kernel_rfl) (by kernel_rfl) HX.out ?_
    repeat (first
      | go_big_quiet_skip
      | (go_big_quiet_want; go_big_quiet_op; go_big_quiet_on)
      | (go_big_quiet_want; go_big_quiet_op; apply Exists.intro; refine ⟨fun _ _ => rfl, ?_⟩; go_big_quiet_on)
      | (go_big_quiet_want
         apply Exists.intro
         refine ⟨fun V hV => ?_, ?_⟩
         (have q0 := hV.cell P0.out (by omega)
          have q1 := hV.cell P1.out (by omega)
          have q2 := hV.cell P2.out (by omega)
          have q3 := hV.cell P3.out (by omega)
          have q4 := hV.cell P4.out (by omega)
          have q5 := hV.cell P5.out (by omega)
          have q6 := hV.cell P6.out (by omega)
          have q7 := hV.cell P7.out (by omega)
          have q8 := hV.cell P8.out (by omega)
          have q9 := hV.cell P9.out (by omega)
          have q10 := hV.cell P10.out (by omega)
          unfold Oper.quietAt
          go_simp
          rfl)
         simp only [Act.put, List.setIfInBounds_toArray, List.set_cons_zero, List.set_cons_succ]
         go_big_quiet_on)
      | (go_big_quiet_want
         apply Exists.intro
         refine ⟨fun V hV => ?_, ?_⟩
         (unfold Oper.quietAt
          go_simp
          go_at_call 93
          (with_reducible refine (HQ1.out V (HBX.out V hV)).mono ?_)
          rintro e w4 ⟨rfl, hb4⟩
          exact ⟨rfl, hV.step hb4⟩)
         simp only [Act.put, List.setIfInBounds_toArray, List.set_cons_zero, List.set_cons_succ]
         go_big_quiet_on)
      | (go_big_quiet_want
         apply Exists.intro
         refine ⟨fun V hV => ?_, ?_⟩
         (unfold Oper.quietAt
          go_simp
          go_at_call 94
          (with_reducible refine (HQ2.out V (HBX.out V hV)).mono ?_)
          rintro e w4 ⟨rfl, hb4⟩
          exact ⟨rfl, hV.step hb4⟩)
         simp only [Act.put, List.setIfInBounds_toArray, List.set_cons_zero, List.set_cons_succ]
         go_big_quiet_on)
      | (go_big_quiet_want
         apply Exists.intro
         refine ⟨fun V hV => ?_, ?_⟩
         (unfold Oper.quietAt
          go_simp
          go_at_call 95
          (with_reducible refine (HQ3.out V (HBX.out V hV)).mono ?_)
          rintro e w4 ⟨rfl, hb4⟩
          exact ⟨rfl, hV.step hb4⟩)
         simp only [Act.put, List.setIfInBounds_toArray, List.set_cons_zero, List.set_cons_succ]
         go_big_quiet_on)
      | (go_big_quiet_want
         apply Exists.intro
         refine ⟨fun V hV => ?_, ?_⟩
         (unfold Oper.quietAt
          go_simp
          go_at_call 96
          (with_reducible refine (HQ4.out V (HBX.out V hV)).mono ?_)
          rintro e w4 ⟨rfl, hb4⟩
          exact ⟨rfl, hV.step hb4⟩)
         simp only [Act.put, List.setIfInBounds_toArray, List.set_cons_zero, List.set_cons_succ]
         go_big_quiet_on)
      | (go_big_quiet_want
         apply Exists.intro
         refine ⟨fun V hV => ?_, ?_⟩
         (unfold Oper.quietAt
          go_simp
          go_at_call 97
          (with_reducible refine (HQ5.out V (HBX.out V hV)).mono ?_)
          rintro e w4 ⟨rfl, hb4⟩
          exact ⟨rfl, hV.step hb4⟩)
         simp only [Act.put, List.setIfInBounds_toArray, List.set_cons_zero, List.set_cons_succ]
         go_big_quiet_on)
      | (go_big_quiet_want
         apply Exists.intro
         refine ⟨fun V hV => ?_, ?_⟩
         (unfold Oper.quietAt
          go_simp
          go_at_call 99
          (with_reducible refine (HQ6.out V (HBX.out V hV)).mono ?_)
          rintro e w4 ⟨rfl, hb4⟩
          exact ⟨rfl, hV.step hb4⟩)
         simp only [Act.put, List.setIfInBounds_toArray, List.set_cons_zero, List.set_cons_succ]
         go_big_quiet_on)
      | (go_big_quiet_want
         apply Exists.intro
         refine ⟨fun V hV => ?_, ?_⟩
         (unfold Oper.quietAt
          go_simp
          go_at_call 98
          (with_reducible refine (HQ7.out V (HBX.out V hV)).mono ?_)
          rintro e w4 ⟨rfl, hb4⟩
          exact ⟨rfl, hV.step hb4⟩)
         simp only [Act.put, List.setIfInBounds_toArray, List.set_cons_zero, List.set_cons_succ]
         go_big_quiet_on)
      | fail)
    refine wpQuiet_nil ?_
    intro W4 hW4
    go_wp2
    go_ret
    exact ⟨by rw [HE.out]; rfl, HBX.out W4 hW4⟩
set_option maxRecDepth 100000 in
set_option maxHeartbeats 1600000 in
theorem implAcctOk_any (hi : Nat) (vh vc vs vl : Value) (a : AcctD) (w : World) (hg : Handle w) (hz : acctSmall 1048576 a) (hbig : acctBig a) (h : AcctR.rd hi w (aCells a vh vc vs vl) a) (hh : hi ≤ w.heap.size) :
    Calls Tryz.prog 24 #[.agg #[.string (aId a), .int .i64 (aLim a), .int .i64 (aPos a), .int .i64 (aMost a), .int .i64 (aSum a), vh, .int .i64 (aR a).1, .int .i64 (aR a).2.1, vc, vs, vl]] w fun e w' => e = .returned (.bool (acctOk a)) ∧ Below w.heap.size w w' := by
  obtain ⟨vh0, vc0, vs0, vl0, hcs, r1, r2, r3, r4⟩ := acct_rd h
  simp only [aCells, List.cons.injEq, and_true, true_and] at hcs
  obtain ⟨rfl, rfl, rfl, rfl⟩ := hcs
  clear h
  obtain ⟨z1, z2, z3, z4, z5⟩ := hz
  obtain ⟨y0, y1, y1', y2, y3, y4, y5⟩ := hbig
  obtain ⟨id, lim, pos, most, sum, hs, ⟨sp, hd, cs, ss⟩, sl⟩ := a
  simp only [aId, aLim, aPos, aMost, aSum, aH, aS] at r1 r2 r3 r4 z1 z2 z3 z4 z5 y0 y1 y1' y2 y3 y4 y5 ⊢
  have HQ := Lib.hid (fun V (hV : Below w.heap.size w V) => implOk_any hi id lim pos most sum hs sp hd cs ss sl vh vc vs vl V (hg.below hV (Nat.le_refl _)) y0 z1 y1' z2 z3 z4 (fun x hx => ⟨(y5 x hx).1, (y5 x hx).2.1⟩) (Rep.below (R := HoldsR) r1 hV hh) (r2.below hV hh) (r3.below hV hh) (Rep.below (R := SlotsR) r4 hV hh) (Nat.le_trans hh hV.size))
  obtain ⟨AH, cH, rfl, -⟩ := Rep.slice_form r1
  obtain ⟨AC, cC, rfl, -⟩ := r2.form
  obtain ⟨AS, cS, rfl, -⟩ := r3.form
  obtain ⟨AL, cL, rfl, -⟩ := Rep.slice_form r4
  have HAO := Lib.hid (fun V => implAccountOf_any id lim pos most sum AH hs.length cH sp hd AC cs.length cC AS ss.length cS AL sl.length cL V)
  clear r1 r2 r3 r4 z5 y0 y1 y1' y2 y3 y4 y5 hg
  generalize acctOk (id, lim, pos, most, sum, hs, (sp, hd, cs, ss), sl) = res at HQ ⊢
  go_enter Tryz.func24, Tryz.ntmps24
  go_upto_region 1 with fail
  obtain ⟨W, hW⟩ : ∃ W, W = w.alloc (.cells #[.string id, .int .i64 lim, .int .i64 pos, .int .i64 most, .int .i64 sum, .slice AH hs.length cH, .int .i64 sp, .int .i64 hd, .slice AC cs.length cC, .slice AS ss.length cS, .slice AL sl.length cL] 50) := ⟨_, rfl⟩
  have b0 : bk W w.heap.size 50 [.string id, .int .i64 lim, .int .i64 pos, .int .i64 most, .int .i64 sum, .slice AH hs.length cH, .int .i64 sp, .int .i64 hd, .slice AC cs.length cC, .slice AS ss.length cS, .slice AL sl.length cL] := by rw [hW]; exact bk.new w _ _
  have HB0 : Hid (Below w.heap.size w W) := Lib.hid (by rw [hW]; exact (Below.refl _ _).alloc (Nat.le_refl _) _)
  rw [← hW]
  clear hW
  obtain ⟨⟨p0, p1, p2, p3, p4, p5, p6, p7, p8, p9, p10⟩, -⟩ := b0.eleven
  have z0 := b0.lt
  clear b0
  go_wp2_with fail
  refine (HAO.out W).mono ?_
  rintro e w1 ⟨rfl, hb1⟩
  have HB1 : Hid (Below w.heap.size w w1) := Lib.hid (HB0.out.trans (hb1.mono (by omega)))
  have x1 := hb1.size
  clear hb1 p0 p1 p2 p3 p4 p5 p6 p7 p8 p9 p10
  go_wp2_with fail
  refine (HQ.out w1 HB1.out).mono ?_
  rintro e w2 ⟨rfl, hb2⟩
  have HB2 : Hid (Below w.heap.size w w2) := Lib.hid (HB1.out.trans (hb2.mono (by omega)))
  clear hb2
  go_wp2
  go_ret
  exact ⟨rfl, HB2.out⟩
end Go.Proofs.YthnimmagaocipaaGreatDoor
set_option linter.unusedVariables false
namespace Go.Proofs.YthnimmagaocipaaGreatDoor
open Go.ChangeShapes Go.WideShapes Go.ChangeAt Go.RowKit

set_option maxRecDepth 100000 in
theorem bk.three {w : World} {g : Nat} {t : TypeId} {a b c : Value} (h : bk w g t [a, b, c]) : (w.cell? ⟨g, 0, none⟩ = some a ∧ w.cell? ⟨g, 1, none⟩ = some b ∧ w.cell? ⟨g, 2, none⟩ = some c) ∧ (w.frozen? ⟨g, 0, none⟩ = false ∧ w.frozen? ⟨g, 1, none⟩ = false ∧ w.frozen? ⟨g, 2, none⟩ = false) :=
  ⟨⟨h.cell 0, h.cell 1, h.cell 2⟩, h.frozen 0, h.frozen 1, h.frozen 2⟩
set_option maxRecDepth 100000 in
theorem owE.turned {α : Type} {T : TypeId} {k B lo hi : Nat} {enc : α → List Value} {w w' : World} {v : Value} {l : List α} (h : owE T k enc B w v l) (ht : Turned lo hi w w') (hv : ∀ g, v.ownBlock = some g → g < lo ∨ hi ≤ g) : owE T k enc B w' v l :=
  h.keep fun g hg => ht.block g (h.lt g hg).2 (by have := hv g hg; omega)

end Go.Proofs.YthnimmagaocipaaGreatDoor
set_option linter.unusedVariables false
namespace Go.Proofs.YthnimmagaocipaaGreatDoor
open Go.ChangeShapes Go.WideShapes Go.ChangeAt Go.RowKit

end Go.Proofs.YthnimmagaocipaaGreatDoor
set_option linter.unusedVariables false
namespace Go.Proofs.YthnimmagaocipaaGreatDoor
open Go.ChangeShapes Go.WideShapes Go.ChangeAt Go.RowKit

end Go.Proofs.YthnimmagaocipaaGreatDoor
set_option linter.unusedVariables false
namespace Go.Proofs.YthnimmagaocipaaGreatDoor
open Go.ChangeShapes Go.WideShapes Go.ChangeAt Go.RowKit

end Go.Proofs.YthnimmagaocipaaGreatDoor
set_option linter.unusedVariables false
namespace Go.Proofs.YthnimmagaocipaaGreatDoor
open Go.ChangeShapes Go.WideShapes Go.ChangeAt Go.RowKit

end Go.Proofs.YthnimmagaocipaaGreatDoor
set_option linter.unusedVariables false
namespace Go.Proofs.YthnimmagaocipaaGreatDoor
open Go.ChangeShapes Go.WideShapes Go.ChangeAt Go.RowKit

end Go.Proofs.YthnimmagaocipaaGreatDoor
set_option linter.unusedVariables false
namespace Go.Proofs.YthnimmagaocipaaGreatDoor
open Go.ChangeShapes Go.WideShapes Go.ChangeAt Go.RowKit

abbrev aAgg (x : AcctD) (vh vc vs vl : Value) : Value := .agg #[.string (aId x), .int .i64 (aLim x), .int .i64 (aPos x), .int .i64 (aMost x), .int .i64 (aSum x), vh, .int .i64 (aR x).1, .int .i64 (aR x).2.1, vc, vs, vl]
set_option maxRecDepth 100000 in
set_option maxHeartbeats 16000000 in
theorem eachAcct_any (g : Nat) (lb : Array Value) (f : AcctD → AcctD) (hi : Nat) (v : Value) (l : BookD) (w : World) (hn : l.length ≤ 1048576) (h : AcctsR.rd hi w [v] l) (hh : hi ≤ w.heap.size) (eg : ∀ args w, (callFunc g args).run Tryz.prog w = .ok (.enter g args) w)
    (hf : ∀ x ∈ l, ∀ V vh vc vs vl, Below w.heap.size w V → AcctR.rd hi V (aCells x vh vc vs vl) x → Calls Tryz.prog g (#[aAgg x vh vc vs vl] ++ lb) V (acctOneI (f x) V)) :
    Calls Tryz.prog 27 #[.agg #[v], .func (.func g) #[] lb] w (bookOneI (l.map f) w) := by
  obtain ⟨A0, c0, rfl, hc0, hrd⟩ := accts_rd h
  have HR := Lib.hid hrd
  have HF := Lib.hid hf
  have HRX : Hid (∀ V u, Below w.heap.size w V → AcctsIv.I (w.heap.size + 2) V.heap.size V [u] (l.map f) → bookOneI (l.map f) w (.returned (.agg #[u])) V) := Lib.hid fun V u hV hm => ⟨u, rfl, AcctsIv.mono hm (by omega) (Nat.le_refl _), hV⟩
  have HTL : Hid (∀ i, l.length ≤ i → (l.map f).take i = l.map f) := Lib.hid fun i hi => List.take_of_length_le (by simpa using hi)
  have HTN : Hid (∀ i x, l[i]? = some x → (l.map f).take (i + 1) = (l.map f).take i ++ [f x]) := Lib.hid fun i x hx => by
    have hi := (List.getElem?_eq_some_iff.1 hx).1
    have hx' := (List.getElem?_eq_some_iff.1 hx).2
    rw [List.take_succ_eq_append_getElem (by simpa using hi)]
    congr 2
    all_goals simp [hx']
  generalize l.map f = R at HRX HTL HTN ⊢
  clear hrd h hf
  go_enter Tryz.func27, Tryz.ntmps27
  go_upto_region 2 with fail
  obtain ⟨W, hW⟩ : ∃ W, W = (w.alloc (.cells #[.slice A0 l.length c0] 29)).alloc (.cells #[.slice none 0 0] 29) := ⟨_, rfl⟩
  have b0 : bk W w.heap.size 29 [.slice A0 l.length c0] := by rw [hW]; exact (bk.new w _ _).alloc _
  have b1 : bk W (w.heap.size + 1) 29 [.slice none 0 0] := by rw [hW]; simpa using bk.new (w.alloc _) _ _
  have HB0 : Hid (Below w.heap.size w W) := Lib.hid (by rw [hW]; exact ((Below.refl _ _).alloc (Nat.le_refl _) _).alloc (by simp) _)
  have z0 : W.heap.size = w.heap.size + 2 := by rw [hW]; simp
  rw [← hW]
  clear hW
  have q0 := b0.cell 0
  simp only [List.getElem?_cons_zero] at q0
  have B1 := Lib.hid b1
  clear b0 b1
  go_wp2
  go_loopw [5, 11] (fun ov iv wr => ∃ (i : Nat) (A : Option Addr) (c : Nat) (ps : List AcctV) (p q : Nat → Nat), i ≤ l.length ∧ ov = .slice A ps.length c ∧ iv = .int .i64 i ∧ ps.length ≤ i ∧ Hid (ps.map aDat = R.take i) ∧ Hid (bk wr (w.heap.size + 1) 29 [.slice none 0 0]) ∧ Hid (owE 50 11 aEnc (w.heap.size + 2) wr (.slice A ps.length c) ps) ∧ Hid (parts AcctIv aEnc aDat wr (Value.slice A ps.length c).ownBlock (w.heap.size + 2) ps p q) ∧ Hid (Below w.heap.size w wr) ∧ w.heap.size + 2 ≤ wr.heap.size) (fun _ iv _ => l.length - (intOf iv).toNat)
  case atStart => exact ⟨0, none, 0, [], _, _, Nat.zero_le _, rfl, rfl, Nat.zero_le _, Lib.hid rfl, B1, Lib.hid (owE_none _ _ _ _ _), Lib.hid (parts.nil _ _ _ _ _ _), HB0, by omega⟩
  case round =>
    obtain ⟨i, A, c, ps, p, q, hil, rfl, rfl, hpl, HPS, HK1, HO, HP, HB, hz⟩ := hrel
    by_cases hin : i < l.length
    · obtain ⟨x, hx⟩ : ∃ x, l[i]? = some x := ⟨_, List.getElem?_eq_getElem hin⟩
      obtain ⟨b, off, AH, cH, AC, cC, AS, cS, AL, cL, rfl, hbl, hat, hrd⟩ := HR.out i x hx
      have HPN : Hid (R.take (i + 1) = R.take i ++ [f x]) := Lib.hid (HTN.out i x hx)
      have hat := hat.below HB.out (show b < w.heap.size by omega)
      obtain ⟨d0, d1, d2, d3, d4, d5, d6, d7, d8, d9, d10⟩ := hat.eleven
      have HCP := Lib.hid (fun V (hV : Below wr.heap.size wr V) => HF.out x (List.mem_of_getElem? hx) V _ _ _ _ (HB.out.trans (hV.mono (by omega))) (Rep.below (R := AcctR) hrd (HB.out.trans (hV.mono (by omega))) hh))
      clear hrd hat hx
      have g1 : (i : Int) < (l.length : Int) := by omega
      have g2 : 0 ≤ (i : Int) := by omega
      generalize f x = y at HCP HPN
      go_upto_region 5 with fail
      obtain ⟨W3, hW3⟩ : ∃ W3, W3 = wr.alloc (.cells #[.string (aId x), .int .i64 (aLim x), .int .i64 (aPos x), .int .i64 (aMost x), .int .i64 (aSum x), .slice AH (aH x).length cH, .int .i64 (aR x).1, .int .i64 (aR x).2.1, .slice AC (aR x).2.2.1.length cC, .slice AS (aR x).2.2.2.length cS, .slice AL (aS x).length cL] 50) := ⟨_, rfl⟩
      have b3 : bk W3 wr.heap.size 50 [.string (aId x), .int .i64 (aLim x), .int .i64 (aPos x), .int .i64 (aMost x), .int .i64 (aSum x), .slice AH (aH x).length cH, .int .i64 (aR x).1, .int .i64 (aR x).2.1, .slice AC (aR x).2.2.1.length cC, .slice AS (aR x).2.2.2.length cS, .slice AL (aS x).length cL] := by rw [hW3]; exact bk.new wr _ _
      have hb3 : Below wr.heap.size wr W3 := by rw [hW3]; exact (Below.refl _ _).alloc (Nat.le_refl _) _
      rw [← hW3]
      clear hW3 d0 d1 d2 d3 d4 d5 d6 d7 d8 d9 d10
      have z3 := b3.lt
      have HB3 := Lib.hid hb3
      obtain ⟨⟨p0, p1, p2, p3, p4, p5, p6, p7, p8, p9, p10⟩, -⟩ := b3.eleven
      clear b3 hb3
      go_wp2_with fail
      refine (HCP.out _ HB3.out).mono ?_
      rintro e w5 ⟨vh5, vc5, vs5, vl5, rfl, hm5, hb5⟩
      obtain ⟨BH, dH, BC, dC, BS, dS, BL, dL, hf5⟩ := acct_forms hm5.mine.rd
      simp only [aCells, List.cons.injEq, and_true, true_and] at hf5
      obtain ⟨rfl, rfl, rfl, rfl⟩ := hf5
      have HB5 := Lib.hid hb5
      have HM5 := Lib.hid hm5
      have z5 := hb5.size
      clear hb5 hm5 p0 p1 p2 p3 p4 p5 p6 p7 p8 p9 p10 HCP
      go_wp2_with (at_builtin; refine app_elem aEnc 11 (fun _ => rfl) (by decide) aEnc_one 27 50 #[.string ⟨#[]⟩, .int .i64 0, .int .i64 0, .int .i64 0, .int .i64 0, .slice none 0 0, .int .i64 0, .int .i64 0, .slice none 0 0, .slice none 0 0, .slice none 0 0] 160 Tryz.underlying27 infoAcct rfl _ _ rfl (by rfl) (w.heap.size + 2) w5 _ ps ((y, (BH, dH), (BC, dC), (BS, dS), (BL, dL)) : AcctV) _ _ (by rfl) (by rfl) (by rfl) (by simp) (HO.out.below (HB3.out.trans (HB5.out.mono (by omega))) (Nat.le_refl _)) (by unfold maxLen; omega) (by omega) (by first | omega | (simp; omega)) ?_)
      intro A9 c9 w9 hown9 hc9 hg9 hl9
      obtain ⟨pp9, qq9, hp9⟩ := grow_step (y := ((y, (BH, dH), (BC, dC), (BS, dS), (BL, dL)) : AcctV)) HO.out HP.out (by omega) (HB3.out.trans (HB5.out.mono (by omega))) (show AcctIv.I W3.heap.size w5.heap.size w5 _ _ from ⟨_, _, _, _, rfl, HM5.out⟩) (Nat.le_of_lt z3) hg9 hl9
      have hlt9 : w5.heap.size + 1 ≤ w9.heap.size := by have := hg9.size; simpa using this
      have HP9 := Lib.hid hp9
      have HO9 := Lib.hid hown9
      have HPR : Hid ((ps ++ [((y, (BH, dH), (BC, dC), (BS, dS), (BL, dL)) : AcctV)]).map aDat = R.take (i + 1)) := Lib.hid (by rw [HPN.out, ← HPS.out, List.map_append]; rfl)
      have HK19 : Hid (bk w9 (w.heap.size + 1) 29 [.slice none 0 0]) := Lib.hid ((((HK1.out.below (HB3.out.trans (HB5.out.mono (by omega))) (by omega)).alloc _).grown hg9 (fun e => by have := (HO.out.lt _ e).1; omega)))
      have HB9 : Hid (Below w.heap.size w w9) := Lib.hid (((HB.out.trans ((HB3.out.trans (HB5.out.mono (by omega))).mono (by omega))).alloc (by omega) _).grown hg9 (by simp; omega) (fun g hg' => by have := (HO.out.lt g hg').1; omega))
      clear hown9 hg9 hl9 hp9 HM5 HB5
      go_wp2
      go_roundw
      case rel => exact ⟨i + 1, A9, c9, ps ++ [((y, (BH, dH), (BC, dC), (BS, dS), (BL, dL)) : AcctV)], pp9, qq9, by omega, by simp, by go_num, by simp; omega, HPR, HK19, Lib.hid (by simpa using HO9.out), HP9, HB9, by omega⟩
      case measure => simp [intOf] <;> omega
    · obtain rfl : i = l.length := by omega
      have HPR : Hid (ps.map aDat = R) := Lib.hid (by rw [← HTL.out l.length (Nat.le_refl _)]; exact HPS.out)
      have q1 := HK1.out.frozen 0
      have q2 := HK1.out.cell 0
      simp only [List.getElem?_cons_zero] at q2
      go_wp2
      refine bodyPost_ret (v := .agg #[.slice A ps.length c]) (by simp [results, Tryz.results27, go_sem, q2]) rfl ?_
      have ht := (Turned.refl w.heap.size (w.heap.size + 2) wr).set (b := w.heap.size + 1) 0 (.slice A ps.length c) (by omega) (by omega)
      have hm := HP.out.slice HO.out (fun _ => rfl) noAcctV
      rw [HPR.out] at hm
      exact HRX.out _ _ (HB.out.trans (ht.below (by omega) (by omega))) (AcctsIv.mono (AcctsIv.turned hm ht (.inr (by omega)) (Nat.le_refl _)) (Nat.le_refl _) ht.size)
set_option maxRecDepth 100000 in
set_option maxHeartbeats 1600000 in
theorem bookCopy_any (hi : Nat) (v : Value) (l : BookD) (w : World) (hs : bookSmall 1048576 l) (h : AcctsR.rd hi w [v] l) (hh : hi ≤ w.heap.size) :
    Calls Tryz.prog 42 #[.agg #[v]] w (bookOneI l w) := by
  obtain ⟨A, c, rfl, hc⟩ := Rep.slice_form h
  have eg := Go.Proofs.enters_of Tryz.func43 (by kernel_rfl) rfl
  have HQ := Lib.hid (fun W (hW : Below w.heap.size w W) => eachAcct_any _ #[] (fun x => x) hi _ l W hs.1 (Rep.below (R := AcctsR) h hW hh) (Nat.le_trans hh hW.size) eg (fun x hx V vh vc vs vl hV hr => acctCopy_any hi vh vc vs vl x V (hs.2 x hx) hr (Nat.le_trans hh (Nat.le_trans hW.size hV.size))))
  rw [List.map_id'] at HQ
  clear h hs eg
  obtain ⟨W, hW⟩ : ∃ W, W = (w.alloc (.cells #[.slice A l.length c] 29)).alloc (.cells #[.slice none 0 0] 29) := ⟨_, rfl⟩
  have b1 : bk W (w.heap.size + 1) 29 [.slice none 0 0] := by rw [hW]; simpa using bk.new (w.alloc _) _ _
  have HB0 : Hid (Below w.heap.size w W) := Lib.hid (by rw [hW]; exact ((Below.refl _ _).alloc (Nat.le_refl _) _).alloc (by simp) _)
  have z0 : W.heap.size = w.heap.size + 2 := by rw [hW]; simp
  have B1 := Lib.hid b1
  clear b1
  go_enter Tryz.func42, Tryz.ntmps42
  go_wp2_with fail
  rw [← hW]
  clear hW
  refine (HQ.out W HB0.out).mono ?_
  rintro e w1 ⟨u, rfl, hm, hb⟩
  obtain ⟨AU, cU, rfl, -⟩ := Rep.slice_form (AcctsIv.rd hm)
  have HM := Lib.hid hm
  have z1 := hb.size
  have b1 := B1.out.below hb (by omega)
  have HB1 : Hid (Below w.heap.size w w1) := Lib.hid (HB0.out.trans (hb.mono (by omega)))
  clear hm hb
  have q1 := b1.cell 0
  have f1 := b1.frozen 0
  simp only [List.getElem?_cons_zero] at q1
  go_wp2
  refine bodyPost_ret (v := .agg #[.slice AU l.length cU]) (by simp [results, Tryz.results42, go_sem, q1]) rfl ?_
  have ht := (Turned.refl w.heap.size (w.heap.size + 2) w1).set (b := w.heap.size + 1) 0 (.slice AU l.length cU) (by omega) (by omega)
  exact ⟨_, rfl, AcctsIv.mono (AcctsIv.turned HM.out ht (.inr (by omega)) (Nat.le_refl _)) (by omega) ht.size, HB1.out.trans (ht.below (by omega) (by omega))⟩
end Go.Proofs.YthnimmagaocipaaGreatDoor
set_option linter.unusedVariables false
namespace Go.Proofs.YthnimmagaocipaaGreatDoor
open Go.ChangeShapes Go.WideShapes Go.ChangeAt Go.RowKit

/-- what stands before account i -/
def idBefore (l : BookD) (i : Nat) : ByteArray := if i = 0 then ⟨#[]⟩ else aId (l.getD (i - 1) nilAcct)
set_option maxRecDepth 100000 in
theorem bytesLess_nil {l : List UInt8} (h : l ≠ []) : Op.bytesLess [] l = true := by
  cases l with
  | nil => exact absurd rfl h
  | cons a l => rfl
set_option maxRecDepth 100000 in
theorem bytesLess_leq : ∀ a b : List UInt8, (Op.bytesLess a b || a == b) = !(Op.bytesLess b a)
  | [], [] => rfl
  | [], b :: y => rfl
  | a :: x, [] => rfl
  | a :: x, b :: y => by
    have ih := bytesLess_leq x y
    have e1 : ((a :: x) == (b :: y)) = (a == b && x == y) := rfl
    rw [e1]
    unfold Op.bytesLess
    by_cases h1 : a < b
    · have h2 : ¬ b < a := by rw [UInt8.lt_iff_toNat_lt] at h1 ⊢; omega
      have h3 : (a == b) = false := beq_eq_false_iff_ne.2 (fun e => by subst e; exact UInt8.lt_irrefl _ h1)
      have h4 : (b == a) = false := beq_eq_false_iff_ne.2 (fun e => by subst e; exact UInt8.lt_irrefl _ h1)
      simp [h1, h2, h3, h4]
    · by_cases h2 : b < a
      · have h3 : (a == b) = false := beq_eq_false_iff_ne.2 (fun e => by subst e; exact UInt8.lt_irrefl _ h2)
        simp [h1, h2, h3]
      · have h3 : a = b := by
          apply UInt8.toNat_inj.1
          rw [UInt8.lt_iff_toNat_lt] at h1 h2
          omega
        subst h3
        simpa [h1] using ih
set_option maxRecDepth 100000 in
theorem acctOk_id {x : AcctD} (h : acctOk x = true) : (aId x).toList ≠ [] := by
  unfold acctOk acctHead at h
  simp only [Bool.and_eq_true] at h
  have h1 := h.1.1
  unfold acctIdB luOk at h1
  simp only [Bool.and_eq_true, decide_eq_true_eq] at h1
  have h2 := h1.2.1.1
  intro e
  have : (aId x).toList.length = (aId x).size := by rw [ByteArray.toList_eq]; simp
  rw [e] at this
  simp at this
  omega
set_option maxRecDepth 100000 in
theorem atOk_before {l : BookD} {i : Nat} {x : AcctD} (hx : l[i]? = some x) : bookAtOk l i = (acctOk x && Op.bytesLess (idBefore l i).toList (aId x).toList) := by
  unfold bookAtOk idBefore strLt
  rw [getA_of hx]
  by_cases h : i = 0
  · rw [if_pos h, decide_eq_true h, Bool.true_or]
    cases hk : acctOk x
    · rfl
    · rw [show (⟨#[]⟩ : ByteArray).toList = [] from by rw [ByteArray.toList_eq], bytesLess_nil (acctOk_id hk)]
  · rw [if_neg h, decide_eq_false h, Bool.false_or]
set_option maxRecDepth 100000 in
theorem idBefore_next {l : BookD} {i : Nat} {x : AcctD} (hx : l[i]? = some x) : idBefore l (i + 1) = aId x := by
  unfold idBefore
  rw [if_neg (by omega), Nat.add_sub_cancel, getA_of hx]
set_option maxRecDepth 100000 in
theorem book_long {l : BookD} (h : 6 < l.length) : bookOk l = false := by
  unfold bookOk
  rw [decide_eq_false (by omega), Bool.and_false]
set_option maxRecDepth 100000 in
set_option maxHeartbeats 16000000 in
theorem implBookOk_any (hi : Nat) (v : Value) (l : BookD) (w : World) (hg : Handle w) (hs : bookSmall 1048576 l) (hbig : ∀ x ∈ l, acctBig x) (h : AcctsR.rd hi w [v] l) (hh : hi ≤ w.heap.size) :
    Calls Tryz.prog 9 #[.agg #[v]] w fun e w' => e = .returned (.bool (bookOk l)) ∧ Below w.heap.size w w' := by
  obtain ⟨A, c, rfl, hc, h⟩ := accts_rd h
  obtain ⟨hn, hs⟩ := hs
  have HR := Lib.hid h
  have HS := Lib.hid hs
  have HSB := Lib.hid hbig
  have HG := Lib.hid hg
  clear h hs hbig hg
  have bb := bk.new w 29 [.slice A l.length c]
  have hbb : Below w.heap.size w (w.alloc (.cells #[.slice A l.length c] 29)) := (Below.refl _ _).alloc (Nat.le_refl _) _
  have hzz : (w.alloc (.cells #[.slice A l.length c] 29)).heap.size = w.heap.size + 1 := by simp
  by_cases h6 : 6 < l.length
  · have HV := Lib.hid (book_long h6)
    have h6' : (6 : Int) < (l.length : Int) := by omega
    have HBB := Lib.hid hbb
    clear bb hbb
    go_enter Tryz.func9, Tryz.ntmps9
    go_wp2
    go_ret
    exact ⟨ret_bool HV.out.symm, HBB.out⟩
  have h6' : ¬ (6 : Int) < (l.length : Int) := by omega
  have HBN : Hid (idBefore l 0 = ⟨#[]⟩) := Lib.hid rfl
  go_enter Tryz.func9, Tryz.ntmps9
  go_upto_region 1 with fail
  obtain ⟨W0, hW0⟩ : ∃ W0, W0 = w.alloc (.cells #[.slice A l.length c] 29) := ⟨_, rfl⟩
  rw [← hW0] at bb hbb hzz ⊢
  clear hW0
  have qb0 := bb.cell 0
  simp only [List.getElem?_cons_zero] at qb0
  have HBB := Lib.hid hbb
  clear bb hbb
  go_wp2
  go_loopw [3, 13] (fun bv iv wr => ∃ i : Nat, i ≤ l.length ∧ iv = .int .i64 i ∧ Hid (bv = .string (idBefore l i)) ∧ Hid ((List.range i).all (bookAtOk l) = true) ∧ Hid (Below W0.heap.size W0 wr) ∧ W0.heap.size ≤ wr.heap.size) (fun _ iv _ => l.length - (intOf iv).toNat)
  case atStart => exact ⟨0, Nat.zero_le _, rfl, Lib.hid (by rw [HBN.out]), Lib.hid rfl, Lib.hid (Below.refl _ _), Nat.le_refl _⟩
  case round =>
    obtain ⟨i, hi', rfl, HBV, HN, HBr, hz⟩ := hrel
    have HB : Hid (Below w.heap.size w wr) := Lib.hid (HBB.out.trans (HBr.out.mono (by omega)))
    by_cases hin : i < l.length
    · obtain ⟨x, hx⟩ : ∃ x, l[i]? = some x := ⟨_, List.getElem?_eq_getElem hin⟩
      have HXD := Lib.hid (atOk_before hx)
      have HNX := Lib.hid (idBefore_next hx)
      obtain ⟨b, off, AH, cH, AC, cC, AS, cS, AL, cL, rfl, hbl, hat, hrd⟩ := HR.out i x hx
      have hat := hat.below HB.out (show b < w.heap.size by omega)
      obtain ⟨d0, d1, d2, d3, d4, d5, d6, d7, d8, d9, d10⟩ := hat.eleven
      have HOK0 := Lib.hid (fun W (hW : Below wr.heap.size wr W) => implAcctOk_any hi _ _ _ _ x W (HG.out.below (HB.out.trans (hW.mono (by omega))) (Nat.le_refl _)) (HS.out x (List.mem_of_getElem? hx)) (HSB.out x (List.mem_of_getElem? hx)) (Rep.below (R := AcctR) hrd (HB.out.trans (hW.mono (by omega))) hh) (by have := hW.size; omega))
      have g1 : (i : Int) < (l.length : Int) := by omega
      have g2 : 0 ≤ (i : Int) := by omega
      clear hx hat hrd
      obtain ⟨idb, hidb⟩ : ∃ s, s = idBefore l i := ⟨_, rfl⟩
      rw [← hidb] at HBV HXD
      have hbv := HBV.out
      subst hbv
      clear hidb HBV
      go_upto_region 7 with fail
      obtain ⟨W3, hW3⟩ : ∃ W3, W3 = wr.alloc (.cells #[.string (aId x), .int .i64 (aLim x), .int .i64 (aPos x), .int .i64 (aMost x), .int .i64 (aSum x), .slice AH (aH x).length cH, .int .i64 (aR x).1, .int .i64 (aR x).2.1, .slice AC (aR x).2.2.1.length cC, .slice AS (aR x).2.2.2.length cS, .slice AL (aS x).length cL] 50) := ⟨_, rfl⟩
      have b3 : bk W3 wr.heap.size 50 [.string (aId x), .int .i64 (aLim x), .int .i64 (aPos x), .int .i64 (aMost x), .int .i64 (aSum x), .slice AH (aH x).length cH, .int .i64 (aR x).1, .int .i64 (aR x).2.1, .slice AC (aR x).2.2.1.length cC, .slice AS (aR x).2.2.2.length cS, .slice AL (aS x).length cL] := by rw [hW3]; exact bk.new wr _ _
      have hb3 : Below wr.heap.size wr W3 := by rw [hW3]; exact (Below.refl _ _).alloc (Nat.le_refl _) _
      rw [← hW3]
      clear hW3
      have z3 := b3.lt
      have B3 := Lib.hid b3
      have HB4 : Hid (Below W0.heap.size W0 W3) := Lib.hid (HBr.out.trans (hb3.mono (by omega)))
      have HOK := Lib.hid (HOK0.out W3 hb3)
      obtain ⟨⟨p0, p1, p2, p3, p4, p5, p6, p7, p8, p9, p10⟩, -⟩ := b3.eleven
      clear b3 hb3 d0 d1 d2 d3 d4 d5 d6 d7 d8 d9 d10 HOK0
      obtain ⟨ok, hok⟩ : ∃ ok, ok = bookAtOk l i := ⟨_, rfl⟩
      rw [← hok] at HXD
      have HOKI : Hid (bookAtOk l i = ok) := Lib.hid hok.symm
      clear hok
      generalize acctOk x = hk at HOK HXD
      go_wp2_with fail
      refine HOK.out.mono ?_
      rintro e w4 ⟨rfl, hb4⟩
      have HBD : Hid (Below W0.heap.size W0 w4) := Lib.hid (HB4.out.trans (hb4.mono (by have := HB4.out.size; omega)))
      have zc : W0.heap.size ≤ w4.heap.size := HBD.out.size
      have HBC : Hid (Below w.heap.size w w4) := Lib.hid (HBB.out.trans (HBD.out.mono (by omega)))
      have b4 := B3.out.below hb4 z3
      obtain ⟨⟨q0, -⟩, -⟩ := b4.eleven
      clear hb4 b4 p0 p1 p2 p3 p4 p5 p6 p7 p8 p9 p10
      cases hk
      · have HV : Hid (bookOk l = false) := Lib.hid (book_ok_not hin (by rw [HOKI.out, HXD.out]; rfl))
        go_wp2
        go_ret
        exact ⟨ret_bool HV.out.symm, HBC.out⟩
      rw [Bool.true_and] at HXD
      have hq := bytesLess_leq (aId x).toList idb.toList
      cases hbl2 : Op.bytesLess idb.toList (aId x).toList
      · have HV : Hid (bookOk l = false) := Lib.hid (book_ok_not hin (by rw [HOKI.out, HXD.out, hbl2]))
        rw [hbl2] at hq
        cases h1 : Op.bytesLess (aId x).toList idb.toList
        · have h2 : ((aId x).toList == idb.toList) = true := by simpa [h1] using hq
          clear hq
          go_wp2
          go_ret
          exact ⟨ret_bool HV.out.symm, HBC.out⟩
        · clear hq
          go_wp2
          go_ret
          exact ⟨ret_bool HV.out.symm, HBC.out⟩
      · have HN2 := Lib.hid (book_snoc HN.out (by rw [HOKI.out, HXD.out, hbl2]))
        rw [hbl2] at hq
        have h1 : Op.bytesLess (aId x).toList idb.toList = false := by simp at hq; simp [hq.1]
        have h2 : ((aId x).toList == idb.toList) = false := by simp at hq; simpa using hq.2
        have h3 : ¬ (aId x).toList = idb.toList := by simpa using h2
        clear hq
        go_wp2
        go_roundw
        case rel => exact ⟨i + 1, by omega, by go_num, Lib.hid (by rw [HNX.out]), HN2, HBD, zc⟩
        case measure => simp [intOf] <;> omega
    · obtain rfl : i = l.length := by omega
      have HV : Hid (bookOk l = true) := Lib.hid (by rw [book_ok_end HN.out]; exact decide_eq_true (by omega))
      go_wp2
      go_ret
      exact ⟨ret_bool HV.out.symm, HB.out⟩
end Go.Proofs.YthnimmagaocipaaGreatDoor
set_option linter.unusedVariables false
namespace Go.Proofs.YthnimmagaocipaaGreatDoor
open Go.ChangeShapes Go.WideShapes Go.ChangeAt Go.RowKit

set_option maxRecDepth 100000 in
set_option maxHeartbeats 16000000 in
theorem implBookPut_any (hi hj : Nat) (v vh vc vs vl : Value) (l : BookD) (a : AcctD) (w : World) (hg : Handle w) (hs : bookSmall 1048576 l) (hbig : ∀ x ∈ l, acctBig x) (hza : acctSmall 1048576 a) (hba : acctBig a) (h : AcctsR.rd hi w [v] l) (hh : hi ≤ w.heap.size) (ha : AcctR.rd hj w (aCells a vh vc vs vl) a) (hhj : hj ≤ w.heap.size) :
    Calls Tryz.prog 18 #[.agg #[v], .agg #[.string (aId a), .int .i64 (aLim a), .int .i64 (aPos a), .int .i64 (aMost a), .int .i64 (aSum a), vh, .int .i64 (aR a).1, .int .i64 (aR a).2.1, vc, vs, vl]] w (bookResBI (putBook l a).1 (putBook l a).2 w) := by
  obtain ⟨A, c, rfl, hc⟩ := Rep.slice_form h
  obtain ⟨AH, cH, AC, cC, AS, cS, AL, cL, hf⟩ := acct_forms ha
  simp only [aCells, List.cons.injEq, and_true, true_and] at hf
  obtain ⟨rfl, rfl, rfl, rfl⟩ := hf
  have HG := Lib.hid hg
  have HAT := Lib.hid (fun W (hW : Below w.heap.size w W) => implBookAt_any hi _ l (aId a) W hs.1 (Rep.below (R := AcctsR) h hW hh) (Nat.le_trans hh hW.size))
  have HOB := Lib.hid (fun W (hW : Below w.heap.size w W) => implBookOk_any hi _ l W (HG.out.below hW (Nat.le_refl _)) hs hbig (Rep.below (R := AcctsR) h hW hh) (Nat.le_trans hh hW.size))
  have HOA := Lib.hid (fun W (hW : Below w.heap.size w W) => implAcctOk_any hj _ _ _ _ a W (HG.out.below hW (Nat.le_refl _)) hza hba (Rep.below (R := AcctR) ha hW hhj) (Nat.le_trans hhj hW.size))
  have HCB := Lib.hid (fun W (hW : Below w.heap.size w W) => bookCopy_any hi _ l W hs (Rep.below (R := AcctsR) h hW hh) (Nat.le_trans hh hW.size))
  have HCA := Lib.hid (fun W (hW : Below w.heap.size w W) => acctCopy_any hj _ _ _ _ a W hza (Rep.below (R := AcctR) ha hW hhj) (Nat.le_trans hhj hW.size))
  have HNO : Hid (putBook l a = ([], false) → ∀ V, Below w.heap.size w V → bookResBI (putBook l a).1 (putBook l a).2 w (.returned (.tuple #[.agg #[.slice none 0 0], .bool false])) V) := Lib.hid (fun he V hV => by
    rw [he]
    exact ⟨_, rfl, ⟨none, 0, rfl, Nat.le_refl _, .inl rfl⟩, hV⟩)
  have HYES : Hid (∀ k : Nat, findA l (aId a) = (k : Int) → bookOk l = true → acctOk a = true → ∀ V u, Below w.heap.size w V → SliceI AcctIv w.heap.size V.heap.size V [u] (l.set k a) → bookResBI (putBook l a).1 (putBook l a).2 w (.returned (.tuple #[.agg #[u], .bool true])) V) := Lib.hid (fun k hk h1 h2 V u hV hm => by
    have he : putBook l a = (l.set k a, true) := by
      unfold putBook putAt
      rw [h1, h2, hk, if_pos (by simp), Int.toNat_natCast]
    rw [he]
    exact ⟨u, rfl, hm, hV⟩)
  clear h ha hs hbig hza hba hg
  obtain ⟨W, hW⟩ : ∃ W, W = ((w.alloc (.cells #[.slice A l.length c] 29)).alloc (.cells #[.string (aId a), .int .i64 (aLim a), .int .i64 (aPos a), .int .i64 (aMost a), .int .i64 (aSum a), .slice AH (aH a).length cH, .int .i64 (aR a).1, .int .i64 (aR a).2.1, .slice AC (aR a).2.2.1.length cC, .slice AS (aR a).2.2.2.length cS, .slice AL (aS a).length cL] 50)).alloc (.cells #[.slice none 0 0] 29) := ⟨_, rfl⟩
  have b0 : bk W w.heap.size 29 [.slice A l.length c] := by rw [hW]; exact ((bk.new w _ _).alloc _).alloc _
  have b1 : bk W (w.heap.size + 1) 50 [.string (aId a), .int .i64 (aLim a), .int .i64 (aPos a), .int .i64 (aMost a), .int .i64 (aSum a), .slice AH (aH a).length cH, .int .i64 (aR a).1, .int .i64 (aR a).2.1, .slice AC (aR a).2.2.1.length cC, .slice AS (aR a).2.2.2.length cS, .slice AL (aS a).length cL] := by rw [hW]; exact (by simpa using bk.new (w.alloc _) 50 [.string (aId a), .int .i64 (aLim a), .int .i64 (aPos a), .int .i64 (aMost a), .int .i64 (aSum a), .slice AH (aH a).length cH, .int .i64 (aR a).1, .int .i64 (aR a).2.1, .slice AC (aR a).2.2.1.length cC, .slice AS (aR a).2.2.2.length cS, .slice AL (aS a).length cL] : bk _ (w.heap.size + 1) _ _).alloc _
  have b2 : bk W (w.heap.size + 1 + 1) 29 [.slice none 0 0] := by rw [hW]; simpa using bk.new ((w.alloc _).alloc _) 29 [.slice none 0 0]
  have HB0 : Hid (Below w.heap.size w W) := Lib.hid (by rw [hW]; exact (((Below.refl _ _).alloc (Nat.le_refl _) _).alloc (by simp) _).alloc (by simp; omega) _)
  have z0 : W.heap.size = w.heap.size + 3 := by rw [hW]; simp
  have hkc := @findA_neg l (aId a)
  go_enter Tryz.func18, Tryz.ntmps18
  go_upto_region 1 with fail
  rw [← hW]
  clear hW
  have B00 := Lib.hid b0
  have B10 := Lib.hid b1
  have B20 := Lib.hid b2
  clear b0 b1 b2
  obtain ⟨⟨p0, p1, p2, p3, p4, p5, p6, p7, p8, p9, p10⟩, -⟩ := B10.out.eleven
  have b0c := B00.out.cell 0
  have b2c := B20.out.cell 0
  have b2f := B20.out.frozen 0
  simp only [List.getElem?_cons_zero] at b0c b2c
  go_wp2_with fail
  refine (HAT.out W HB0.out).mono ?_
  rintro e w1 ⟨rfl, hb1⟩
  have z1 := hb1.size
  have B01 := Lib.hid (B00.out.below hb1 (by omega))
  have B11 := Lib.hid (B10.out.below hb1 (by omega))
  have B21 := Lib.hid (B20.out.below hb1 (by omega))
  have HB1 : Hid (Below w.heap.size w w1) := Lib.hid (HB0.out.trans (hb1.mono (by omega)))
  clear p0 p1 p2 p3 p4 p5 p6 p7 p8 p9 p10 b0c b2c b2f
  clear hb1
  obtain ⟨⟨p0, p1, p2, p3, p4, p5, p6, p7, p8, p9, p10⟩, -⟩ := B11.out.eleven
  have b0c := B01.out.cell 0
  have b2c := B21.out.cell 0
  have b2f := B21.out.frozen 0
  simp only [List.getElem?_cons_zero] at b0c b2c
  generalize hbo : bookOk l = bo at HOB
  generalize hao : acctOk a = ao at HOA
  have HBO := Lib.hid hbo
  have HAO := Lib.hid hao
  clear hbo hao
  rcases hkc with hkc | ⟨k, hk, hkl⟩
  · have HV : Hid (putBook l a = ([], false)) := Lib.hid (by unfold putBook; rw [if_neg (by simp only [Bool.and_eq_true, decide_eq_true_eq]; omega)])
    go_wp2
    refine bodyPost_ret (v := .tuple #[.agg #[.slice none 0 0], .bool false]) (by simp [results, Tryz.results18, go_sem, b2c]) rfl ?_
    have ht := (Turned.refl w.heap.size (w.heap.size + 3) w1).set (b := w.heap.size + 1 + 1) 0 (.slice none 0 0) (by omega) (by omega)
    exact HNO.out HV.out _ (HB1.out.trans (ht.below (by omega) (by omega)))
  go_wp2_with fail
  refine (HOB.out w1 HB1.out).mono ?_
  rintro e w2 ⟨rfl, hb2⟩
  have z2 := hb2.size
  have B02 := Lib.hid (B01.out.below hb2 (by omega))
  have B12 := Lib.hid (B11.out.below hb2 (by omega))
  have B22 := Lib.hid (B21.out.below hb2 (by omega))
  have HB2 : Hid (Below w.heap.size w w2) := Lib.hid (HB1.out.trans (hb2.mono (by omega)))
  clear p0 p1 p2 p3 p4 p5 p6 p7 p8 p9 p10 b0c b2c b2f
  clear hb2
  obtain ⟨⟨p0, p1, p2, p3, p4, p5, p6, p7, p8, p9, p10⟩, -⟩ := B12.out.eleven
  have b0c := B02.out.cell 0
  have b2c := B22.out.cell 0
  have b2f := B22.out.frozen 0
  simp only [List.getElem?_cons_zero] at b0c b2c
  cases bo
  · have HV : Hid (putBook l a = ([], false)) := Lib.hid (by unfold putBook; rw [if_neg (by rw [HBO.out]; simp)])
    go_wp2
    refine bodyPost_ret (v := .tuple #[.agg #[.slice none 0 0], .bool false]) (by simp [results, Tryz.results18, go_sem, b2c]) rfl ?_
    have ht := (Turned.refl w.heap.size (w.heap.size + 3) w2).set (b := w.heap.size + 1 + 1) 0 (.slice none 0 0) (by omega) (by omega)
    exact HNO.out HV.out _ (HB2.out.trans (ht.below (by omega) (by omega)))
  go_wp2_with fail
  refine (HOA.out w2 HB2.out).mono ?_
  rintro e w3 ⟨rfl, hb3⟩
  have z3 := hb3.size
  have B03 := Lib.hid (B02.out.below hb3 (by omega))
  have B13 := Lib.hid (B12.out.below hb3 (by omega))
  have B23 := Lib.hid (B22.out.below hb3 (by omega))
  have HB3 : Hid (Below w.heap.size w w3) := Lib.hid (HB2.out.trans (hb3.mono (by omega)))
  clear p0 p1 p2 p3 p4 p5 p6 p7 p8 p9 p10 b0c b2c b2f
  clear hb3
  obtain ⟨⟨p0, p1, p2, p3, p4, p5, p6, p7, p8, p9, p10⟩, -⟩ := B13.out.eleven
  have b0c := B03.out.cell 0
  have b2c := B23.out.cell 0
  have b2f := B23.out.frozen 0
  simp only [List.getElem?_cons_zero] at b0c b2c
  cases ao
  · have HV : Hid (putBook l a = ([], false)) := Lib.hid (by unfold putBook; rw [if_neg (by rw [HAO.out]; simp)])
    go_wp2
    refine bodyPost_ret (v := .tuple #[.agg #[.slice none 0 0], .bool false]) (by simp [results, Tryz.results18, go_sem, b2c]) rfl ?_
    have ht := (Turned.refl w.heap.size (w.heap.size + 3) w3).set (b := w.heap.size + 1 + 1) 0 (.slice none 0 0) (by omega) (by omega)
    exact HNO.out HV.out _ (HB3.out.trans (ht.below (by omega) (by omega)))
  have HK := Lib.hid hk
  skip
  clear hk
  have k0 : 0 ≤ (k : Int) := by omega
  have k1 : (k : Int) < (l.length : Int) := by omega
  go_wp2_with fail
  refine (HCB.out w3 HB3.out).mono ?_
  rintro e w4 ⟨u, rfl, hm4, hb4⟩
  obtain ⟨AR, cR, hue, hcR, hrow⟩ := hm4
  simp only [List.cons.injEq, and_true] at hue
  subst hue
  obtain ⟨rb, off, xs, p, q, rfl, hxl, hR⟩ : ∃ b off xs p q, AR = some ⟨b, off, none⟩ ∧ xs.map (·.2) = l ∧ RowI AcctIv w3.heap.size w4.heap.size w4 b off xs p q := by
    rcases hrow with rfl | h
    · simp at hkl
    · exact h
  have hxn : k < xs.length := by rw [← hxl, List.length_map] at hkl; exact hkl
  have HXL := Lib.hid hxl
  have z4 := hb4.size
  have B04 := Lib.hid (B03.out.below hb4 (by omega))
  have B14 := Lib.hid (B13.out.below hb4 (by omega))
  have B24 := Lib.hid (B23.out.below hb4 (by omega))
  have HB4 : Hid (Below w.heap.size w w4) := Lib.hid (HB3.out.trans (hb4.mono (by omega)))
  have HR := Lib.hid hR
  clear p0 p1 p2 p3 p4 p5 p6 p7 p8 p9 p10 b0c b2c b2f
  clear hb4 hrow hR hxl
  go_upto_region 5 with fail
  obtain ⟨W4, hW4⟩ : ∃ W4, W4 = w4.alloc (.cells #[.slice (some ⟨rb, off, none⟩) l.length cR] 29) := ⟨_, rfl⟩
  have b4 : bk W4 w4.heap.size 29 [.slice (some ⟨rb, off, none⟩) l.length cR] := by rw [hW4]; exact bk.new w4 _ _
  have hb5 : Below w4.heap.size w4 W4 := by rw [hW4]; exact (Below.refl _ _).alloc (Nat.le_refl _) _
  rw [← hW4]
  clear hW4
  have z5 := b4.lt
  have B05 := Lib.hid (B04.out.below hb5 (by omega))
  have B15 := Lib.hid (B14.out.below hb5 (by omega))
  have B25 := Lib.hid (B24.out.below hb5 (by omega))
  have HB5 : Hid (Below w.heap.size w W4) := Lib.hid (HB4.out.trans (hb5.mono (by omega)))
  have HR5 := Lib.hid (HR.out.below hb5 (Nat.le_refl _))
  have HH5 := Lib.hid hb5
  have B45 := Lib.hid b4
  have hD : Below W4.heap.size W4 W4.drew := below_drew _ _
  have HX := Lib.hid (fun V (hV : Below W4.heap.size W4 V) => And.intro (B15.out.below hV (by omega)).eleven.1 ((B45.out.below hV z5).cell 0))
  obtain ⟨⟨p0, p1, p2, p3, p4, p5, p6, p7, p8, p9, p10⟩, b4c⟩ := HX.out W4 (Below.refl _ _)
  simp only [List.getElem?_cons_zero] at b4c
  obtain ⟨rlo, rhi⟩ := HR5.out.blk
  clear hb5 b4
  go_cut [] (fun wx => Hid (SliceI AcctIv (w.heap.size + 3) wx.heap.size wx [.slice (some ⟨rb, off, none⟩) l.length cR] (l.set k a)) ∧ Hid (bk wx (w.heap.size + 1 + 1) 29 [.slice none 0 0]) ∧ Hid (bk wx w4.heap.size 29 [.slice (some ⟨rb, off, none⟩) l.length cR]) ∧ Hid (Below w.heap.size w wx) ∧ w4.heap.size < wx.heap.size)
  case first =>
    go_region_law (first
      | (go_simp; go_at_call 43; (with_reducible refine (HCA.out _ (HB5.out.trans (hD.mono (by omega)))).mono ?_); rintro e w5 ⟨vh5, vc5, vs5, vl5, rfl, hm5, hb5⟩; obtain ⟨BH, dH, BC, dC, BS, dS, BL, dL, hf5⟩ := acct_forms hm5.mine.rd; simp only [aCells, List.cons.injEq, and_true, true_and] at hf5; obtain ⟨rfl, rfl, rfl, rfl⟩ := hf5; have hb35 : Below W4.heap.size W4 w5 := hD.trans hb5; obtain ⟨⟨p0, p1, p2, p3, p4, p5, p6, p7, p8, p9, p10⟩, b4c⟩ := HX.out _ hb35; simp only [List.getElem?_cons_zero] at b4c; have hroom := row_room HR5.out hxn (hb35.block rb (by omega)); have HRM := Lib.hid hroom; obtain ⟨⟨u0, e0⟩, f0⟩ := hroom 0 (by omega); obtain ⟨⟨u1, e1⟩, f1⟩ := hroom 1 (by omega); obtain ⟨⟨u2, e2⟩, f2⟩ := hroom 2 (by omega); obtain ⟨⟨u3, e3⟩, f3⟩ := hroom 3 (by omega); obtain ⟨⟨u4, e4⟩, f4⟩ := hroom 4 (by omega); obtain ⟨⟨u5, e5⟩, f5⟩ := hroom 5 (by omega); obtain ⟨⟨u6, e6⟩, f6⟩ := hroom 6 (by omega); obtain ⟨⟨u7, e7⟩, f7⟩ := hroom 7 (by omega); obtain ⟨⟨u8, e8⟩, f8⟩ := hroom 8 (by omega); obtain ⟨⟨u9, e9⟩, f9⟩ := hroom 9 (by omega); obtain ⟨⟨u10, e10⟩, f10⟩ := hroom 10 (by omega); simp only [Nat.add_zero] at e0 f0; have HB6 := Lib.hid hb35; have HM5 := Lib.hid hm5; clear hm5 hb5 hb35 hroom)
      | fail)
    all_goals
      have hz6 := HB6.out.size
      obtain ⟨p', q', hR6⟩ := row_put11 HR5.out hxn HB6.out (show AcctIv.I W4.heap.size w5.heap.size w5 _ _ from ⟨_, _, _, _, rfl, HM5.out⟩) (Nat.le_refl _) (by omega) (by omega)
      have HR6 := Lib.hid hR6
      clear hR6 p0 p1 p2 p3 p4 p5 p6 p7 p8 p9 p10
      go_wp2
      go_meet
      refine ⟨Lib.hid ⟨_, _, by rw [List.length_set], by rw [List.length_set]; exact hcR, .inr ⟨rb, off, xs.set k (aCells a (.slice BH (aH a).length dH) (.slice BC (aR a).2.2.1.length dC) (.slice BS (aR a).2.2.2.length dS) (.slice BL (aS a).length dL), a), p', q', rfl, ?_, ?_⟩⟩, Lib.hid ?_, Lib.hid ?_, Lib.hid ?_, ?_⟩
      · rw [List.map_set, HXL.out]
      · exact HR6.out.mono (by omega) (by rw [put11_size]; exact Nat.le_refl _)
      · exact bk.put11 (B25.out.below HB6.out (by omega)) (by omega)
      · exact bk.put11 (B45.out.below HB6.out z5) (by omega)
      · exact put11_below (HB5.out.trans (HB6.out.mono (by omega))) (by omega)
      · rw [put11_size]; omega
  case rest =>
    obtain ⟨HS6, HK2, HK4, HB7, z7⟩ := hcut
    have q0 := HK4.out.cell 0
    have q1 := HK2.out.cell 0
    have q2 := HK2.out.frozen 0
    simp only [List.getElem?_cons_zero] at q0 q1
    go_wp2
    refine bodyPost_ret (v := .tuple #[.agg #[.slice (some ⟨rb, off, none⟩) l.length cR], .bool true]) (by simp [results, Tryz.results18, go_sem, q1]) rfl ?_
    have ht := (Turned.refl w.heap.size (w.heap.size + 3) wc).set (b := w.heap.size + 1 + 1) 0 (.slice (some ⟨rb, off, none⟩) l.length cR) (by omega) (by omega)
    have hI := AcctIv.slice.turned HS6.out ht (.inr (Nat.le_refl _)) (Nat.le_refl _)
    exact HYES.out k HK.out HBO.out HAO.out _ _ (HB7.out.trans (ht.below (by omega) (by omega))) (AcctIv.slice.mono (lo' := w.heap.size) hI (by omega) ht.size)
end Go.Proofs.YthnimmagaocipaaGreatDoor
set_option linter.unusedVariables false
namespace Go.Proofs.YthnimmagaocipaaGreatDoor
open Go.ChangeShapes Go.WideShapes Go.ChangeAt Go.RowKit

set_option maxRecDepth 100000 in
theorem markOf_size (k : Int) (h : k ≤ 1000000000) : (markOf k).length ≤ 21 := by
  have := mark_len k h
  unfold markOf
  simp; omega
end Go.Proofs.YthnimmagaocipaaGreatDoor
