/- BookTime of the reference; no conditions. -/
import Derived.Test.YthnimmagaocipaaGreatDoorMrg3
import Derived.Test.YthnimmagaocipaaGreatDoorMrg5
import Derived.Deep.RegionLaw
import Derived.Deep.DeepCutAuto
import Derived.Test.YthnimmagaocipaaGreatDoorMrg7
import Derived.Test.YthnimmagaocipaaGreatDoorMrg2
import Derived.Deep.RegionHeld3
set_option linter.unusedVariables false
namespace Go.Proofs.YthnimmagaocipaaGreatDoor
open Go.ChangeShapes Go.WideShapes Go.ChangeAt Go.RowKit

set_option maxRecDepth 100000 in
set_option maxHeartbeats 16000000 in
theorem specBookTime_any (hi : Nat) (v : Value) (l : BookD) (now : Int) (w : World) (hs : bookSmall 1048576 l) (hbig : ∀ x ∈ l, acctBig x) (h : AcctsR.rd hi w [v] l) (hh : hi ≤ w.heap.size) :
    Calls Tryz.prog 11 #[.agg #[v], .int .i64 now] w (bookOneA ((l.map fun x => acctAt x now)) w) := by
  obtain ⟨A0, c0, rfl, hc0, hrd⟩ := accts_rd h
  obtain ⟨hn, hs⟩ := hs
  have HR := Lib.hid hrd
  have HS := Lib.hid hs
  have HSB := Lib.hid hbig
  have HRX : Hid (∀ V u, Below w.heap.size w V → SliceI (Ivl.any AcctR) (w.heap.size + 3) V.heap.size V [u] ((l.map fun x => acctAt x now)) → bookOneA ((l.map fun x => acctAt x now)) w (.returned (.agg #[u])) V) := Lib.hid fun V u hV hm => ⟨u, rfl, (Ivl.any AcctR).slice.mono hm (by omega) (Nat.le_refl _), hV⟩
  have HTL : Hid (∀ i, l.length ≤ i → ((l.map fun x => acctAt x now)).take i = (l.map fun x => acctAt x now)) := Lib.hid fun i hi => List.take_of_length_le (by simpa using hi)
  have HTN : Hid (∀ i x, l[i]? = some x → ((l.map fun x => acctAt x now)).take (i + 1) = ((l.map fun x => acctAt x now)).take i ++ [acctAt x now]) := Lib.hid fun i x hx => by
    have hi := (List.getElem?_eq_some_iff.1 hx).1
    have hx' := (List.getElem?_eq_some_iff.1 hx).2
    rw [List.take_succ_eq_append_getElem (by simpa using hi)]
    congr 2
    all_goals simp [hx']
  generalize (l.map fun x => acctAt x now) = R at HRX HTL HTN ⊢
  clear hrd hs h
  go_enter Tryz.func11, Tryz.ntmps11
  go_upto_region 2 with fail
  obtain ⟨W, hW⟩ : ∃ W, W = ((w.alloc (.cells #[.slice A0 l.length c0] 29)).alloc (.cells #[.slice none 0 0] 29)).alloc (.cells #[.slice none 0 0] 29) := ⟨_, rfl⟩
  have b0 : bk W w.heap.size 29 [.slice A0 l.length c0] := by rw [hW]; exact ((bk.new w _ _).alloc _).alloc _
  have b1 : bk W (w.heap.size + 1) 29 [.slice none 0 0] := by rw [hW]; exact (by simpa using bk.new (w.alloc _) _ _ : bk _ (w.heap.size + 1) _ _).alloc _
  have b2 : bk W (w.heap.size + 1 + 1) 29 [.slice none 0 0] := by rw [hW]; simpa using bk.new ((w.alloc _).alloc _) _ _
  have HB0 : Hid (Below w.heap.size w W) := Lib.hid (by rw [hW]; exact (((Below.refl _ _).alloc (Nat.le_refl _) _).alloc (by simp) _).alloc (by simp; omega) _)
  have z0 : W.heap.size = w.heap.size + 3 := by rw [hW]; simp
  rw [← hW]
  clear hW
  have q0 := b0.cell 0
  simp only [List.getElem?_cons_zero] at q0
  have B1 := Lib.hid b1
  have B2 := Lib.hid b2
  clear b0 b1 b2
  go_wp2
  go_loopw [12] (fun iv wr => ∃ (i : Nat) (A : Option Addr) (c : Nat) (ps : List AcctV) (p q : Nat → Nat), i ≤ l.length ∧ iv = .int .i64 i ∧ ps.length ≤ i ∧ Hid (ps.map aDat = R.take i) ∧ Hid (bk wr (w.heap.size + 1) 29 [.slice none 0 0]) ∧ Hid (bk wr (w.heap.size + 1 + 1) 29 [.slice A ps.length c]) ∧ Hid (owE 50 11 aEnc (w.heap.size + 3) wr (.slice A ps.length c) ps) ∧ Hid (parts (Ivl.any AcctR) aEnc aDat wr (Value.slice A ps.length c).ownBlock (w.heap.size + 3) ps p q) ∧ Hid (Below w.heap.size w wr) ∧ w.heap.size + 3 ≤ wr.heap.size) (fun iv _ => l.length - (intOf iv).toNat)
  case atStart => exact ⟨0, none, 0, [], _, _, Nat.zero_le _, rfl, Nat.zero_le _, Lib.hid rfl, B1, B2, Lib.hid (owE_none _ _ _ _ _), Lib.hid (parts.nil _ _ _ _ _ _), HB0, by omega⟩
  case round =>
    obtain ⟨i, A, c, ps, p, q, hil, rfl, hpl, HPS, HK1, HK2, HO, HP, HB, hz⟩ := hrel
    by_cases hin : i < l.length
    · obtain ⟨x, hx⟩ : ∃ x, l[i]? = some x := ⟨_, List.getElem?_eq_getElem hin⟩
      obtain ⟨b, off, AH, cH, AC, cC, AS, cS, AL, cL, rfl, hbl, hat, hrd⟩ := HR.out i x hx
      have hxs := HS.out x (List.mem_of_getElem? hx)
      have HPN : Hid (R.take (i + 1) = R.take i ++ [acctAt x now]) := Lib.hid (HTN.out i x hx)
      have hat := hat.below HB.out (show b < w.heap.size by omega)
      obtain ⟨d0, d1, d2, d3, d4, d5, d6, d7, d8, d9, d10⟩ := hat.eleven
      have HCP := Lib.hid (fun V (hV : Below wr.heap.size wr V) => specAcctAt_any hi _ _ _ _ x now V (HS.out x (List.mem_of_getElem? hx)) (HSB.out x (List.mem_of_getElem? hx)) (Rep.below (R := AcctR) hrd (HB.out.trans (hV.mono (by omega))) hh) (by have := hV.size; omega))
      clear hrd hat hx hxs
      generalize acctAt x now = y at HCP HPN
      have g1 : (i : Int) < (l.length : Int) := by omega
      have g2 : 0 ≤ (i : Int) := by omega
      go_upto_region 5 with fail
      obtain ⟨W3, hW3⟩ : ∃ W3, W3 = wr.alloc (.cells #[.string (aId x), .int .i64 (aLim x), .int .i64 (aPos x), .int .i64 (aMost x), .int .i64 (aSum x), .slice AH (aH x).length cH, .int .i64 (aR x).1, .int .i64 (aR x).2.1, .slice AC (aR x).2.2.1.length cC, .slice AS (aR x).2.2.2.length cS, .slice AL (aS x).length cL] 50) := ⟨_, rfl⟩
      have b3 : bk W3 wr.heap.size 50 [.string (aId x), .int .i64 (aLim x), .int .i64 (aPos x), .int .i64 (aMost x), .int .i64 (aSum x), .slice AH (aH x).length cH, .int .i64 (aR x).1, .int .i64 (aR x).2.1, .slice AC (aR x).2.2.1.length cC, .slice AS (aR x).2.2.2.length cS, .slice AL (aS x).length cL] := by rw [hW3]; exact bk.new wr _ _
      have hb3 : Below wr.heap.size wr W3 := by rw [hW3]; exact (Below.refl _ _).alloc (Nat.le_refl _) _
      rw [← hW3]
      clear hW3 d0 d1 d2 d3 d4 d5 d6 d7 d8 d9 d10
      have z3 := b3.lt
      have HB3 := Lib.hid hb3
      have HX3 := Lib.hid (fun V (hV : Below wr.heap.size wr V) (hV3 : ∀ k, k < W3.heap.size → V.heap[k]? = W3.heap[k]?) => And.intro ((HK2.out.below hV (by omega)).cell 0) ((bk.eleven (show bk V wr.heap.size _ _ from (hV3 _ z3).trans b3)).1))
      have hD : Below W3.heap.size W3 W3.drew := below_drew _ _
      have f2 : ∀ V : World, Below wr.heap.size wr V → V.frozen? ⟨w.heap.size + 1 + 1, 0, none⟩ = false := fun V hV => (HK2.out.below hV (by omega)).frozen 0
      obtain ⟨e2, e0⟩ := HX3.out _ HB3.out (fun k _ => rfl)
      simp only [List.getElem?_cons_zero] at e2
      obtain ⟨p0, p1, p2, p3, p4, p5, p6, p7, p8, p9, p10⟩ := e0
      have ff := f2 _ HB3.out
      clear b3
      have hne : ¬ wr.heap.size = w.heap.size + 1 + 1 := by omega
      have hne2 : ¬ w.heap.size + 1 + 1 = wr.heap.size := by omega
      go_region_law (first
        | (go_simp; go_at_call 26; (with_reducible refine (HCP.out _ (HB3.out.trans (hD.mono (by omega)))).mono ?_); rintro e w5 ⟨vh5, vc5, vs5, vl5, rfl, hm5, hb5⟩; obtain ⟨BH, dH, BC, dC, BS, dS, BL, dL, hf5⟩ := acct_forms hm5.rd; simp only [aCells, List.cons.injEq, and_true, true_and] at hf5; obtain ⟨rfl, rfl, rfl, rfl⟩ := hf5; have hb35 : Below W3.heap.size W3 w5 := hD.trans hb5; obtain ⟨e2, e0⟩ := HX3.out _ (HB3.out.trans (hb35.mono (by omega))) (fun k hk => hb35.block k hk); simp only [List.getElem?_cons_zero] at e2; obtain ⟨p0, p1, p2, p3, p4, p5, p6, p7, p8, p9, p10⟩ := e0; have ff5 := f2 _ (HB3.out.trans (hb35.mono (by omega))); have HB5 := Lib.hid hb35; have HM5 := Lib.hid hm5; have hlt5 : w.heap.size + 1 + 1 < w5.heap.size := (by have := hb35.size; omega); have hlt6 : wr.heap.size < w5.heap.size := (by have := hb35.size; omega); clear hm5 hb5 hb35)
        | (refine app_elem_step aEnc 11 (fun _ => rfl) (by decide) aEnc_one 27 50 #[.string ⟨#[]⟩, .int .i64 0, .int .i64 0, .int .i64 0, .int .i64 0, .slice none 0 0, .int .i64 0, .int .i64 0, .slice none 0 0, .slice none 0 0, .slice none 0 0] 160 Tryz.underlying27 infoAcct rfl _ _ (by rfl) (by rfl) (w.heap.size + 3) w5 _ ps ((y, (BH, dH), (BC, dC), (BS, dS), (BL, dL)) : AcctV) _ _ (by rfl) (by rfl) (by rfl) rfl (HO.out.below (HB3.out.trans (HB5.out.mono (by omega))) (Nat.le_refl _)) (by unfold maxLen; omega) (by omega) (by have := HB5.out.size; omega) ?_; intro A9 c9 w9 hown9 hc9 hg9 hl9; have hk9 : ∀ k, k < w5.heap.size → (k < w.heap.size + 3 ∨ wr.heap.size ≤ k) → w9.heap[k]? = w5.heap[k]? := (fun k hk hh => (hg9.block k (by simp; omega) (fun e => by have := HO.out.lt k e.symm; omega)).trans (Below.heap_alloc w5 _ k hk)); have z5 := HB5.out.size; have e9 := (cell_keep (o := 0) (hk9 (w.heap.size + 1 + 1) (by omega) (.inl (by omega)))).trans e2; have ff9 := (frozen_keep (o := 0) (hk9 (w.heap.size + 1 + 1) (by omega) (.inl (by omega)))).trans ff5; have hx9 := hk9 wr.heap.size (by omega) (.inr (Nat.le_refl _)); have p0 := (cell_keep (o := 0) hx9).trans p0; have p1 := (cell_keep (o := 1) hx9).trans p1; have p2 := (cell_keep (o := 2) hx9).trans p2; have p3 := (cell_keep (o := 3) hx9).trans p3; have p4 := (cell_keep (o := 4) hx9).trans p4; have p5 := (cell_keep (o := 5) hx9).trans p5; have p6 := (cell_keep (o := 6) hx9).trans p6; have p7 := (cell_keep (o := 7) hx9).trans p7; have p8 := (cell_keep (o := 8) hx9).trans p8; have p9 := (cell_keep (o := 9) hx9).trans p9; have p10 := (cell_keep (o := 10) hx9).trans p10)
        | fail)
      all_goals
        obtain ⟨pp9, qq9, hp9⟩ := grow_step (y := ((y, (BH, dH), (BC, dC), (BS, dS), (BL, dL)) : AcctV)) HO.out HP.out (by omega) (HB3.out.trans (HB5.out.mono (by omega))) HM5.out (show wr.heap.size ≤ W3.drew.heap.size from Nat.le_of_lt z3) hg9 hl9
        have hlt9 : w5.heap.size + 1 ≤ w9.heap.size := by have := hg9.size; simpa using this
        have HP9 := Lib.hid hp9
        have HO9 := Lib.hid hown9
        have HPR : Hid ((ps ++ [((y, (BH, dH), (BC, dC), (BS, dS), (BL, dL)) : AcctV)]).map aDat = R.take (i + 1)) := Lib.hid (by rw [HPN.out, ← HPS.out, List.map_append]; rfl)
        have HK19 : Hid (bk w9 (w.heap.size + 1) 29 [.slice none 0 0]) := Lib.hid ((hk9 (w.heap.size + 1) (by omega) (.inl (by omega))).trans (HK1.out.below (HB3.out.trans (HB5.out.mono (by omega))) (by omega)))
        have HK29 : Hid (bk w9 (w.heap.size + 1 + 1) 29 [.slice A ps.length c]) := Lib.hid ((hk9 (w.heap.size + 1 + 1) (by omega) (.inl (by omega))).trans (HK2.out.below (HB3.out.trans (HB5.out.mono (by omega))) (by omega)))
        have HB9 : Hid (Below w.heap.size w w9) := Lib.hid (((HB.out.trans ((HB3.out.trans (HB5.out.mono (by omega))).mono (by omega))).alloc (by omega) _).grown hg9 (by simp; omega) (fun g hg' => by have := (HO.out.lt g hg').1; omega))
        have HLT := Lib.hid HO.out.lt
        clear hown9 hg9 hl9 hp9 hk9 e9 ff9 hx9 p0 p1 p2 p3 p4 p5 p6 p7 p8 p10 HM5 HB5
        go_wp2
        go_roundw
        case rel => exact ⟨i + 1, A9, c9, ps ++ [((y, (BH, dH), (BC, dC), (BS, dS), (BL, dL)) : AcctV)], pp9, qq9, by omega, by go_num, by simp; omega, HPR, Lib.hid (HK19.out.far (p := ⟨_, _, none⟩) (by simp) _), Lib.hid (by have := HK29.out.set 0 (.slice A9 (ps.length + 1) c9); simpa using this), Lib.hid (by have := HO9.out.set (b := w.heap.size + 1 + 1) (fun e => by have := (HO9.out.lt _ e).1; omega) 0 (.slice A9 (ps.length + 1) c9); simpa using this), Lib.hid (HP9.out.keep (fun b h1 h2 => Below.heap_setCell _ _ _ _ (by simp; omega)) (by simp [World.setCell])), Lib.hid (HB9.out.setCell (p := ⟨w.heap.size + 1 + 1, 0, none⟩) (by simp; omega) _), by simp [World.setCell]; omega⟩
        case measure => simp [intOf] <;> omega
    · obtain rfl : i = l.length := by omega
      have HPR : Hid (ps.map aDat = R) := Lib.hid (by rw [← HTL.out l.length (Nat.le_refl _)]; exact HPS.out)
      have q1 := HK1.out.frozen 0
      have q2 := HK1.out.cell 0
      have q3 := HK2.out.cell 0
      simp only [List.getElem?_cons_zero] at q2 q3
      go_wp2
      refine bodyPost_ret (v := .agg #[.slice A ps.length c]) (by simp [results, Tryz.results11, go_sem, q2]) rfl ?_
      have ht := (Turned.refl w.heap.size (w.heap.size + 3) wr).set (b := w.heap.size + 1) 0 (.slice A ps.length c) (by omega) (by omega)
      have hm := HP.out.slice HO.out (fun _ => rfl) noAcctV
      rw [HPR.out] at hm
      exact HRX.out _ _ (HB.out.trans (ht.below (by omega) (by omega))) ((Ivl.any AcctR).slice.mono ((Ivl.any AcctR).slice.turned hm ht (.inr (by omega)) (Nat.le_refl _)) (Nat.le_refl _) ht.size)
end Go.Proofs.YthnimmagaocipaaGreatDoor
set_option linter.unusedVariables false
namespace Go.Proofs.YthnimmagaocipaaGreatDoor
open Go.ChangeShapes Go.WideShapes Go.ChangeAt Go.RowKit

end Go.Proofs.YthnimmagaocipaaGreatDoor
set_option linter.unusedVariables false
namespace Go.Proofs.YthnimmagaocipaaGreatDoor
set_option maxRecDepth 100000 in
theorem holdsSz_live (l : List HoldD) (now : Int) : holdsSz (liveL l now) ≤ holdsSz l := by
  unfold holdsSz liveL
  induction l with
  | nil => exact Nat.le_refl _
  | cons x l ih =>
    rw [List.filter_cons]
    split
    · simp only [List.map_cons, List.sum_cons, List.length_cons]; omega
    · simp only [List.map_cons, List.sum_cons, List.length_cons]; omega
set_option maxRecDepth 100000 in
theorem acctSz_swept (a : AcctD) (now : Int) : acctSz (acctSwept a now) ≤ acctSz a := by
  unfold acctSwept
  split
  · have := holdsSz_live (aH a) now
    simp only [acctSz, aId, aH, aR, aS] at this ⊢
    omega
  · exact Nat.le_refl _
set_option maxRecDepth 100000 in
theorem ringRoll_lens (r : RingD) (now : Int) : (ringRoll r now).2.2.1.length = r.2.2.1.length ∧ (ringRoll r now).2.2.2.length = r.2.2.2.length := by
  unfold ringRoll
  split
  · exact ⟨shiftL_len _ _, shiftL_len _ _⟩
  · exact ⟨rfl, rfl⟩
set_option maxRecDepth 100000 in
theorem acctSz_at (a : AcctD) (now : Int) : acctSz (acctAt a now) ≤ acctSz a := by
  have h := acctSz_swept a now
  unfold acctAt
  split
  · have h1 := ringRoll_lens (aR a) now
    have hr : aR (acctSwept a now) = aR a := by unfold acctSwept; split <;> rfl
    unfold acctSz at h ⊢
    rw [hr] at h
    show (aId (acctSwept a now)).size + holdsSz (aH (acctSwept a now)) + ((ringRoll (aR a) now).2.2.1.length + (ringRoll (aR a) now).2.2.2.length) + slotsSz (aS (acctSwept a now)) ≤ _
    rw [h1.1, h1.2]
    exact h
  · exact h
end Go.Proofs.YthnimmagaocipaaGreatDoor
set_option linter.unusedVariables false
namespace Go.Proofs.YthnimmagaocipaaGreatDoor
set_option maxRecDepth 100000 in
theorem bookSz_map {f : AcctD → AcctD} (hf : ∀ x, acctSz (f x) ≤ acctSz x) (l : BookD) : bookSz (l.map f) ≤ bookSz l := by
  unfold bookSz
  induction l with
  | nil => simp
  | cons a l ih =>
    have := hf a
    simp only [List.map_cons, List.length_cons, List.sum_cons] at ih ⊢
    omega
set_option maxRecDepth 100000 in
theorem bookSz_at (l : BookD) (now : Int) : bookSz (l.map fun x => acctAt x now) ≤ bookSz l := bookSz_map (fun x => acctSz_at x now) l
end Go.Proofs.YthnimmagaocipaaGreatDoor
set_option linter.unusedVariables false
namespace Go.Proofs.YthnimmagaocipaaGreatDoor
open Go.ChangeShapes Go.WideShapes Go.ChangeAt Go.RowKit

set_option maxRecDepth 100000 in
set_option maxHeartbeats 1600000 in
theorem markHoldsK_any (lo hi : Nat) (v : Value) (l : List HoldD) (k : Int) (w : World) (hn : l.length ≤ 2000000) (hk0 : 0 < k) (hk1 : k ≤ 100000000) (h : HoldsR.mine lo hi w [v] l) (hh : hi ≤ w.heap.size) :
    Calls Tryz.prog 47 #[v, .int .i64 k] w fun e w' => e = .returned (.int .i64 (k + 3 * (l.length : Int))) ∧ HoldsR.mine lo hi w' [v] (holdsMark k l.length) ∧ Turned lo hi w w' := by
  obtain ⟨A, c, rfl, hc, hm⟩ := holds_own h
  clear h
  rcases hm with rfl | ⟨b, off, rfl, h1, h2, hm⟩
  · go_enter Tryz.func47, Tryz.ntmps47
    go_wp2
    go_loop [1, 5] (fun kv iv => iv = .int .i64 0 ∧ kv = .int .i64 k) (fun _ _ => 0)
    case atStart => exact ⟨rfl, rfl⟩
    case round =>
      obtain ⟨rfl, rfl⟩ := hrel
      go_wp2
      go_ret
      exact ⟨by simp, ⟨[], ⟨A, c, rfl, hc, .inl ⟨rfl, rfl⟩⟩, List.nodup_nil, by simp⟩, Turned.refl _ _ _⟩
  generalize l.length = n at hn hc hm ⊢
  have HM := Lib.hid hm
  clear hm
  go_enter Tryz.func47, Tryz.ntmps47
  go_wp2
  go_loopw [1, 5] (fun kv iv wr => ∃ i : Nat, i ≤ n ∧ iv = .int .i64 i ∧ kv = .int .i64 (k + 3 * (i : Int)) ∧ Hid (filled wr b off 3 n i fun j => hCells (holdMark k j)) ∧ Hid (Turned lo hi w wr) ∧ w.heap.size ≤ wr.heap.size) (fun _ iv _ => n - (intOf iv).toNat)
  case atStart => exact ⟨0, Nat.zero_le _, rfl, val_int (by simp), Lib.hid (filled.start HM.out), Lib.hid (Turned.refl _ _ _), Nat.le_refl _⟩
  case round =>
    obtain ⟨i, hi', rfl, rfl, HF, HT, hz⟩ := hrel
    by_cases hin : i < n
    · have g1 : (i : Int) < (n : Int) := by omega
      have g2 : 0 ≤ (i : Int) := by omega
      go_wp2_with fail
      refine (markText_any (k + 3 * (i : Int)) _ (by omega) (by omega)).mono ?_
      rintro e w2 ⟨rfl, hb2⟩
      have HF2 : Hid (filled w2 b off 3 n i fun j => hCells (holdMark k j)) := Lib.hid (HF.out.keep (hb2.block b (show b < _ by omega)))
      obtain ⟨⟨u0, d0⟩, f0⟩ := HF2.out.cells hin 0 (by omega)
      obtain ⟨⟨u1, d1⟩, f1⟩ := HF2.out.cells hin 1 (by omega)
      obtain ⟨⟨u2, d2⟩, f2⟩ := HF2.out.cells hin 2 (by omega)
      simp only [Nat.add_zero] at d0 f0
      have hz2 := hb2.size
      have HT2 : Hid (Turned lo hi w w2) := Lib.hid (HT.out.trans (Turned.of_below hb2))
      clear hb2
      go_wp2
      go_roundw
      case rel => exact ⟨i + 1, by omega, by go_num, val_int (by omega), Lib.hid (HF2.out.next hin (fun _ _ => rfl)), Lib.hid (((HT2.out.set _ _ h1 h2).set _ _ h1 h2).set _ _ h1 h2), by simp [World.setCell]; omega⟩
      case measure => simp [intOf] <;> omega
    · obtain rfl : i = n := by omega
      go_wp2
      go_ret
      refine ⟨rfl, ?_, HT.out⟩
      refine holds_mine (holdsMark_len k i).symm hc h1 h2 ⟨HF.out.room, fun j hj => ?_⟩
      rw [holdsMark_get k i j hj]
      exact HF.out.at_ j hj

set_option maxRecDepth 100000 in
set_option maxHeartbeats 1600000 in
theorem heldHoldsK_any (hi : Nat) (v : Value) (n : Nat) (k : Int) (w : World) (hn : n ≤ 2000000) (hk0 : 0 < k) (hk1 : k ≤ 100000000) (h : HoldsR.rd hi w [v] (holdsMark k n)) (hh : hi ≤ w.heap.size) :
    Calls Tryz.prog 68 #[v, .int .i64 k] w fun e w' => e = .returned (.int .i64 (k + 3 * (n : Int))) ∧ Below w.heap.size w w' := by
  obtain ⟨A, c, hv, hc, h'⟩ := holds_rd h
  rw [holdsMark_len] at hv hc
  have HR := Lib.hid h'
  clear h h'
  subst hv
  go_enter Tryz.func68, Tryz.ntmps68
  go_wp2
  go_loopw [1, 5] (fun kv iv wr => ∃ i : Nat, i ≤ n ∧ iv = .int .i64 i ∧ kv = .int .i64 (k + 3 * (i : Int)) ∧ Hid (Below w.heap.size w wr) ∧ w.heap.size ≤ wr.heap.size) (fun _ iv _ => n - (intOf iv).toNat)
  case atStart => exact ⟨0, Nat.zero_le _, rfl, val_int (by simp), Lib.hid (Below.refl _ _), Nat.le_refl _⟩
  case round =>
    obtain ⟨i, hi', rfl, rfl, HB, hz⟩ := hrel
    by_cases hin : i < n
    · obtain ⟨b, off, rfl, hb, c0, c1, c2⟩ := HR.out i _ (holdsMark_at k n i hin)
      have c0 := (HB.out.cell (p := ⟨b, _, none⟩) (show b < w.heap.size by omega)).trans c0
      have c1 := (HB.out.cell (p := ⟨b, _, none⟩) (show b < w.heap.size by omega)).trans c1
      have c2 := (HB.out.cell (p := ⟨b, _, none⟩) (show b < w.heap.size by omega)).trans c2
      simp only [holdMark] at c0 c1 c2
      have g1 : (i : Int) < (n : Int) := by omega
      have g2 : 0 ≤ (i : Int) := by omega
      have hml := markH_size (k + 3 * (i : Int)) (by omega)
      have HX : Hid (∀ w', Calls Tryz.prog 66 #[.int .i64 (k + 3 * (i : Int))] w' fun e w'' => e = .returned (.string ⟨(markOf (k + 3 * (i : Int))).toArray⟩) ∧ Below w'.heap.size w' w'') := Lib.hid fun w' => markText_any _ w' (by omega) (by omega)
      generalize markOf (k + 3 * (i : Int)) = mk at c0 hml HX
      go_wp2
      go_region_held3 (fun w' => w'.cell? ⟨b, off + i * 3, none⟩ = some (.string ⟨mk.toArray⟩)) (go_keep) ((go_at_call 66; refine (HX.out _).mono ?_; rintro e w2 ⟨rfl, hb2⟩; have q := (hb2.cell (p := ⟨b, off + i * 3, none⟩) (show b < wr.heap.size by omega)).trans c0))
      have c1 := (hb2.cell (p := ⟨b, off + i * 3 + 1, none⟩) (show b < wr.heap.size by omega)).trans c1
      have c2 := (hb2.cell (p := ⟨b, off + i * 3 + 2, none⟩) (show b < wr.heap.size by omega)).trans c2
      have hz2 : wr.heap.size ≤ w2.heap.size := hb2.size
      have HB2 : Hid (Below w.heap.size w w2) := Lib.hid ((HB.out.trans (below_drew _ _)).trans (hb2.mono hz))
      clear hb2
      go_wp2
      go_roundw
      case rel => exact ⟨i + 1, by omega, by go_num, val_int (by omega), HB2, by omega⟩
      case measure => simp [intOf] <;> omega
    · obtain rfl : i = n := by omega
      go_wp2
      go_ret
      exact ⟨rfl, HB.out⟩

end Go.Proofs.YthnimmagaocipaaGreatDoor
set_option linter.unusedVariables false
namespace Go.Proofs.YthnimmagaocipaaGreatDoor
open Go.ChangeShapes Go.WideShapes Go.ChangeAt Go.RowKit

/-- the number with which an element's slots' marks begin -/
def kElS (a : AcctD) (k : Int) : Int := k + 1 + 1 + 1 + 1 + 1 + 3 * ((aH a).length : Int) + 1 + 1 + (aR a).2.2.1.length + (aR a).2.2.2.length
/-- the number behind an element's last mark -/
def kEl (a : AcctD) (k : Int) : Int := kAt (kElS a k) (lensOf (aS a)) (aS a).length
def elMark (a : AcctD) (k : Int) : AcctD :=
  (⟨(markOf k).toArray⟩, k + 1, k + 1 + 1, k + 1 + 1 + 1, k + 1 + 1 + 1 + 1, holdsMark (k + 1 + 1 + 1 + 1 + 1) (aH a).length,
    (k + 1 + 1 + 1 + 1 + 1 + 3 * ((aH a).length : Int), k + 1 + 1 + 1 + 1 + 1 + 3 * ((aH a).length : Int) + 1,
      marksL (fun x => x) (k + 1 + 1 + 1 + 1 + 1 + 3 * ((aH a).length : Int) + 1 + 1) (aR a).2.2.1.length,
      marksL (fun x => x) (k + 1 + 1 + 1 + 1 + 1 + 3 * ((aH a).length : Int) + 1 + 1 + (aR a).2.2.1.length) (aR a).2.2.2.length),
    slotsMark (kElS a k) (lensOf (aS a)))
/-- the number behind the first i elements' marks -/
def kBk (l : BookD) (k : Int) : Int := l.foldl (fun k a => kEl a k) k
def bookMark : BookD → Int → BookD
  | [], _ => []
  | a :: l, k => elMark a k :: bookMark l (kEl a k)
set_option maxRecDepth 100000 in
theorem kEl_up (a : AcctD) (k : Int) : k + 7 + 3 * ((aH a).length : Int) + (aR a).2.2.1.length + (aR a).2.2.2.length + 2 * ((aS a).length : Int) ≤ kEl a k := by
  unfold kEl
  have := kAt_two (kElS a k) (lensOf (aS a))
  rw [lensOf_len] at this
  unfold kElS at this ⊢
  omega
set_option maxRecDepth 100000 in
theorem kBk_nil (k : Int) : kBk [] k = k := rfl
set_option maxRecDepth 100000 in
theorem kBk_cons (a : AcctD) (l : BookD) (k : Int) : kBk (a :: l) k = kBk l (kEl a k) := rfl
set_option maxRecDepth 100000 in
theorem kBk_up : ∀ (l : BookD) (k : Int), k ≤ kBk l k
  | [], k => Int.le_refl _
  | a :: l, k => by
    have h1 := kBk_up l (kEl a k)
    have h2 := kEl_up a k
    rw [kBk_cons]
    omega
set_option maxRecDepth 100000 in
theorem kBk_snoc {l : BookD} {i : Nat} {x : AcctD} (h : l[i]? = some x) (k : Int) : kBk (l.take (i + 1)) k = kEl x (kBk (l.take i) k) := by
  obtain ⟨hi, rfl⟩ := List.getElem?_eq_some_iff.1 h
  unfold kBk
  rw [List.take_succ_eq_append_getElem hi, List.foldl_append]
  rfl
set_option maxRecDepth 100000 in
theorem kBk_take (l : BookD) (i : Nat) (k : Int) : kBk (l.take i) k ≤ kBk l k := by
  have : kBk l k = kBk (l.drop i) (kBk (l.take i) k) := by
    conv => lhs; rw [← List.take_append_drop i l]
    unfold kBk
    rw [List.foldl_append]
  rw [this]
  exact kBk_up _ _
set_option maxRecDepth 100000 in
theorem bookMark_at : ∀ (l : BookD) (k : Int) (j : Nat) (x : AcctD), l[j]? = some x → (bookMark l k)[j]? = some (elMark x (kBk (l.take j) k))
  | [], k, j, x, h => by simp at h
  | a :: l, k, 0, x, h => by
    have : a = x := by simpa using h
    subst this
    rfl
  | a :: l, k, j + 1, x, h => by
    have := bookMark_at l (kEl a k) j x (by simpa using h)
    simpa [bookMark, kBk_cons] using this
set_option maxRecDepth 100000 in
theorem bookMark_len : ∀ (l : BookD) (k : Int), (bookMark l k).length = l.length
  | [], k => rfl
  | a :: l, k => by rw [bookMark, List.length_cons, bookMark_len l, List.length_cons]
/-- an element of a row and its parts, while it is edited -/
structure eW (b o P Q l1 h1 l2 h2 l3 h3 : Nat) (w0 w : World) (a : AcctD) (vh vc vs vl : Value) : Prop where
  at_ : atL w b o (aCells a vh vc vs vl)
  fr : freeL w b o 11
  m1 : HoldsR.mine l1 h1 w [vh] (aH a)
  m2 : nums .i64 l2 h2 w vc (aR a).2.2.1
  m3 : nums .i64 l2 h2 w vs (aR a).2.2.2
  ap : ∀ b, blk vc = some b → blk vs ≠ some b
  m4 : SlotsR.mine l3 h3 w [vl] (aS a)
  bd : (P ≤ l1 ∧ h1 ≤ Q) ∧ (P ≤ l2 ∧ h2 ≤ Q) ∧ (P ≤ l3 ∧ h3 ≤ Q) ∧ (h1 ≤ l2 ∨ h2 ≤ l1) ∧ (h1 ≤ l3 ∨ h3 ≤ l1) ∧ (h2 ≤ l3 ∨ h3 ≤ l2)
  out : b < P ∨ Q ≤ b
  sz : Q ≤ w0.heap.size ∧ b < w0.heap.size
  ed : Edit b o 11 P Q w0 w
section
variable {b o P Q l1 h1 l2 h2 l3 h3 : Nat} {w0 w w' : World} {a : AcctD} {vh vc vs vl : Value}
set_option maxRecDepth 100000 in
theorem eW.start (hat : atL w b o (aCells a vh vc vs vl)) (hf : freeL w b o 11) (hI : AcctI P Q w vh vc vs vl a) (hout : b < P ∨ Q ≤ b) (hQ : Q ≤ w.heap.size) (hb : b < w.heap.size) : ∃ l1 h1 l2 h2 l3 h3, eW b o P Q l1 h1 l2 h2 l3 h3 w w a vh vc vs vl := by
  obtain ⟨l1, h1, l2, h2, l3, h3, m1, m2, m3, hq, d1, d2, d3⟩ := hI
  exact ⟨l1, h1, l2, h2, l3, h3, hat, hf, m1, (ringOwn m2).1, (ringOwn m2).2.1, (ringOwn m2).2.2, m3, by omega, hout, ⟨hQ, hb⟩, Edit.refl _ _ _ _ _ _⟩
set_option maxRecDepth 100000 in
theorem eW.inside (h : eW b o P Q l1 h1 l2 h2 l3 h3 w0 w a vh vc vs vl) : AcctI P Q w vh vc vs vl a := by
  obtain ⟨ha, hf, m1, m2, m3, ap, m4, hd, -, -, -⟩ := h
  exact ⟨l1, h1, l2, h2, l3, h3, m1, ring_mine_of m2 m3 ap, m4, by omega, by omega, by omega, by omega⟩
set_option maxRecDepth 100000 in
theorem eW.below {B : Nat} (h : eW b o P Q l1 h1 l2 h2 l3 h3 w0 w a vh vc vs vl) (hb : Below B w w') (hB : w.heap.size ≤ B) : eW b o P Q l1 h1 l2 h2 l3 h3 w0 w' a vh vc vs vl := by
  obtain ⟨ha, hf, m1, m2, m3, ap, m4, hd, ho, hs, he⟩ := h
  have hz := he.size
  have hk := hb.block b (by omega)
  exact ⟨ha.keep hk, fun t ht => (frozen_keep hk).trans (hf t ht), m1.below hb (by omega), m2.below hb (by omega), m3.below hb (by omega), ap, m4.below hb (by omega), hd, ho, hs, he.below hb hB hs.2⟩
set_option maxRecDepth 100000 in
theorem Rep.mine.far {α : Type} {R : Rep α} {lo hi : Nat} {w : World} {cs : List Value} {x : α} (h : R.mine lo hi w cs x) {c t : Nat} (hc : c < lo ∨ hi ≤ c) (u : Value) : R.mine lo hi (w.setCell ⟨c, t, none⟩ u) cs x :=
  h.keep fun b h1 h2 => Below.heap_setCell _ _ _ _ (show b ≠ c by omega)
set_option maxRecDepth 100000 in
/-- one of the element's own cells is written -/
theorem eW.cell (h : eW b o P Q l1 h1 l2 h2 l3 h3 w0 w a vh vc vs vl) {a' : AcctD} (t : Nat) (x : Value) (ht : t < 11) (hc : aCells a' vh vc vs vl = (aCells a vh vc vs vl).set t x) (e1 : aH a' = aH a) (e2 : (aR a').2.2.1 = (aR a).2.2.1) (e3 : (aR a').2.2.2 = (aR a).2.2.2) (e4 : aS a' = aS a) : eW b o P Q l1 h1 l2 h2 l3 h3 w0 (w.setCell ⟨b, o + t, none⟩ x) a' vh vc vs vl := by
  obtain ⟨ha, hf, m1, m2, m3, ap, m4, hd, ho, hs, he⟩ := h
  have hlen : (aCells a vh vc vs vl).length = 11 := rfl
  have hz := he.size
  have hT := (Turned.refl b (b + 1) w).set (b := b) (o + t) x (Nat.le_refl _) (Nat.lt_succ_self _)
  refine ⟨fun s u hu => ?_, fun s hss => by have := hf s hss; simpa using this, by rw [e1]; exact m1.far (by omega) _, by rw [e2]; exact m2.turned hT (by omega) (by omega), by rw [e3]; exact m3.turned hT (by omega) (by omega), ap, by rw [e4]; exact m4.far (by omega) _, hd, ho, hs, he.set _ _ (by omega) (by omega)⟩
  rw [hc] at hu
  by_cases e : t = s
  · subst e
    rw [List.getElem?_set_self (by omega)] at hu
    cases hu
    exact World.cell?_setCell_same w ⟨b, o + t, none⟩ x (ha t _ (List.getElem?_eq_getElem (by omega)))
  · rw [List.getElem?_set_ne e] at hu
    exact (World.cell?_setCell_other _ _ _ _ (fun he => by have := congrArg Addr.off he; simp at this; omega)).trans (ha s u hu)
set_option maxRecDepth 100000 in
theorem eW.holds (h : eW b o P Q l1 h1 l2 h2 l3 h3 w0 w a vh vc vs vl) {a' : AcctD} (ht : Turned l1 h1 w w') (hm : HoldsR.mine l1 h1 w' [vh] (aH a')) (e : aCells a' vh vc vs vl = aCells a vh vc vs vl) (e2 : (aR a').2.2.1 = (aR a).2.2.1) (e3 : (aR a').2.2.2 = (aR a).2.2.2) (e4 : aS a' = aS a) : eW b o P Q l1 h1 l2 h2 l3 h3 w0 w' a' vh vc vs vl := by
  obtain ⟨ha, hf, m1, m2, m3, ap, m4, hd, ho, hs, he⟩ := h
  have hz := he.size
  have hk := ht.block b (by omega) (by omega)
  exact ⟨by rw [e]; exact ha.keep hk, fun t ht => (frozen_keep hk).trans (hf t ht), hm, by rw [e2]; exact m2.turned ht (by omega) (by omega), by rw [e3]; exact m3.turned ht (by omega) (by omega), ap, by rw [e4]; exact m4.turned ht (by omega) (by omega), hd, ho, hs, he.turned ht (by omega) (by omega) (by omega) hs.2⟩
set_option maxRecDepth 100000 in
theorem eW.slots (h : eW b o P Q l1 h1 l2 h2 l3 h3 w0 w a vh vc vs vl) {a' : AcctD} (ht : Turned l3 h3 w w') (hm : SlotsR.mine l3 h3 w' [vl] (aS a')) (e : aCells a' vh vc vs vl = aCells a vh vc vs vl) (e1 : aH a' = aH a) (e2 : (aR a').2.2.1 = (aR a).2.2.1) (e3 : (aR a').2.2.2 = (aR a).2.2.2) : eW b o P Q l1 h1 l2 h2 l3 h3 w0 w' a' vh vc vs vl := by
  obtain ⟨ha, hf, m1, m2, m3, ap, m4, hd, ho, hs, he⟩ := h
  have hz := he.size
  have hk := ht.block b (by omega) (by omega)
  exact ⟨by rw [e]; exact ha.keep hk, fun t ht => (frozen_keep hk).trans (hf t ht), by rw [e1]; exact m1.turned ht (by omega) (by omega), by rw [e2]; exact m2.turned ht (by omega) (by omega), by rw [e3]; exact m3.turned ht (by omega) (by omega), ap, hm, hd, ho, hs, he.turned ht (by omega) (by omega) (by omega) hs.2⟩
set_option maxRecDepth 100000 in
theorem eW.counts (h : eW b o P Q l1 h1 l2 h2 l3 h3 w0 w a vh vc vs vl) {a' : AcctD} (hg : w.grownBy w' (blk vc)) (hm : nums .i64 l2 h2 w' vc (aR a').2.2.1) (e : aCells a' vh vc vs vl = aCells a vh vc vs vl) (e1 : aH a' = aH a) (e3 : (aR a').2.2.2 = (aR a).2.2.2) (e4 : aS a' = aS a) : eW b o P Q l1 h1 l2 h2 l3 h3 w0 w' a' vh vc vs vl := by
  obtain ⟨ha, hf, m1, m2, m3, ap, m4, hd, ho, hs, he⟩ := h
  have hz := he.size
  have ht := Turned.of_grown (lo := l2) (hi := h2) hg m2.blk
  have hk := ht.block b (by omega) (by omega)
  exact ⟨by rw [e]; exact ha.keep hk, fun t ht => (frozen_keep hk).trans (hf t ht), by rw [e1]; exact m1.turned ht (by omega) (by omega), hm, by rw [e3]; exact m3.apart hg (by omega) (fun b hb e => ap b e hb), ap, by rw [e4]; exact m4.turned ht (by omega) (by omega), hd, ho, hs, he.turned ht (by omega) (by omega) (by omega) hs.2⟩
set_option maxRecDepth 100000 in
theorem eW.sums (h : eW b o P Q l1 h1 l2 h2 l3 h3 w0 w a vh vc vs vl) {a' : AcctD} (hg : w.grownBy w' (blk vs)) (hm : nums .i64 l2 h2 w' vs (aR a').2.2.2) (e : aCells a' vh vc vs vl = aCells a vh vc vs vl) (e1 : aH a' = aH a) (e2 : (aR a').2.2.1 = (aR a).2.2.1) (e4 : aS a' = aS a) : eW b o P Q l1 h1 l2 h2 l3 h3 w0 w' a' vh vc vs vl := by
  obtain ⟨ha, hf, m1, m2, m3, ap, m4, hd, ho, hs, he⟩ := h
  have hz := he.size
  have ht := Turned.of_grown (lo := l2) (hi := h2) hg m3.blk
  have hk := ht.block b (by omega) (by omega)
  exact ⟨by rw [e]; exact ha.keep hk, fun t ht => (frozen_keep hk).trans (hf t ht), by rw [e1]; exact m1.turned ht (by omega) (by omega), by rw [e2]; exact m2.apart hg (by omega) (fun b hb e => ap b hb e), hm, ap, by rw [e4]; exact m4.turned ht (by omega) (by omega), hd, ho, hs, he.turned ht (by omega) (by omega) (by omega) hs.2⟩
end
set_option maxRecDepth 100000 in
theorem kEl_fit (a : AcctD) (k : Int) : kEl a k ≤ k + 7 + 3 * (acctSz a : Int) := by
  unfold kEl kAt kElS acctSz
  have h1 : ((((lensOf (aS a)).take (aS a).length).map fun n => 2 + n).sum : Nat) ≤ 2 * (aS a).length + ((aS a).map slotSz).sum := by
    rw [List.take_of_length_le (by rw [lensOf_len]; exact Nat.le_refl _)]
    unfold lensOf
    generalize aS a = l
    induction l with
    | nil => simp
    | cons x l ih =>
      simp only [List.map_cons, List.sum_cons, List.length_cons, slotSz] at ih ⊢
      omega
  unfold slotsSz holdsSz
  omega
set_option maxRecDepth 100000 in
theorem kBk_most : ∀ (l : BookD) (k : Int), kBk l k ≤ k + 10 * (bookSz l : Int)
  | [], k => by rw [kBk_nil]; omega
  | a :: l, k => by
    have h1 := kBk_most l (kEl a k)
    have h2 := kEl_fit a k
    rw [kBk_cons]
    unfold bookSz at h1 ⊢
    simp only [List.length_cons, List.map_cons, List.sum_cons]
    omega
set_option maxRecDepth 100000 in
theorem kBk_fit {l : BookD} (h : bookSz l ≤ 1048576) : kBk l 1 ≤ 100000000 := by
  have := kBk_most l 1
  omega
end Go.Proofs.YthnimmagaocipaaGreatDoor
set_option linter.unusedVariables false
namespace Go.Proofs.YthnimmagaocipaaGreatDoor
open Go.ChangeShapes Go.WideShapes Go.ChangeAt Go.RowKit

set_option maxRecDepth 100000 in
set_option maxHeartbeats 16000000 in
theorem markAccts_any (lo hi : Nat) (v : Value) (l : BookD) (k : Int) (w : World) (hs : bookSmall 1048576 l) (hk0 : 0 < k) (hk1 : kBk l k ≤ 100000000) (h : AcctsIv.I lo hi w [v] l) (hh : hi ≤ w.heap.size) :
    Calls Tryz.prog 30 #[v, .int .i64 k] w fun e w' => e = .returned (.int .i64 (kBk l k)) ∧ AcctsIv.I lo hi w' [v] (bookMark l k) ∧ Turned lo hi w w' := by
  obtain ⟨A, c, hv, hc, hm⟩ := h
  simp only [List.cons.injEq, and_true] at hv
  subst hv
  have hkk := kBk_up l k
  rcases hm with rfl | ⟨b, off, xs, p, q, rfl, hxl, hr⟩
  · go_enter Tryz.func30, Tryz.ntmps30
    go_wp2
    go_loop [1, 5] (fun kv iv => iv = .int .i64 0 ∧ kv = .int .i64 k) (fun _ _ => 0)
    case atStart => exact ⟨rfl, rfl⟩
    case round =>
      obtain ⟨rfl, rfl⟩ := hrel
      go_wp2
      go_ret
      exact ⟨rfl, ⟨A, c, rfl, hc, .inl rfl⟩, Turned.refl _ _ _⟩
  obtain ⟨n, hn⟩ : ∃ n, n = l.length := ⟨_, rfl⟩
  have hxn : xs.length = n := by rw [hn, ← hxl, List.length_map]
  rw [← hn] at hc ⊢
  have HN := Lib.hid hn
  have HX0 : Hid (∀ (j : Nat) (y : List Value × AcctD), xs[j]? = some y → l[j]? = some y.2) := Lib.hid fun j y hy => by rw [← hxl, List.getElem?_map, hy]; rfl
  have HR := Lib.hid hr
  have HXN := Lib.hid hxn
  obtain ⟨bb1, bb2⟩ := hr.blk
  obtain ⟨hn6, hs⟩ := hs
  have HSM := Lib.hid hs
  have HKT : Hid (∀ i, kBk (l.take i) k ≤ kBk l k) := Lib.hid fun i => kBk_take l i k
  have HKU : Hid (∀ i, k ≤ kBk (l.take i) k) := Lib.hid fun i => kBk_up _ k
  have HKS : Hid (∀ i x, l[i]? = some x → kBk (l.take (i + 1)) k = kEl x (kBk (l.take i) k)) := Lib.hid fun i x hx => kBk_snoc hx k
  have HKE : Hid (kBk (l.take n) k = kBk l k) := Lib.hid (by rw [hn, List.take_length])
  have HMA : Hid (∀ j x, l[j]? = some x → (bookMark l k)[j]? = some (elMark x (kBk (l.take j) k))) := Lib.hid fun j x hx => bookMark_at l k j x hx
  have HML : Hid ((bookMark l k).length = n) := Lib.hid (by rw [bookMark_len, hn])
  generalize kBk l k = KE at hk1 hkk HKT HKE ⊢
  generalize bookMark l k = ML at HMA HML ⊢
  rw [hn] at hxn
  have hn8 : n ≤ 1048576 := by omega
  clear hr hxl hxn hs hn hn6 hkk
  go_enter Tryz.func30, Tryz.ntmps30
  go_wp2
  go_loopw [1, 5] (fun kv iv wr => ∃ (i : Nat) (K : Int) (ys : List (List Value × AcctD)), i ≤ n ∧ iv = .int .i64 i ∧ kv = .int .i64 K ∧ Hid (K = kBk (l.take i) k) ∧ Hid (ys.length = n) ∧ Hid (∀ (j : Nat) (y : List Value × AcctD), ys[j]? = some y → (j < i → ML[j]? = some y.2) ∧ (i ≤ j → l[j]? = some y.2)) ∧ Hid (RowI AcctIv lo hi wr b off ys p q) ∧ Hid (Turned lo hi w wr) ∧ w.heap.size ≤ wr.heap.size) (fun _ iv _ => n - (intOf iv).toNat)
  case atStart => exact ⟨0, k, xs, Nat.zero_le _, rfl, rfl, Lib.hid rfl, HXN, Lib.hid fun j y hy => ⟨fun h => absurd h (by omega), fun _ => HX0.out j y hy⟩, HR, Lib.hid (Turned.refl _ _ _), Nat.le_refl _⟩
  case round =>
    obtain ⟨i, K, ys, hil, rfl, rfl, HK, HYL, HQ, HRR, HT, hz⟩ := hrel
    by_cases hin : i < n
    · obtain ⟨⟨cs0, a⟩, hy⟩ : ∃ y, ys[i]? = some y := ⟨_, List.getElem?_eq_getElem (by rw [HYL.out]; exact hin)⟩
      have hla := (HQ.out i _ hy).2 (Nat.le_refl _)
      simp only at hla
      have hki := HKT.out (i + 1)
      have hkj := HKU.out i
      rw [HKS.out i a hla, ← HK.out] at hki
      rw [← HK.out] at hkj
      have hku := kEl_up a K
      have HKN : Hid (kBk (l.take (i + 1)) k = kEl a K) := Lib.hid (by rw [HKS.out i a hla, ← HK.out])
      have HMI : Hid (ML[i]? = some (elMark a K)) := Lib.hid (by rw [HMA.out i a hla, ← HK.out])
      have has := HSM.out a (List.mem_of_getElem? hla)
      obtain ⟨vh, vc, vs, vl, hcs, hI⟩ := HRR.out.one i _ hy
      simp only at hcs hI
      subst hcs
      obtain ⟨AH, cH, AC, cC, AS, cS, AL, cL, hf⟩ := acct_forms hI.mine.rd
      simp only [aCells, List.cons.injEq, and_true, true_and] at hf
      obtain ⟨rfl, rfl, rfl, rfl⟩ := hf
      have hat := (HRR.out.at_ i _ hy).2
      have hfr := HRR.out.free i (by rw [HYL.out]; exact hin)
      obtain ⟨i1, i2, i3⟩ := HRR.out.in_ i (by rw [HYL.out]; exact hin)
      rw [show AcctR.k = 11 from rfl] at hat hfr
      obtain ⟨l1, h1, l2, h2, l3, h3, hE⟩ := eW.start hat hfr hI i3 (by omega) (by omega)
      have HE := Lib.hid hE
      have HSZ : Hid (bookSmall 1 [] → True) := Lib.hid fun _ => trivial
      clear hat hfr hI hE hy hla HSZ
      obtain ⟨id, lim, pos, most, sum, hs, ⟨sp, hd, cs, ss⟩, sl⟩ := a
      obtain ⟨z1, z2, z3, z4, -⟩ := has
      simp only [aH, aS] at hku z1 z2 z3 z4
      have HKV : Hid (kElS (id, lim, pos, most, sum, hs, (sp, hd, cs, ss), sl) K = K + 1 + 1 + 1 + 1 + 1 + 3 * (hs.length : Int) + 1 + 1 + cs.length + ss.length) := Lib.hid rfl
      have HKF : Hid (kEl (id, lim, pos, most, sum, hs, (sp, hd, cs, ss), sl) K = kAt (kElS (id, lim, pos, most, sum, hs, (sp, hd, cs, ss), sl) K) (lensOf sl) sl.length) := Lib.hid rfl
      generalize kEl (id, lim, pos, most, sum, hs, (sp, hd, cs, ss), sl) K = K9 at hki hku HKN HKF
      generalize kElS (id, lim, pos, most, sum, hs, (sp, hd, cs, ss), sl) K = K8 at HKV HKF
      obtain rfl : K8 = _ := HKV.out
      have HK9 := Lib.hid (And.intro hki hku)
      have k0 : 0 < K := by omega
      have k1 : K + 7 + 3 * (hs.length : Int) + cs.length + ss.length ≤ 100000000 := by omega
      clear hki hku hkj HKV
      have g1 : (i : Int) < (n : Int) := by omega
      have g2 : 0 ≤ (i : Int) := by omega
      go_wp2_with fail
      refine (markText_any K _ (by omega) (by omega)).mono ?_
      rintro e w2 ⟨rfl, hb2⟩
      have z2 := hb2.size
      have hE2 := HE.out.below hb2 (Nat.le_refl _)
      obtain ⟨c0, c1, c2, c3, c4, c5, c6, c7, c8, c9, c10⟩ := hE2.at_.eleven
      have f0 := hE2.fr 0 (by decide)
      rw [Nat.add_zero] at f0
      have f1 := hE2.fr 1 (by decide)
      have f2 := hE2.fr 2 (by decide)
      have f3 := hE2.fr 3 (by decide)
      have f4 := hE2.fr 4 (by decide)
      have hE3 := (((((hE2.cell (a' := (⟨(markOf K).toArray⟩, lim, pos, most, sum, hs, (sp, hd, cs, ss), sl)) 0 (.string ⟨(markOf K).toArray⟩) (by decide) rfl rfl rfl rfl rfl).cell (a' := (⟨(markOf K).toArray⟩, K + 1, pos, most, sum, hs, (sp, hd, cs, ss), sl)) 1 (.int .i64 (K + 1)) (by decide) rfl rfl rfl rfl rfl).cell (a' := (⟨(markOf K).toArray⟩, K + 1, K + 1 + 1, most, sum, hs, (sp, hd, cs, ss), sl)) 2 (.int .i64 (K + 1 + 1)) (by decide) rfl rfl rfl rfl rfl).cell (a' := (⟨(markOf K).toArray⟩, K + 1, K + 1 + 1, K + 1 + 1 + 1, sum, hs, (sp, hd, cs, ss), sl)) 3 (.int .i64 (K + 1 + 1 + 1)) (by decide) rfl rfl rfl rfl rfl).cell (a' := (⟨(markOf K).toArray⟩, K + 1, K + 1 + 1, K + 1 + 1 + 1, K + 1 + 1 + 1 + 1, hs, (sp, hd, cs, ss), sl)) 4 (.int .i64 (K + 1 + 1 + 1 + 1)) (by decide) rfl rfl rfl rfl rfl)
      clear HE hb2
      go_upto_region 14 with fail
      obtain ⟨W3, hW3⟩ : ∃ W3, W3 = (((((w2.setCell ⟨b, off + i * 11, none⟩ (.string ⟨(markOf K).toArray⟩)).setCell ⟨b, off + i * 11 + 1, none⟩ (.int .i64 (K + 1))).setCell ⟨b, off + i * 11 + 2, none⟩ (.int .i64 (K + 1 + 1))).setCell ⟨b, off + i * 11 + 3, none⟩ (.int .i64 (K + 1 + 1 + 1))).setCell ⟨b, off + i * 11 + 4, none⟩ (.int .i64 (K + 1 + 1 + 1 + 1))) := ⟨_, rfl⟩
      rw [← hW3]
      have HE3 : Hid (eW b (off + i * 11) (p i) (q i) l1 h1 l2 h2 l3 h3 wr W3 (⟨(markOf K).toArray⟩, K + 1, K + 1 + 1, K + 1 + 1 + 1, K + 1 + 1 + 1 + 1, hs, (sp, hd, cs, ss), sl) (.slice AH hs.length cH) (.slice AC cs.length cC) (.slice AS ss.length cS) (.slice AL sl.length cL)) := Lib.hid (by rw [hW3]; exact hE3)
      clear hW3 hE3 hE2 c0 c1 c2 c3 c4 c5 c6 c7 c8 c9 c10 f0 f1 f2 f3 f4
      obtain ⟨c0, c1, c2, c3, c4, c5, c6, c7, c8, c9, c10⟩ := HE3.out.at_.eleven
      obtain ⟨⟨-, y1⟩, ⟨-, y2⟩, ⟨-, y3⟩, -⟩ := HE3.out.bd
      obtain ⟨s1, s2⟩ := HE3.out.sz
      have s3 := HE3.out.ed.size
      go_wp2_with fail
      refine (markHoldsK_any l1 h1 _ hs (K + 1 + 1 + 1 + 1 + 1) W3 (by omega) (by omega) (by omega) HE3.out.m1 (by omega)).mono ?_
      rintro e w4 ⟨rfl, hm4, ht4⟩
      have hE4 := HE3.out.holds (a' := (⟨(markOf K).toArray⟩, K + 1, K + 1 + 1, K + 1 + 1 + 1, K + 1 + 1 + 1 + 1, (holdsMark (K + 1 + 1 + 1 + 1 + 1) hs.length), (sp, hd, cs, ss), sl)) ht4 hm4 rfl rfl rfl rfl
      clear hm4 ht4 HE3 c0 c1 c2 c3 c4 c5 c6 c7 c8 c9 c10 s3
      obtain ⟨c0, c1, c2, c3, c4, c5, c6, c7, c8, c9, c10⟩ := hE4.at_.eleven
      have f6 := hE4.fr 6 (by decide)
      have f7 := hE4.fr 7 (by decide)
      have hE5 := ((hE4.cell (a' := (⟨(markOf K).toArray⟩, K + 1, K + 1 + 1, K + 1 + 1 + 1, K + 1 + 1 + 1 + 1, (holdsMark (K + 1 + 1 + 1 + 1 + 1) hs.length), (K + 1 + 1 + 1 + 1 + 1 + 3 * (hs.length : Int), hd, cs, ss), sl)) 6 (.int .i64 (K + 1 + 1 + 1 + 1 + 1 + 3 * (hs.length : Int))) (by decide) rfl rfl rfl rfl rfl).cell (a' := (⟨(markOf K).toArray⟩, K + 1, K + 1 + 1, K + 1 + 1 + 1, K + 1 + 1 + 1 + 1, (holdsMark (K + 1 + 1 + 1 + 1 + 1) hs.length), (K + 1 + 1 + 1 + 1 + 1 + 3 * (hs.length : Int), K + 1 + 1 + 1 + 1 + 1 + 3 * (hs.length : Int) + 1, cs, ss), sl)) 7 (.int .i64 (K + 1 + 1 + 1 + 1 + 1 + 3 * (hs.length : Int) + 1)) (by decide) rfl rfl rfl rfl rfl)
      go_upto_region 19 with fail
      obtain ⟨W5, hW5⟩ : ∃ W5, W5 = ((w4.setCell ⟨b, off + i * 11 + 6, none⟩ (.int .i64 (K + 1 + 1 + 1 + 1 + 1 + 3 * (hs.length : Int)))).setCell ⟨b, off + i * 11 + 7, none⟩ (.int .i64 (K + 1 + 1 + 1 + 1 + 1 + 3 * (hs.length : Int) + 1))) := ⟨_, rfl⟩
      rw [← hW5]
      have HE5 : Hid (eW b (off + i * 11) (p i) (q i) l1 h1 l2 h2 l3 h3 wr W5 (⟨(markOf K).toArray⟩, K + 1, K + 1 + 1, K + 1 + 1 + 1, K + 1 + 1 + 1 + 1, (holdsMark (K + 1 + 1 + 1 + 1 + 1) hs.length), (K + 1 + 1 + 1 + 1 + 1 + 3 * (hs.length : Int), K + 1 + 1 + 1 + 1 + 1 + 3 * (hs.length : Int) + 1, cs, ss), sl) (.slice AH hs.length cH) (.slice AC cs.length cC) (.slice AS ss.length cS) (.slice AL sl.length cL)) := Lib.hid (by rw [hW5]; exact hE5)
      clear hW5 hE5 hE4 c0 c1 c2 c3 c4 c5 c6 c7 c8 c9 c10 f6 f7
      obtain ⟨c0, c1, c2, c3, c4, c5, c6, c7, c8, c9, c10⟩ := HE5.out.at_.eleven
      have s3 := HE5.out.ed.size
      go_wp2_with fail
      refine (markInts_any l2 h2 _ cs (K + 1 + 1 + 1 + 1 + 1 + 3 * (hs.length : Int) + 1 + 1) W5 (by omega) (by omega) (by omega) HE5.out.m2).mono ?_
      rintro e w6 ⟨rfl, hm6, hg6⟩
      have HE6 := Lib.hid (HE5.out.counts (a' := (⟨(markOf K).toArray⟩, K + 1, K + 1 + 1, K + 1 + 1 + 1, K + 1 + 1 + 1 + 1, (holdsMark (K + 1 + 1 + 1 + 1 + 1) hs.length), (K + 1 + 1 + 1 + 1 + 1 + 3 * (hs.length : Int), K + 1 + 1 + 1 + 1 + 1 + 3 * (hs.length : Int) + 1, (marksL (fun x => x) (K + 1 + 1 + 1 + 1 + 1 + 3 * (hs.length : Int) + 1 + 1) cs.length), ss), sl)) hg6 hm6 rfl rfl rfl rfl)
      clear hm6 hg6 HE5 c0 c1 c2 c3 c4 c5 c6 c7 c8 c9 c10 s3
      obtain ⟨c0, c1, c2, c3, c4, c5, c6, c7, c8, c9, c10⟩ := HE6.out.at_.eleven
      have s3 := HE6.out.ed.size
      go_wp2_with fail
      refine (markInts_any l2 h2 _ ss (K + 1 + 1 + 1 + 1 + 1 + 3 * (hs.length : Int) + 1 + 1 + cs.length) w6 (by omega) (by omega) (by omega) HE6.out.m3).mono ?_
      rintro e w7 ⟨rfl, hm7, hg7⟩
      have HE7 := Lib.hid (HE6.out.sums (a' := (⟨(markOf K).toArray⟩, K + 1, K + 1 + 1, K + 1 + 1 + 1, K + 1 + 1 + 1 + 1, (holdsMark (K + 1 + 1 + 1 + 1 + 1) hs.length), (K + 1 + 1 + 1 + 1 + 1 + 3 * (hs.length : Int), K + 1 + 1 + 1 + 1 + 1 + 3 * (hs.length : Int) + 1, (marksL (fun x => x) (K + 1 + 1 + 1 + 1 + 1 + 3 * (hs.length : Int) + 1 + 1) cs.length), (marksL (fun x => x) (K + 1 + 1 + 1 + 1 + 1 + 3 * (hs.length : Int) + 1 + 1 + cs.length) ss.length)), sl)) hg7 hm7 rfl rfl rfl rfl)
      clear hm7 hg7 HE6 c0 c1 c2 c3 c4 c5 c6 c7 c8 c9 c10 s3
      obtain ⟨c0, c1, c2, c3, c4, c5, c6, c7, c8, c9, c10⟩ := HE7.out.at_.eleven
      have s3 := HE7.out.ed.size
      have HKF' := HKF.out
      go_wp2_with fail
      refine (markSlots_any l3 h3 _ sl (K + 1 + 1 + 1 + 1 + 1 + 3 * (hs.length : Int) + 1 + 1 + cs.length + ss.length) w7 (by omega) (by rw [← HKF']; have := HK9.out.1; omega) HE7.out.m4 (by omega)).mono ?_
      rintro e w8 ⟨rfl, hm8, ht8⟩
      rw [← HKF']
      have hE8 := HE7.out.slots (a' := (⟨(markOf K).toArray⟩, K + 1, K + 1 + 1, K + 1 + 1 + 1, K + 1 + 1 + 1 + 1, (holdsMark (K + 1 + 1 + 1 + 1 + 1) hs.length), (K + 1 + 1 + 1 + 1 + 1 + 3 * (hs.length : Int), K + 1 + 1 + 1 + 1 + 1 + 3 * (hs.length : Int) + 1, (marksL (fun x => x) (K + 1 + 1 + 1 + 1 + 1 + 3 * (hs.length : Int) + 1 + 1) cs.length), (marksL (fun x => x) (K + 1 + 1 + 1 + 1 + 1 + 3 * (hs.length : Int) + 1 + 1 + cs.length) ss.length)), (slotsMark (K + 1 + 1 + 1 + 1 + 1 + 3 * (hs.length : Int) + 1 + 1 + cs.length + ss.length) (lensOf sl)))) ht8 hm8 rfl rfl rfl rfl
      have HRR8 := Lib.hid (HRR.out.edit (y := (_, _)) (by rw [HYL.out]; exact hin) hE8.ed rfl hE8.at_ ⟨_, _, _, _, rfl, hE8.inside⟩ (by omega))
      have HT8 := Lib.hid (HT.out.trans (hE8.ed.toTurned bb1 bb2 i1 i2))
      have s8 := hE8.ed.size
      clear hm8 ht8 HE7 c0 c1 c2 c3 c4 c5 c6 c7 c8 c9 c10 s3 hE8 HKF'
      go_wp2
      go_roundw
      case rel =>
        refine ⟨i + 1, K9, _, by omega, by go_num, rfl, Lib.hid HKN.out.symm, Lib.hid (by rw [List.length_set]; exact HYL.out), Lib.hid fun j y hy => ?_, HRR8, HT8, by omega⟩
        by_cases e : i = j
        · subst e
          rw [List.getElem?_set_self (by rw [HYL.out]; exact hin)] at hy
          cases hy
          exact ⟨fun _ => HMI.out, fun h => absurd h (by omega)⟩
        · rw [List.getElem?_set_ne e] at hy
          obtain ⟨r1, r2⟩ := HQ.out j y hy
          exact ⟨fun h => r1 (by omega), fun h => r2 (by omega)⟩
      case measure => simp [intOf] <;> omega
    · obtain rfl : i = n := by omega
      have HK' := HK.out.trans HKE.out
      have hys : ys.map (·.2) = ML := by
        apply List.ext_getElem?
        intro j
        by_cases hj : j < i
        · rw [List.getElem?_map, List.getElem?_eq_getElem (by rw [HYL.out]; exact hj), Option.map_some, ← (HQ.out j _ (List.getElem?_eq_getElem (by rw [HYL.out]; exact hj))).1 hj]
        · rw [List.getElem?_eq_none (by rw [List.length_map, HYL.out]; omega), List.getElem?_eq_none (by rw [HML.out]; omega)]
      have HYS := Lib.hid hys
      have HK2 := Lib.hid HK'
      clear hys HK'
      go_wp2
      go_ret
      exact ⟨by rw [HK2.out]; rfl, ⟨_, c, by rw [HML.out], by rw [HML.out]; exact hc, .inr ⟨b, off, ys, p, q, rfl, HYS.out, HRR.out⟩⟩, HT.out⟩
set_option maxRecDepth 100000 in
set_option maxHeartbeats 1600000 in
theorem markBook_any (lo hi : Nat) (v : Value) (l : BookD) (k : Int) (w : World) (hs : bookSmall 1048576 l) (hk0 : 0 < k) (hk1 : kBk l k ≤ 100000000) (h : AcctsIv.I lo hi w [v] l) (hh : hi ≤ w.heap.size) :
    Calls Tryz.prog 13 #[.agg #[v], .int .i64 k] w fun e w' => e = .returned (.int .i64 (kBk l k)) ∧ AcctsIv.I lo hi w' [v] (bookMark l k) ∧ Turned lo hi w w' := by
  obtain ⟨A, c, rfl, hc⟩ := Rep.slice_form (AcctsIv.rd h)
  have HQ := Lib.hid (fun W (hW : Below w.heap.size w W) => markAccts_any lo hi _ l k W hs hk0 hk1 (AcctsIv.below h hW hh) (Nat.le_trans hh hW.size))
  have HB0 : Hid (∀ o, Below w.heap.size w (w.alloc o)) := Lib.hid fun o => (Below.refl _ _).alloc (Nat.le_refl _) _
  clear h hs
  go_enter Tryz.func13, Tryz.ntmps13
  go_wp2_with fail
  refine (HQ.out _ (HB0.out _)).mono ?_
  rintro e w2 ⟨rfl, hm, ht⟩
  have HT2 : Hid (Turned lo hi w w2) := Lib.hid ((Turned.of_below (HB0.out _)).trans ht)
  have HM2 := Lib.hid hm
  clear ht hm
  go_wp2
  go_ret
  exact ⟨rfl, HM2.out, HT2.out⟩
end Go.Proofs.YthnimmagaocipaaGreatDoor
set_option linter.unusedVariables false
namespace Go.Proofs.YthnimmagaocipaaGreatDoor
open Go.ChangeShapes Go.WideShapes Go.ChangeAt Go.RowKit

set_option maxRecDepth 100000 in
set_option maxHeartbeats 16000000 in
theorem heldAccts_any (hi : Nat) (v : Value) (l : BookD) (k : Int) (w : World) (hs : bookSmall 1048576 l) (hk0 : 0 < k) (hk1 : kBk l k ≤ 100000000) (h : AcctsR.rd hi w [v] (bookMark l k)) (hh : hi ≤ w.heap.size) :
    Calls Tryz.prog 31 #[v, .int .i64 k] w fun e w' => e = .returned (.int .i64 (kBk l k)) ∧ Below w.heap.size w w' := by
  obtain ⟨A, c, rfl, hc, hrd⟩ := accts_rd h
  have hkk := kBk_up l k
  obtain ⟨n, hn⟩ : ∃ n, n = l.length := ⟨_, rfl⟩
  rw [bookMark_len, ← hn] at hc ⊢
  obtain ⟨hn6, hs⟩ := hs
  have HSM := Lib.hid hs
  have HR := Lib.hid hrd
  have HKT : Hid (∀ i, kBk (l.take i) k ≤ kBk l k) := Lib.hid fun i => kBk_take l i k
  have HKU : Hid (∀ i, k ≤ kBk (l.take i) k) := Lib.hid fun i => kBk_up _ k
  have HKS : Hid (∀ i x, l[i]? = some x → kBk (l.take (i + 1)) k = kEl x (kBk (l.take i) k)) := Lib.hid fun i x hx => kBk_snoc hx k
  have HKE : Hid (kBk (l.take n) k = kBk l k) := Lib.hid (by rw [hn, List.take_length])
  have HMA : Hid (∀ j x, l[j]? = some x → (bookMark l k)[j]? = some (elMark x (kBk (l.take j) k))) := Lib.hid fun j x hx => bookMark_at l k j x hx
  have HLA : Hid (∀ j, j < n → ∃ x, l[j]? = some x) := Lib.hid fun j hj => ⟨_, List.getElem?_eq_getElem (by omega)⟩
  generalize kBk l k = KE at hk1 hkk HKT HKE ⊢
  generalize bookMark l k = ML at HMA HR ⊢
  have hn8 : n ≤ 1048576 := by omega
  clear hrd hs hn hn6 hkk h
  go_enter Tryz.func31, Tryz.ntmps31
  go_wp2
  go_loopw [1, 5] (fun kv iv wr => ∃ (i : Nat) (K : Int), i ≤ n ∧ iv = .int .i64 i ∧ kv = .int .i64 K ∧ Hid (K = kBk (l.take i) k) ∧ Hid (Below w.heap.size w wr) ∧ w.heap.size ≤ wr.heap.size) (fun _ iv _ => n - (intOf iv).toNat)
  case atStart => exact ⟨0, k, Nat.zero_le _, rfl, rfl, Lib.hid rfl, Lib.hid (Below.refl _ _), Nat.le_refl _⟩
  case round =>
    obtain ⟨i, K, hil, rfl, rfl, HK, HB, hz⟩ := hrel
    by_cases hin : i < n
    · obtain ⟨a, hla⟩ := HLA.out i hin
      have hki := HKT.out (i + 1)
      have hkj := HKU.out i
      rw [HKS.out i a hla, ← HK.out] at hki
      rw [← HK.out] at hkj
      have hku := kEl_up a K
      have HKN : Hid (kBk (l.take (i + 1)) k = kEl a K) := Lib.hid (by rw [HKS.out i a hla, ← HK.out])
      have hma := HMA.out i a hla
      rw [← HK.out] at hma
      have has := HSM.out a (List.mem_of_getElem? hla)
      obtain ⟨b, off, AH, cH, AC, cC, AS, cS, AL, cL, rfl, hbl, hat, hrd⟩ := HR.out i _ hma
      have hat := hat.below HB.out (show b < w.heap.size by omega)
      have hrd := Rep.below (R := AcctR) hrd HB.out hh
      obtain ⟨vh, vc, vs, vl, hcs, r1, r2, r3, r4⟩ := acct_rd hrd
      simp only [aCells, List.cons.injEq, and_true, true_and] at hcs
      obtain ⟨rfl, rfl, rfl, rfl⟩ := hcs
      obtain ⟨id, lim, pos, most, sum, hs, ⟨sp, hd, cs, ss⟩, sl⟩ := a
      obtain ⟨z1, z2, z3, z4, -⟩ := has
      simp only [aH, aS] at hku z1 z2 z3 z4
      simp only [elMark, aH, aR, aS] at r1 r2 r3 r4
      have HM1 := Lib.hid (fun W (hW : Below wr.heap.size wr W) => heldHoldsK_any hi _ hs.length (K + 1 + 1 + 1 + 1 + 1) W (by omega) (by omega) (by omega) (Rep.below (R := HoldsR) r1 hW (by omega)) (Nat.le_trans (show hi ≤ wr.heap.size by omega) hW.size))
      have HM2 := Lib.hid (fun W (hW : Below wr.heap.size wr W) => heldInts_any hi _ cs.length (K + 1 + 1 + 1 + 1 + 1 + 3 * (hs.length : Int) + 1 + 1) W (by omega) (by omega) (by omega) (r2.below hW (by omega)))
      have HM3 := Lib.hid (fun W (hW : Below wr.heap.size wr W) => heldInts_any hi _ ss.length (K + 1 + 1 + 1 + 1 + 1 + 3 * (hs.length : Int) + 1 + 1 + cs.length) W (by omega) (by omega) (by omega) (r3.below hW (by omega)))
      have HKV : Hid (kElS (id, lim, pos, most, sum, hs, (sp, hd, cs, ss), sl) K = K + 1 + 1 + 1 + 1 + 1 + 3 * (hs.length : Int) + 1 + 1 + cs.length + ss.length) := Lib.hid rfl
      have HKF : Hid (kEl (id, lim, pos, most, sum, hs, (sp, hd, cs, ss), sl) K = kAt (kElS (id, lim, pos, most, sum, hs, (sp, hd, cs, ss), sl) K) (lensOf sl) (lensOf sl).length) := Lib.hid (by rw [lensOf_len]; rfl)
      generalize kEl (id, lim, pos, most, sum, hs, (sp, hd, cs, ss), sl) K = K9 at hki hku HKN HKF
      generalize kElS (id, lim, pos, most, sum, hs, (sp, hd, cs, ss), sl) K = K8 at HKV HKF r4 hat
      obtain rfl : K8 = _ := HKV.out
      have HM4 := Lib.hid (fun W (hW : Below wr.heap.size wr W) => heldSlots_any hi _ (lensOf sl) (K + 1 + 1 + 1 + 1 + 1 + 3 * (hs.length : Int) + 1 + 1 + cs.length + ss.length) W (by omega) (by rw [← HKF.out]; omega) (Rep.below (R := SlotsR) r4 hW (by omega)) (Nat.le_trans (show hi ≤ wr.heap.size by omega) hW.size))
      rw [← HKF.out] at HM4
      simp only [aCells, elMark, aH, aR, aS, aId, aLim, aPos, aMost, aSum] at hat
      rw [holdsMark_len] at HM1 hat
      rw [marks_length] at HM2 hat
      rw [marks_length] at HM3 hat
      rw [slotsMark_len] at HM4 hat
      have k0 : 0 < K := by omega
      have k1 : K + 7 + 3 * (hs.length : Int) + cs.length + ss.length ≤ 100000000 := by omega
      have k9 : ¬ K9 < 0 := by omega
      have HX := Lib.hid (fun W (hW : Below wr.heap.size wr W) => (hat.below hW (show b < wr.heap.size by omega)).eleven)
      have HKI := Lib.hid hki
      clear hku hkj HKV hat hrd r1 r2 r3 r4 hma hla hki
      have g1 : (i : Int) < (n : Int) := by omega
      have g2 : 0 ≤ (i : Int) := by omega
      have hml := markH_size K (by omega)
      have HMK : Hid (∀ w', Calls Tryz.prog 66 #[.int .i64 K] w' fun e w'' => e = .returned (.string ⟨(markOf K).toArray⟩) ∧ Below w'.heap.size w' w'') := Lib.hid fun w' => markText_any _ w' (by omega) (by omega)
      generalize markOf K = mk at hml HX HMK
      obtain ⟨c0, c1, c2, c3, c4, c5, c6, c7, c8, c9, c10⟩ := HX.out _ (Below.refl _ _)
      have hD : Below wr.heap.size wr wr.drew := below_drew _ _
      go_wp2
      go_region_held3 (fun w' => w'.cell? ⟨b, off + i * 11, none⟩ = some (.string ⟨mk.toArray⟩)) (go_keep) ((go_at_call 66; refine (HMK.out _).mono ?_; rintro e w2 ⟨rfl, hb2⟩; have q := (HX.out _ (hD.trans hb2)).1))
      have HB2 : Hid (Below wr.heap.size wr w2) := Lib.hid (hD.trans hb2)
      clear hb2 hD c0 c1 c2 c3 c4 c5 c6 c7 c8 c9 c10
      obtain ⟨c0, c1, c2, c3, c4, c5, c6, c7, c8, c9, c10⟩ := HX.out _ HB2.out
      go_wp2_with fail
      refine (HM1.out _ HB2.out).mono ?_
      rintro e w3 ⟨rfl, hb3⟩
      have z2 := HB2.out.size
      have HB3 : Hid (Below wr.heap.size wr w3) := Lib.hid (HB2.out.trans (hb3.mono z2))
      clear hb3 HM1 HB2 c0 c1 c2 c3 c4 c5 c6 c7 c8 c9 c10
      obtain ⟨c0, c1, c2, c3, c4, c5, c6, c7, c8, c9, c10⟩ := HX.out _ HB3.out
      have kk1 : ¬ (K + 1 + 1 + 1 + 1 + 1 + 3 * (hs.length : Int) < 0) := by omega
      go_wp2_with fail
      refine (HM2.out _ HB3.out).mono ?_
      rintro e w4 ⟨rfl, hb4⟩
      have z3 := HB3.out.size
      have HB4 : Hid (Below wr.heap.size wr w4) := Lib.hid (HB3.out.trans (hb4.mono z3))
      clear hb4 HM2 HB3 c0 c1 c2 c3 c4 c5 c6 c7 c8 c9 c10
      obtain ⟨c0, c1, c2, c3, c4, c5, c6, c7, c8, c9, c10⟩ := HX.out _ HB4.out
      have kk2 : ¬ (K + 1 + 1 + 1 + 1 + 1 + 3 * (hs.length : Int) + 1 + 1 + cs.length < 0) := by omega
      go_wp2_with fail
      refine (HM3.out _ HB4.out).mono ?_
      rintro e w5 ⟨rfl, hb5⟩
      have z4 := HB4.out.size
      have HB5 : Hid (Below wr.heap.size wr w5) := Lib.hid (HB4.out.trans (hb5.mono z4))
      clear hb5 HM3 HB4 c0 c1 c2 c3 c4 c5 c6 c7 c8 c9 c10
      obtain ⟨c0, c1, c2, c3, c4, c5, c6, c7, c8, c9, c10⟩ := HX.out _ HB5.out
      have kk3 : ¬ (K + 1 + 1 + 1 + 1 + 1 + 3 * (hs.length : Int) + 1 + 1 + cs.length + ss.length < 0) := by omega
      go_wp2_with fail
      refine (HM4.out _ HB5.out).mono ?_
      rintro e w6 ⟨rfl, hb6⟩
      have z5 := HB5.out.size
      have HB6 : Hid (Below wr.heap.size wr w6) := Lib.hid (HB5.out.trans (hb6.mono z5))
      have z6 := HB6.out.size
      clear hb6 HM4 HB5 c0 c1 c2 c3 c4 c5 c6 c7 c8 c9 c10
      have HB7 : Hid (Below w.heap.size w w6) := Lib.hid (HB.out.trans (HB6.out.mono hz))
      go_wp2
      go_roundw
      case rel => exact ⟨i + 1, K9, by omega, by go_num, rfl, Lib.hid HKN.out.symm, HB7, by omega⟩
      case measure => simp [intOf] <;> omega
    · obtain rfl : i = n := by omega
      have HK2 := Lib.hid (HK.out.trans HKE.out)
      go_wp2
      go_ret
      exact ⟨by rw [HK2.out]; rfl, HB.out⟩
set_option maxRecDepth 100000 in
set_option maxHeartbeats 1600000 in
theorem heldBook_any (hi : Nat) (v : Value) (l : BookD) (k : Int) (w : World) (hs : bookSmall 1048576 l) (hk0 : 0 < k) (hk1 : kBk l k ≤ 100000000) (h : AcctsR.rd hi w [v] (bookMark l k)) (hh : hi ≤ w.heap.size) :
    Calls Tryz.prog 14 #[.agg #[v], .int .i64 k] w fun e w' => e = .returned (.int .i64 (kBk l k)) ∧ Below w.heap.size w w' := by
  obtain ⟨A, c, rfl, hc⟩ := Rep.slice_form h
  have HQ := Lib.hid (fun W (hW : Below w.heap.size w W) => heldAccts_any hi _ l k W hs hk0 hk1 (Rep.below (R := AcctsR) h hW hh) (Nat.le_trans hh hW.size))
  have HB0 : Hid (∀ o, Below w.heap.size w (w.alloc o)) := Lib.hid fun o => (Below.refl _ _).alloc (Nat.le_refl _) _
  have hkk := kBk_up l k
  have hkn : ¬ kBk l k < 0 := by omega
  generalize kBk l k = KE at HQ hkk hk1 hkn ⊢
  clear h hs
  go_enter Tryz.func14, Tryz.ntmps14
  go_wp2_with fail
  refine (HQ.out _ (HB0.out _)).mono ?_
  rintro e w2 ⟨rfl, hb⟩
  have HB2 : Hid (Below w.heap.size w w2) := Lib.hid ((HB0.out _).trans (hb.mono (by simp)))
  clear hb
  go_wp2
  go_ret
  exact ⟨rfl, HB2.out⟩
end Go.Proofs.YthnimmagaocipaaGreatDoor
