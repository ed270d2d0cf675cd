/- Marks in slices of slots, and looks at them; no conditions. -/
import Derived.Test.YtnmijppppcgobaaGreatDoorMrg4
import Derived.Test.YtnmijppppcgobaaGreatDoorMrg2
import Derived.Lib.Bytealg
import Derived.Test.YtnmijppppcgobaaGreatDoorMrg3
import Derived.StillTailTactics
import Derived.Deep.DeepCutAuto
import Derived.BigQuiet
import Derived.Test.YtnmijppppcgobaaGreatDoorMrg1
import Derived.Laws.StructEq
import Derived.Laws.IdiomCopy
import Derived.Lib.SliceRun
set_option linter.unusedVariables false
namespace Go.Proofs.YtnmijppppcgobaaGreatDoor
open Go.ChangeShapes Go.WideShapes Go.ChangeAt Go.RowKit

/-- a slot that bears the marks from k on -/
def slotMk (k : Int) (n : Nat) : SlotD := (⟨(markOf k).toArray⟩, ⟨(markOf (k + 1)).toArray⟩, marksL (· % 256) (k + 1 + 1) n)
/-- the mark that element j's begin with -/
def kAt (k : Int) (ns : List Nat) (j : Nat) : Int := k + (((ns.take j).map fun n => 2 + n).sum : Nat)
def slotsMark (k : Int) (ns : List Nat) : List SlotD := (List.range ns.length).map fun j => slotMk (kAt k ns j) (ns.getD j 0)
def lensOf (l : List SlotD) : List Nat := l.map (·.2.2.length)
set_option maxRecDepth 100000 in
theorem lensOf_len (l : List SlotD) : (lensOf l).length = l.length := List.length_map ..
set_option maxRecDepth 100000 in
theorem slotsMark_len (k : Int) (ns : List Nat) : (slotsMark k ns).length = ns.length := by simp [slotsMark]
set_option maxRecDepth 100000 in
theorem slotsMark_at {k : Int} {ns : List Nat} {j : Nat} (h : j < ns.length) : (slotsMark k ns)[j]? = some (slotMk (kAt k ns j) (ns.getD j 0)) := by simp [slotsMark, h]
set_option maxRecDepth 100000 in
theorem kAt_zero (k : Int) (ns : List Nat) : kAt k ns 0 = k := by simp [kAt]
set_option maxRecDepth 100000 in
theorem kAt_next {k : Int} {ns : List Nat} {j : Nat} (h : j < ns.length) : kAt k ns (j + 1) = kAt k ns j + 1 + 1 + (ns.getD j 0 : Nat) := by
  unfold kAt
  rw [List.take_succ_eq_append_getElem h, List.map_append, List.sum_append, List.getD_eq_getElem?_getD, List.getElem?_eq_getElem h]
  simp only [List.map_cons, List.map_nil, List.sum_cons, List.sum_nil, Option.getD_some]
  omega
set_option maxRecDepth 100000 in
theorem sum_take_le : ∀ (l : List Nat) (j : Nat), (l.take j).sum ≤ l.sum
  | [], j => by simp
  | x :: l, 0 => by simp
  | x :: l, j + 1 => by have := sum_take_le l j; simp only [List.take_succ_cons, List.sum_cons]; omega
set_option maxRecDepth 100000 in
theorem kAt_le (k : Int) (ns : List Nat) (j : Nat) : k ≤ kAt k ns j ∧ kAt k ns j ≤ kAt k ns ns.length := by
  unfold kAt
  have h := sum_take_le (ns.map fun n => 2 + n) j
  rw [List.take_length, List.map_take]
  omega
set_option maxRecDepth 100000 in
theorem two_sum : ∀ l : List Nat, 2 * l.length ≤ (l.map fun n => 2 + n).sum
  | [] => by simp
  | x :: l => by have := two_sum l; simp only [List.map_cons, List.sum_cons, List.length_cons]; omega
set_option maxRecDepth 100000 in
theorem kAt_two (k : Int) (ns : List Nat) : k + 2 * (ns.length : Int) ≤ kAt k ns ns.length := by
  unfold kAt
  rw [List.take_length]
  have := two_sum ns
  omega
set_option maxRecDepth 100000 in
set_option maxHeartbeats 4000000 in
theorem markSlots_any (lo hi : Nat) (v : Value) (l : List SlotD) (k : Int) (w : World) (hk0 : 0 < k) (hk1 : kAt k (lensOf l) l.length ≤ 1000000000) (h : SlotsR.mine lo hi w [v] l) (hh : hi ≤ w.heap.size) :
    Calls Tryz.prog 102 #[v, .int .i64 k] w fun e w' => e = .returned (.int .i64 (kAt k (lensOf l) l.length)) ∧ SlotsR.mine lo hi w' [v] (slotsMark k (lensOf l)) ∧ Turned lo hi w w' := by
  obtain ⟨A, c, rfl, hc, hm⟩ := slots_mem h
  clear h
  rcases hm with rfl | ⟨b, off, ps, rfl, rfl, hm⟩
  · go_enter Tryz.func102, Tryz.ntmps102
    go_wp2
    go_loop [1, 5] (fun kv iv => iv = .int .i64 0 ∧ kv = .int .i64 k) (fun _ _ => 0)
    case atStart => exact ⟨rfl, rfl⟩
    case round =>
      obtain ⟨rfl, rfl⟩ := hrel
      go_wp2
      go_ret
      exact ⟨by simp [kAt], ⟨[], ⟨A, c, rfl, hc, .inl ⟨rfl, rfl⟩⟩, List.nodup_nil, by simp⟩, Turned.refl _ _ _⟩
  rw [List.length_map] at hc hk1 ⊢
  obtain ⟨ns, hns⟩ : ∃ ns, ns = lensOf (ps.map (·.1)) := ⟨_, rfl⟩
  have hnl : ns.length = ps.length := by rw [hns, lensOf_len, List.length_map]
  have HNA : Hid (∀ (j : Nat) (x : SlotV), ps[j]? = some x → x.1.2.2.length = ns.getD j 0) := Lib.hid fun j x hx => by
    rw [hns]
    unfold lensOf
    rw [List.map_map, List.getD_eq_getElem?_getD, List.getElem?_map, hx]; rfl
  rw [← hns] at hk1 ⊢
  obtain ⟨n, hn⟩ : ∃ n, n = ps.length := ⟨_, rfl⟩
  rw [← hn] at hc hk1 hnl ⊢
  have HNL := Lib.hid hnl
  have HKL : Hid (∀ j, k ≤ kAt k ns j ∧ kAt k ns j ≤ kAt k ns n) := Lib.hid fun j => by have := kAt_le k ns j; rwa [hnl] at this
  have HKN : Hid (∀ j, j < n → kAt k ns (j + 1) = kAt k ns j + 1 + 1 + (ns.getD j 0 : Nat)) := Lib.hid fun j hj => kAt_next (by omega)
  have hn9 : (n : Int) ≤ 1000000000 := by have := kAt_two k ns; rw [hnl] at this; omega
  have HM := Lib.hid hm
  have HPN := Lib.hid hn.symm
  obtain ⟨h1, h2⟩ := hm.bnd
  clear hm hn hns hnl
  have HK0 := Lib.hid (kAt_zero k ns)
  go_enter Tryz.func102, Tryz.ntmps102
  go_wp2
  go_loopw [1, 5] (fun kv iv wr => ∃ (i : Nat) (K : Int) (qs : List SlotV), i ≤ n ∧ iv = .int .i64 i ∧ kv = .int .i64 K ∧ Hid (K = kAt k ns i) ∧ qs.length = n ∧ Hid (∀ (j : Nat) (x : SlotV), qs[j]? = some x → x.1.2.2.length = ns.getD j 0 ∧ (j < i → x.1 = slotMk (kAt k ns j) (ns.getD j 0))) ∧ Hid (SlotsM lo hi wr b off qs) ∧ Hid (Turned lo hi w wr) ∧ w.heap.size ≤ wr.heap.size) (fun _ iv _ => n - (intOf iv).toNat)
  case atStart => exact ⟨0, k, ps, Nat.zero_le _, rfl, rfl, Lib.hid HK0.out.symm, HPN.out, Lib.hid fun j x hx => ⟨HNA.out j x hx, fun hj => absurd hj (by omega)⟩, HM, Lib.hid (Turned.refl _ _ _), Nat.le_refl _⟩
  case round =>
    obtain ⟨i, K, qs, hi', rfl, rfl, HK, hql, HQ, HS, HT, hz⟩ := hrel
    by_cases hin : i < n
    · obtain ⟨x, hx⟩ : ∃ x, qs[i]? = some x := ⟨_, List.getElem?_eq_getElem (by omega)⟩
      have hlx := (HQ.out i x hx).1
      have hkb := HKL.out i
      have hkc := HKL.out (i + 1)
      have hkn := HKN.out i hin
      rw [← HK.out, ← hlx] at hkn
      rw [hkn] at hkc
      rw [← HK.out] at hkb
      have k0 : 0 < K := by omega
      have k1 : K + 1 + 1 + (x.1.2.2.length : Int) ≤ 1000000000 := by omega
      have HKN' := Lib.hid hkn
      have HLX := Lib.hid hlx
      clear hkb hkc hkn hlx
      have hat := HS.out.cells i x hx
      have d0 := hat 0 _ rfl
      have d1 := hat 1 _ rfl
      have d2 := hat 2 _ rfl
      have f0 := HS.out.free i 0 (by omega) (by decide)
      have f1 := HS.out.free i 1 (by omega) (by decide)
      have HX := Lib.hid hx
      clear hat hx
      rw [Nat.add_zero] at d0 f0
      have g1 : (i : Int) < (n : Int) := by omega
      have g2 : 0 ≤ (i : Int) := by omega
      go_wp2_with fail
      refine (markText_any K _ (by omega) (by omega)).mono ?_
      rintro e w2 ⟨rfl, hb2⟩
      have z2 := hb2.size
      have hs2 := HS.out.below hb2 (by omega)
      have HT2 := Lib.hid (HT.out.trans (Turned.of_below hb2))
      have hat := hs2.cells i x HX.out
      have d0 := hat 0 _ rfl
      have d1 := hat 1 _ rfl
      have d2 := hat 2 _ rfl
      have f0 := hs2.free i 0 (by omega) (by decide)
      rw [Nat.add_zero] at d0 f0
      have HS3 : Hid (SlotsM lo hi (w2.setCell ⟨b, off + i * 3, none⟩ (.string ⟨(markOf K).toArray⟩)) b off (qs.set i ((⟨(markOf K).toArray⟩, x.1.2), x.2))) := Lib.hid (hs2.setCell (t := 0) (y := ((⟨(markOf K).toArray⟩, x.1.2), x.2)) HX.out rfl rfl (by decide) rfl)
      have HT3 := Lib.hid (HT2.out.set (b := b) (off + i * 3) (.string ⟨(markOf K).toArray⟩) h1 h2)
      have HX3 : Hid ((qs.set i ((⟨(markOf K).toArray⟩, x.1.2), x.2))[i]? = some ((⟨(markOf K).toArray⟩, x.1.2), x.2)) := Lib.hid (List.getElem?_set_self (by omega))
      clear hat hs2 hb2
      go_wp2_with fail
      refine (markText_any (K + 1) _ (by omega) (by omega)).mono ?_
      rintro e w4 ⟨rfl, hb4⟩
      have z4 : w2.heap.size ≤ w4.heap.size := by have := hb4.size; simpa [World.setCell] using this
      have hs4 := HS3.out.below hb4 (by simp [World.setCell]; omega)
      have HT4 := Lib.hid (HT3.out.trans (Turned.of_below hb4))
      have hat := hs4.cells i _ HX3.out
      have d1 := hat 1 _ rfl
      have d2 := hat 2 _ rfl
      have f1 := hs4.free i 1 (by rw [List.length_set]; omega) (by decide)
      have hs5 := hs4.setCell (t := 1) (y := ((⟨(markOf K).toArray⟩, ⟨(markOf (K + 1)).toArray⟩, x.1.2.2), x.2)) HX3.out rfl rfl (by decide) rfl
      rw [List.set_set] at hs5
      have HS5 := Lib.hid hs5
      have HT5 := Lib.hid (HT4.out.set (b := b) (off + i * 3 + 1) (.string ⟨(markOf (K + 1)).toArray⟩) h1 h2)
      have HX5 : Hid ((qs.set i ((⟨(markOf K).toArray⟩, ⟨(markOf (K + 1)).toArray⟩, x.1.2.2), x.2))[i]? = some ((⟨(markOf K).toArray⟩, ⟨(markOf (K + 1)).toArray⟩, x.1.2.2), x.2)) := Lib.hid (List.getElem?_set_self (by omega))
      have HB4 := Lib.hid hb4
      clear hat hs4 hs5 hb4
      go_wp2_with fail
      have ho5 := HS5.out.own i _ HX5.out
      refine (markBytes_any lo hi (sv (((⟨(markOf K).toArray⟩, ⟨(markOf (K + 1)).toArray⟩, x.1.2.2), x.2) : SlotV)) x.1.2.2 (K + 1 + 1) _ (by omega) (by omega) (by omega) ho5).mono ?_
      rintro e w6 ⟨rfl, hn6, hg6⟩
      have z6 : w4.heap.size ≤ w6.heap.size := by have := hg6.size; simpa [World.setCell] using this
      have hs6 := HS5.out.reply HX5.out (marks_length _ _ _) hg6 (by simp [World.setCell]; omega) hn6
      rw [List.set_set] at hs6
      have HT6 := Lib.hid (HT5.out.trans (Turned.of_grown hg6 fun g hg => (ho5).blk g hg))
      have HS6 := Lib.hid hs6
      clear hs6 hn6 hg6 ho5
      go_wp2
      go_roundw
      case rel =>
        refine ⟨i + 1, K + 1 + 1 + (x.1.2.2.length : Int), _, by omega, by go_num, by go_num, Lib.hid HKN'.out.symm, by rw [List.length_set]; exact hql, Lib.hid fun j y hy => ?_, HS6, HT6, by omega⟩
        by_cases e : i = j
        · subst e
          rw [List.getElem?_set_self (by omega)] at hy
          cases hy
          refine ⟨by rw [← HLX.out]; exact marks_length (· % 256) (K + 1 + 1) _, fun _ => ?_⟩
          rw [← HLX.out, ← HK.out]
          rfl
        · rw [List.getElem?_set_ne e] at hy
          obtain ⟨q1, q2⟩ := HQ.out j y hy
          exact ⟨q1, fun h => q2 (by omega)⟩
      case measure => simp [intOf] <;> omega
    · obtain rfl : i = n := by omega
      have HKE := Lib.hid HK.out
      have HSL : Hid (qs.map (·.1) = slotsMark k ns) := Lib.hid (by
        apply List.ext_getElem?
        intro j
        by_cases hj : j < i
        · rw [slotsMark_at (by rw [HNL.out]; exact hj), List.getElem?_map, List.getElem?_eq_getElem (by omega : j < qs.length), Option.map_some, (HQ.out j _ (List.getElem?_eq_getElem (by omega))).2 hj]
        · rw [List.getElem?_eq_none (by rw [List.length_map]; omega), List.getElem?_eq_none (by rw [slotsMark_len, HNL.out]; omega)])
      go_wp2
      go_ret
      refine ⟨by rw [← HKE.out]; rfl, ?_, HT.out⟩
      have := HS.out.mine (c := c) (by omega)
      rw [HSL.out, hql] at this
      exact this
set_option maxRecDepth 100000 in
set_option maxHeartbeats 4000000 in
theorem heldSlots_any (hi : Nat) (v : Value) (ns : List Nat) (k : Int) (w : World) (hk0 : 0 < k) (hk1 : kAt k ns ns.length ≤ 1000000000) (h : SlotsR.rd hi w [v] (slotsMark k ns)) (hh : hi ≤ w.heap.size) :
    Calls Tryz.prog 105 #[v, .int .i64 k] w fun e w' => e = .returned (.int .i64 (kAt k ns ns.length)) ∧ Below w.heap.size w w' := by
  obtain ⟨A, c, hv, hc, h'⟩ := slots_rd h
  rw [slotsMark_len] at hv hc
  have HR := Lib.hid h'
  clear h h'
  subst hv
  obtain ⟨n, hn⟩ : ∃ n, n = ns.length := ⟨_, rfl⟩
  rw [← hn] at hc hk1 ⊢
  have HKL : Hid (∀ j, k ≤ kAt k ns j ∧ kAt k ns j ≤ kAt k ns n) := Lib.hid fun j => by have := kAt_le k ns j; rwa [← hn] at this
  have HKN : Hid (∀ j, j < n → kAt k ns (j + 1) = kAt k ns j + 1 + 1 + (ns.getD j 0 : Nat)) := Lib.hid fun j hj => kAt_next (by omega)
  have HK0 := Lib.hid (kAt_zero k ns)
  have hn9 : (n : Int) ≤ 1000000000 := by have := kAt_two k ns; rw [← hn] at this; omega
  have HNE := Lib.hid hn
  clear hn
  go_enter Tryz.func105, Tryz.ntmps105
  go_wp2
  go_loopw [1, 5] (fun kv iv wr => ∃ (i : Nat) (K : Int), i ≤ n ∧ iv = .int .i64 i ∧ kv = .int .i64 K ∧ Hid (K = kAt k ns i) ∧ Hid (Below w.heap.size w wr) ∧ w.heap.size ≤ wr.heap.size) (fun _ iv _ => n - (intOf iv).toNat)
  case atStart => exact ⟨0, k, Nat.zero_le _, rfl, rfl, Lib.hid HK0.out.symm, Lib.hid (Below.refl _ _), Nat.le_refl _⟩
  case round =>
    obtain ⟨i, K, hi', rfl, rfl, HK, HB, hz⟩ := hrel
    by_cases hin : i < n
    · obtain ⟨b, off, A', c', rfl, hb, c0, c1, c2, hrd⟩ := HR.out i _ (slotsMark_at (by rw [← HNE.out]; exact hin))
      have hkb := HKL.out i
      have hkc := HKL.out (i + 1)
      have hkn := HKN.out i hin
      rw [← HK.out] at hkn c0 c1 c2 hrd hkb
      obtain ⟨m, hm⟩ : ∃ m, m = ns.getD i 0 := ⟨_, rfl⟩
      rw [← hm] at hkn c0 c1 c2 hrd
      rw [hkn] at hkc
      have k0 : 0 < K := by omega
      have k1 : K + 1 + 1 + (m : Int) ≤ 1000000000 := by omega
      have HKN' := Lib.hid hkn
      simp only [slotMk, marks_length] at c0 c1 c2 hrd
      clear hkb hkc hkn hm
      have c0 := (HB.out.cell (p := ⟨b, _, none⟩) (show b < w.heap.size by omega)).trans c0
      have c1 := (HB.out.cell (p := ⟨b, _, none⟩) (show b < w.heap.size by omega)).trans c1
      have c2 := (HB.out.cell (p := ⟨b, _, none⟩) (show b < w.heap.size by omega)).trans c2
      have HRD := Lib.hid (hrd.below HB.out hh)
      clear hrd
      have g1 : (i : Int) < (n : Int) := by omega
      have g2 : 0 ≤ (i : Int) := by omega
      have hml0 := markOf_size K (by omega)
      have hml1 := markOf_size (K + 1) (by omega)
      have HX0 : Hid (∀ w', Calls Tryz.prog 181 #[.int .i64 K] w' fun e w'' => e = .returned (.string ⟨(markOf K).toArray⟩) ∧ Below w'.heap.size w' w'') := Lib.hid fun w' => markText_any _ w' (by omega) (by omega)
      have HX1 : Hid (∀ w', Calls Tryz.prog 181 #[.int .i64 (K + 1)] w' fun e w'' => e = .returned (.string ⟨(markOf (K + 1)).toArray⟩) ∧ Below w'.heap.size w' w'') := Lib.hid fun w' => markText_any _ w' (by omega) (by omega)
      generalize markOf K = mk0 at c0 hml0 HX0
      generalize markOf (K + 1) = mk1 at c1 hml1 HX1
      go_wp2
      go_region_held3 (fun w' => w'.cell? ⟨b, off + i * 3, none⟩ = some (.string ⟨mk0.toArray⟩)) (go_keep) (first | (go_at_call 181; refine (HX0.out _).mono ?_; rintro e w2 ⟨rfl, hb2⟩; have q := (hb2.cell (p := ⟨b, off + i * 3, none⟩) (show b < wr.heap.size by omega)).trans c0))
      have c1 := (hb2.cell (p := ⟨b, off + i * 3 + 1, none⟩) (show b < wr.heap.size by omega)).trans c1
      have c2 := (hb2.cell (p := ⟨b, off + i * 3 + 2, none⟩) (show b < wr.heap.size by omega)).trans c2
      have hz2 : wr.heap.size ≤ w2.heap.size := hb2.size
      have hb2' := (Below.refl wr.heap.size wr).drew.trans hb2
      have HRD2 := Lib.hid (HRD.out.below hb2' (by omega))
      have HB2 : Hid (Below w.heap.size w w2) := Lib.hid (HB.out.trans (hb2'.mono hz))
      clear hb2 hb2' q c0
      go_wp2
      go_region_held3 (fun w' => w'.cell? ⟨b, off + i * 3 + 1, none⟩ = some (.string ⟨mk1.toArray⟩)) (go_keep) (first | (go_at_call 181; refine (HX1.out _).mono ?_; rintro e w4 ⟨rfl, hb4⟩; have q := (hb4.cell (p := ⟨b, off + i * 3 + 1, none⟩) (show b < w2.heap.size by omega)).trans c1))
      have c2 := (hb4.cell (p := ⟨b, off + i * 3 + 2, none⟩) (show b < w2.heap.size by omega)).trans c2
      have hz4 : w2.heap.size ≤ w4.heap.size := hb4.size
      have hb4' := (Below.refl w2.heap.size w2).drew.trans hb4
      have HRD4 := Lib.hid (HRD2.out.below hb4' (by omega))
      have HB4 : Hid (Below w.heap.size w w4) := Lib.hid (HB2.out.trans (hb4'.mono (by omega)))
      clear hb4 hb4' q c1
      go_wp2_with fail
      refine (heldBytes_any hi _ m (K + 1 + 1) w4 (by omega) (by omega) (by omega) HRD4.out).mono ?_
      rintro e w6 ⟨rfl, hb6⟩
      have hz6 := hb6.size
      have HB6 : Hid (Below w.heap.size w w6) := Lib.hid (HB4.out.trans (hb6.mono (by omega)))
      have kn : ¬ (K + 1 + 1 + (m : Int) < 0) := by omega
      clear hb6 c2
      go_wp2
      go_roundw
      case rel => exact ⟨i + 1, K + 1 + 1 + (m : Int), by omega, by go_num, by go_num, Lib.hid HKN'.out.symm, HB6, by omega⟩
      case measure => simp [intOf] <;> omega
    · obtain rfl : i = n := by omega
      go_wp2
      go_ret
      exact ⟨by rw [HK.out]; rfl, HB.out⟩
end Go.Proofs.YtnmijppppcgobaaGreatDoor
set_option linter.unusedVariables false
namespace Go.Proofs.YtnmijppppcgobaaGreatDoor
open Go.ChangeShapes Go.WideShapes Go.ChangeAt Go.RowKit

set_option maxRecDepth 100000 in
theorem mem_sum {α : Type} (f : α → Nat) : ∀ {l : List α} {x : α}, x ∈ l → f x ≤ (l.map f).sum
  | [], x, h => by simp at h
  | y :: l, x, h => by
    rw [List.map_cons, List.sum_cons]
    rcases List.mem_cons.1 h with rfl | h
    · omega
    · have := mem_sum f h; omega
set_option maxRecDepth 100000 in
theorem lens_sum : ∀ l : List SlotD, ((lensOf l).map fun n => 2 + n).sum ≤ 2 * l.length + (l.map slotSz).sum
  | [] => by simp [lensOf]
  | x :: l => by
    have := lens_sum l
    unfold lensOf slotSz at this ⊢
    simp only [List.map_cons, List.sum_cons, List.length_cons] at this ⊢
    omega
set_option maxRecDepth 100000 in
theorem kAt_sz {l : List SlotD} {N : Nat} (h : slotsSz l ≤ N) (k : Int) : kAt k (lensOf l) l.length ≤ k + 2 * (N : Int) := by
  unfold kAt
  have h1 := lens_sum l
  have h2 : (lensOf l).take l.length = lensOf l := List.take_of_length_le (by rw [lensOf_len]; exact Nat.le_refl _)
  rw [h2]
  unfold slotsSz at h
  omega
set_option maxRecDepth 100000 in
theorem kAt_up (l : List SlotD) (k : Int) : k ≤ kAt k (lensOf l) l.length := (kAt_le k (lensOf l) l.length).1
set_option maxRecDepth 100000 in
theorem sz_len {l : List SlotD} {N : Nat} (h : slotsSz l ≤ N) : l.length ≤ N := by unfold slotsSz at h; omega
set_option maxRecDepth 100000 in
theorem sz_reply {l : List SlotD} {N : Nat} (h : slotsSz l ≤ N) : ∀ x ∈ l, x.2.2.length ≤ N := fun x hx => by
  have h1 := mem_sum slotSz hx
  have h2 : x.2.2.length ≤ slotSz x := by unfold slotSz; omega
  unfold slotsSz at h
  omega
end Go.Proofs.YtnmijppppcgobaaGreatDoor
set_option linter.unusedVariables false
namespace Go.Proofs.YtnmijppppcgobaaGreatDoor
set_option maxRecDepth 100000 in
theorem acct_small {a : AcctD} {N : Nat} (h : acctSz a ≤ N) : acctSmall N a := by
  unfold acctSz at h
  have hs : slotsSz (aS a) ≤ N := by omega
  exact ⟨by unfold holdsSz at h; omega, by omega, by omega, sz_len hs, sz_reply hs⟩
end Go.Proofs.YtnmijppppcgobaaGreatDoor
set_option linter.unusedVariables false
namespace Go.Proofs.YtnmijppppcgobaaGreatDoor
open Go.ChangeShapes Go.WideShapes Go.ChangeAt Go.RowKit

/-- the number with which the slots' marks begin -/
def kSl (a : AcctD) (k : Int) : Int := k + 3 * ((aH a).length : Int) + (aR a).2.2.1.length + (aR a).2.2.2.length
/-- the number behind the last mark -/
def kAcct (a : AcctD) (k : Int) : Int := kAt (kSl a k) (lensOf (aS a)) (aS a).length
def acctMark (a : AcctD) (k : Int) : AcctD := (aId a, aLim a, aPos a, aMost a, aSum a, holdsMark k (aH a).length, markedR (aR a) (k + 3 * ((aH a).length : Int)), slotsMark (kSl a k) (lensOf (aS a)))
set_option maxRecDepth 100000 in
set_option maxHeartbeats 4000000 in
theorem markAcct_any (lo hi : Nat) (vh vc vs vl : Value) (a : AcctD) (w : World) (hz : acctSmall 1048576 a) (hk : kAcct a 1 ≤ 1000000000) (h : AcctI lo hi w vh vc vs vl a) (hh : hi ≤ w.heap.size) :
    Calls Tryz.prog 40 #[.agg #[.string (aId a), .int .i64 (aLim a), .int .i64 (aPos a), .int .i64 (aMost a), .int .i64 (aSum a), vh, .int .i64 (aR a).1, .int .i64 (aR a).2.1, vc, vs, vl], .int .i64 1] w fun e w' => e = .returned (.int .i64 (kAcct a 1)) ∧ AcctI lo hi w' vh vc vs vl (acctMark a 1) ∧ Turned lo hi w w' := by
  obtain ⟨l1, h1, l2, h2, l3, h3, m1, m2, m3, ⟨x1, x2, x3, x4, x5, x6⟩, d1, d2, d3⟩ := h
  obtain ⟨id, lim, pos, most, sum, hs, ⟨sp, hd, cs, ss⟩, sl⟩ := a
  obtain ⟨z1, z2, z3, z4, -⟩ := hz
  simp only [aId, aLim, aPos, aMost, aSum, aH, aR, aS] at m1 m2 m3 z1 z2 z3 z4 ⊢
  obtain ⟨AH, cH, rfl, -⟩ := Rep.slice_form m1.rd
  obtain ⟨AC, cC, rfl, -⟩ := (ring2 m2.rd).1.form
  obtain ⟨AS, cS, rfl, -⟩ := (ring2 m2.rd).2.form
  obtain ⟨AL, cL, rfl, -⟩ := Rep.slice_form m3.rd
  simp only at m1 m2 m3
  have HM1 := Lib.hid (fun W (m : HoldsR.mine l1 h1 W [.slice AH hs.length cH] hs) (hW : h1 ≤ W.heap.size) => markHolds_any l1 h1 _ hs 1 W (by omega) (by decide) (by decide) m hW)
  have HM2 := Lib.hid (fun W (m : RingR.mine l2 h2 W [.int .i64 sp, .int .i64 hd, .slice AC cs.length cC, .slice AS ss.length cS] (sp, hd, cs, ss)) (hW : h2 ≤ W.heap.size) => markRing_r (r := (sp, hd, cs, ss)) (1 + 3 * (hs.length : Int)) (w := W) (by omega) (by omega) m hW (by simp only; omega) (by simp only; omega))
  have HM3 := Lib.hid (fun W (m : SlotsR.mine l3 h3 W [.slice AL sl.length cL] sl) (hW : h3 ≤ W.heap.size) => markSlots_any l3 h3 _ sl (kSl (id, lim, pos, most, sum, hs, (sp, hd, cs, ss), sl) 1) W (by unfold kSl; simp only [aH]; omega) hk m hW)
  have HK : Hid (kAcct (id, lim, pos, most, sum, hs, (sp, hd, cs, ss), sl) 1 = kAt (kSl (id, lim, pos, most, sum, hs, (sp, hd, cs, ss), sl) 1) (lensOf sl) sl.length) := Lib.hid rfl
  have HS : Hid (kSl (id, lim, pos, most, sum, hs, (sp, hd, cs, ss), sl) 1 = 1 + 3 * (hs.length : Int) + cs.length + ss.length) := Lib.hid rfl
  clear hk
  rw [HK.out]
  have HI : Hid (∀ W, HoldsR.mine l1 h1 W [.slice AH hs.length cH] (holdsMark 1 hs.length) → RingR.mine l2 h2 W [.int .i64 sp, .int .i64 hd, .slice AC cs.length cC, .slice AS ss.length cS] (markedR (sp, hd, cs, ss) (1 + 3 * (hs.length : Int))) → SlotsR.mine l3 h3 W [.slice AL sl.length cL] (slotsMark (kSl (id, lim, pos, most, sum, hs, (sp, hd, cs, ss), sl) 1) (lensOf sl)) → AcctI lo hi W (.slice AH hs.length cH) (.slice AC cs.length cC) (.slice AS ss.length cS) (.slice AL sl.length cL) (acctMark (id, lim, pos, most, sum, hs, (sp, hd, cs, ss), sl) 1)) := Lib.hid fun W a b c => ⟨l1, h1, l2, h2, l3, h3, a, b, c, ⟨x1, x2, x3, x4, x5, x6⟩, d1, d2, d3⟩
  generalize kSl (id, lim, pos, most, sum, hs, (sp, hd, cs, ss), sl) 1 = K at HM3 HS HI ⊢
  obtain rfl : K = 1 + 3 * (hs.length : Int) + cs.length + ss.length := HS.out
  have HN := Lib.hid (And.intro m1 (And.intro m2 m3))
  clear m1 m2 m3 HS HK
  go_enter Tryz.func40, Tryz.ntmps40
  go_upto_region 1 with fail
  obtain ⟨W, hW⟩ : ∃ W, W = w.alloc (.cells #[.string id, .int .i64 lim, .int .i64 pos, .int .i64 most, .int .i64 sum, .slice AH hs.length cH, .int .i64 sp, .int .i64 hd, .slice AC cs.length cC, .slice AS ss.length cS, .slice AL sl.length cL] 29) := ⟨_, rfl⟩
  have b0 : bk W w.heap.size 29 [.string id, .int .i64 lim, .int .i64 pos, .int .i64 most, .int .i64 sum, .slice AH hs.length cH, .int .i64 sp, .int .i64 hd, .slice AC cs.length cC, .slice AS ss.length cS, .slice AL sl.length cL] := by rw [hW]; exact bk.new w _ _
  have HB0 : Hid (Below w.heap.size w W) := Lib.hid (by rw [hW]; exact (Below.refl _ _).alloc (Nat.le_refl _) _)
  rw [← hW]
  clear hW
  have y0 := b0.lt
  have H1 := Lib.hid (HN.out.1.below HB0.out (by omega))
  have H2 := Lib.hid (HN.out.2.1.below HB0.out (by omega))
  have H3 := Lib.hid (HN.out.2.2.below HB0.out (by omega))
  have HT0 : Hid (Turned lo hi w W) := Lib.hid (Turned.of_below HB0.out)
  have B0 := Lib.hid b0
  clear b0 HN HB0
  obtain ⟨⟨p0, p1, p2, p3, p4, p5, p6, p7, p8, p9, p10⟩, -⟩ := B0.out.eleven
  go_wp2_with fail
  refine (HM1.out W H1.out (by omega)).mono ?_
  rintro e w1 ⟨rfl, hn1, ht1⟩
  have y1 := ht1.size
  replace B0 := Lib.hid (B0.out.under ht1 (by omega))
  replace H1 := Lib.hid hn1
  replace H2 := Lib.hid (H2.out.turned ht1 (by omega) (by omega))
  replace H3 := Lib.hid (H3.out.turned ht1 (by omega) (by omega))
  replace HT0 : Hid (Turned lo hi w w1) := Lib.hid (HT0.out.trans (ht1.mono (by omega) (by omega)))
  clear hn1 ht1 HM1 p0 p1 p2 p3 p4 p5 p6 p7 p8 p9 p10
  obtain ⟨⟨p0, p1, p2, p3, p4, p5, p6, p7, p8, p9, p10⟩, -⟩ := B0.out.eleven
  go_wp2_with fail
  refine (HM2.out w1 H2.out (by omega)).mono ?_
  rintro e w2 ⟨rfl, hn2, ht2⟩
  have y2 := ht2.size
  replace B0 := Lib.hid (B0.out.under ht2 (by omega))
  replace H1 := Lib.hid (H1.out.turned ht2 (by omega) (by omega))
  replace H2 := Lib.hid hn2
  replace H3 := Lib.hid (H3.out.turned ht2 (by omega) (by omega))
  replace HT0 : Hid (Turned lo hi w w2) := Lib.hid (HT0.out.trans (ht2.mono (by omega) (by omega)))
  clear hn2 ht2 HM2 p0 p1 p2 p3 p4 p5 p6 p7 p8 p9 p10
  obtain ⟨⟨p0, p1, p2, p3, p4, p5, p6, p7, p8, p9, p10⟩, -⟩ := B0.out.eleven
  go_wp2_with fail
  refine (HM3.out w2 H3.out (by omega)).mono ?_
  rintro e w3 ⟨rfl, hn3, ht3⟩
  have y3 := ht3.size
  replace H1 := Lib.hid (H1.out.turned ht3 (by omega) (by omega))
  replace H2 := Lib.hid (H2.out.turned ht3 (by omega) (by omega))
  replace H3 := Lib.hid hn3
  replace HT0 : Hid (Turned lo hi w w3) := Lib.hid (HT0.out.trans (ht3.mono (by omega) (by omega)))
  clear hn3 ht3 HM3 p0 p1 p2 p3 p4 p5 p6 p7 p8 p9 p10 B0
  go_wp2
  go_ret
  exact ⟨rfl, HI.out w3 H1.out H2.out H3.out, HT0.out⟩
set_option maxRecDepth 100000 in
set_option maxHeartbeats 4000000 in
theorem heldAcct_any (hi : Nat) (vh vc vs vl : Value) (a : AcctD) (w : World) (hz : acctSmall 1048576 a) (hk : kAcct a 1 ≤ 1000000000) (h : AcctR.rd hi w (aCells (acctMark a 1) vh vc vs vl) (acctMark a 1)) (hh : hi ≤ w.heap.size) :
    Calls Tryz.prog 41 #[.agg #[.string (aId a), .int .i64 (aLim a), .int .i64 (aPos a), .int .i64 (aMost a), .int .i64 (aSum a), vh, .int .i64 (aR a).1, .int .i64 (aR a).2.1, vc, vs, vl], .int .i64 1] w fun e w' => e = .returned (.int .i64 (kAcct a 1)) ∧ Below w.heap.size w w' := by
  obtain ⟨vh0, vc0, vs0, vl0, hcs, r1, r2, r3, r4⟩ := acct_rd h
  simp only [aCells, List.cons.injEq, and_true, true_and] at hcs
  obtain ⟨rfl, rfl, rfl, rfl⟩ := hcs
  clear h
  obtain ⟨id, lim, pos, most, sum, hs, ⟨sp, hd, cs, ss⟩, sl⟩ := a
  obtain ⟨z1, z2, z3, z4, -⟩ := hz
  simp only [acctMark, markedR, aId, aLim, aPos, aMost, aSum, aH, aR, aS] at r1 r2 r3 r4 z1 z2 z3 z4 ⊢
  obtain ⟨AH, cH, rfl, -⟩ := Rep.slice_form r1
  obtain ⟨AC, cC, rfl, -⟩ := r2.form
  obtain ⟨AS, cS, rfl, -⟩ := r3.form
  obtain ⟨AL, cL, rfl, -⟩ := Rep.slice_form r4
  have HK : Hid (kAcct (id, lim, pos, most, sum, hs, (sp, hd, cs, ss), sl) 1 = kAt (kSl (id, lim, pos, most, sum, hs, (sp, hd, cs, ss), sl) 1) (lensOf sl) sl.length) := Lib.hid rfl
  have HS : Hid (kSl (id, lim, pos, most, sum, hs, (sp, hd, cs, ss), sl) 1 = 1 + 3 * (hs.length : Int) + cs.length + ss.length) := Lib.hid rfl
  have HU := Lib.hid (kAt_up sl (kSl (id, lim, pos, most, sum, hs, (sp, hd, cs, ss), sl) 1))
  have HM1 := Lib.hid (fun W (hW : Below w.heap.size w W) => heldHolds_any hi _ hs.length 1 W (by omega) (by decide) (by decide) (Rep.below (R := HoldsR) r1 hW hh) (Nat.le_trans hh hW.size))
  have HM2 := Lib.hid (fun W (hW : Below w.heap.size w W) => heldRing_any hi _ _ sp hd cs.length ss.length (1 + 3 * (hs.length : Int)) W (by omega) (by omega) (r2.below hW hh) (r3.below hW hh) (Nat.le_trans hh hW.size) z2 z3)
  have HM3 := Lib.hid (fun W (hW : Below w.heap.size w W) => heldSlots_any hi _ (lensOf sl) (kSl (id, lim, pos, most, sum, hs, (sp, hd, cs, ss), sl) 1) W (by unfold kSl; simp only [aH]; omega) (by rw [lensOf_len]; exact hk) (Rep.below (R := SlotsR) r4 hW hh) (Nat.le_trans hh hW.size))
  rw [holdsMark_len] at HM1 ⊢
  rw [marks_length] at HM2 ⊢
  rw [marks_length] at HM2 ⊢
  rw [slotsMark_len, lensOf_len] at HM3 ⊢
  clear hk r1 r2 r3 r4
  rw [HK.out]
  generalize kSl (id, lim, pos, most, sum, hs, (sp, hd, cs, ss), sl) 1 = K at HM3 HS HU ⊢
  obtain rfl : K = 1 + 3 * (hs.length : Int) + cs.length + ss.length := HS.out
  generalize kAt (1 + 3 * (hs.length : Int) + cs.length + ss.length) (lensOf sl) sl.length = K2 at HM3 HU ⊢
  have hu := HU.out
  clear HS HK HU
  go_enter Tryz.func41, Tryz.ntmps41
  go_upto_region 1 with fail
  obtain ⟨W, hW⟩ : ∃ W, W = w.alloc (.cells #[.string id, .int .i64 lim, .int .i64 pos, .int .i64 most, .int .i64 sum, .slice AH hs.length cH, .int .i64 sp, .int .i64 hd, .slice AC cs.length cC, .slice AS ss.length cS, .slice AL sl.length cL] 29) := ⟨_, rfl⟩
  have b0 : bk W w.heap.size 29 [.string id, .int .i64 lim, .int .i64 pos, .int .i64 most, .int .i64 sum, .slice AH hs.length cH, .int .i64 sp, .int .i64 hd, .slice AC cs.length cC, .slice AS ss.length cS, .slice AL sl.length cL] := by rw [hW]; exact bk.new w _ _
  have HB0 : Hid (Below w.heap.size w W) := Lib.hid (by rw [hW]; exact (Below.refl _ _).alloc (Nat.le_refl _) _)
  rw [← hW]
  clear hW
  have y0 := b0.lt
  have B0 := Lib.hid b0
  clear b0
  obtain ⟨⟨p0, p1, p2, p3, p4, p5, p6, p7, p8, p9, p10⟩, -⟩ := B0.out.eleven
  go_wp2_with fail
  refine (HM1.out W HB0.out).mono ?_
  rintro e w1 ⟨rfl, hb1⟩
  have y1 := hb1.size
  have kk : ¬ (1 + 3 * (hs.length : Int) < 0) := by omega
  replace B0 := Lib.hid (B0.out.below hb1 (by omega))
  have HB1 : Hid (Below w.heap.size w w1) := Lib.hid (HB0.out.trans (hb1.mono (by omega)))
  clear hb1 HM1 HB0 p0 p1 p2 p3 p4 p5 p6 p7 p8 p9 p10
  obtain ⟨⟨p0, p1, p2, p3, p4, p5, p6, p7, p8, p9, p10⟩, -⟩ := B0.out.eleven
  go_wp2_with fail
  refine (HM2.out w1 HB1.out).mono ?_
  rintro e w2 ⟨rfl, hb2⟩
  have y2 := hb2.size
  have kk2 : ¬ (1 + 3 * (hs.length : Int) + cs.length + ss.length < 0) := by omega
  replace B0 := Lib.hid (B0.out.below hb2 (by omega))
  have HB2 : Hid (Below w.heap.size w w2) := Lib.hid (HB1.out.trans (hb2.mono (by omega)))
  clear hb2 HM2 HB1 p0 p1 p2 p3 p4 p5 p6 p7 p8 p9 p10
  obtain ⟨⟨p0, p1, p2, p3, p4, p5, p6, p7, p8, p9, p10⟩, -⟩ := B0.out.eleven
  go_wp2_with fail
  refine (HM3.out w2 HB2.out).mono ?_
  rintro e w3 ⟨rfl, hb3⟩
  have kk3 : ¬ (K2 < 0) := by omega
  have HB3 : Hid (Below w.heap.size w w3) := Lib.hid (HB2.out.trans (hb3.mono (by omega)))
  clear hb3 HM3 HB2 p0 p1 p2 p3 p4 p5 p6 p7 p8 p9 p10 B0
  go_wp2
  go_ret
  exact ⟨rfl, HB3.out⟩
set_option maxRecDepth 100000 in
theorem kAcct_up (a : AcctD) : 1 ≤ kAcct a 1 := by
  have h := kAt_up (aS a) (kSl a 1)
  unfold kAcct
  have h2 : 1 ≤ kSl a 1 := by unfold kSl; omega
  omega
end Go.Proofs.YtnmijppppcgobaaGreatDoor
set_option linter.unusedVariables false
namespace Go.Proofs.YtnmijppppcgobaaGreatDoor
/-- what a law asks of an account that it marks -/
def acctFit (a : AcctD) : Prop := acctSmall 1048576 a ∧ kAcct a 1 ≤ 1000000000
set_option maxRecDepth 100000 in
theorem kAcct_sz {a : AcctD} {N : Nat} (h : acctSz a ≤ N) : kAcct a 1 ≤ 1 + 6 * (N : Int) := by
  unfold acctSz at h
  have h1 : slotsSz (aS a) ≤ N - ((aR a).2.2.1.length + (aR a).2.2.2.length + holdsSz (aH a)) := by omega
  have h2 := kAt_sz h1 (kSl a 1)
  have h3 : (aH a).length ≤ holdsSz (aH a) := by unfold holdsSz; omega
  unfold kAcct
  unfold kSl at h2 ⊢
  omega
set_option maxRecDepth 100000 in
theorem acct_fit {a : AcctD} (h : acctSz a ≤ 1048576) : acctFit a := ⟨acct_small h, by have := kAcct_sz h; omega⟩
set_option maxRecDepth 100000 in
theorem ringRoll_lens (r : RingD) (now : Int) : (ringRoll r now).2.2.1.length = r.2.2.1.length ∧ (ringRoll r now).2.2.2.length = r.2.2.2.length := by
  unfold ringRoll
  split
  · exact ⟨shiftL_len _ _, shiftL_len _ _⟩
  · exact ⟨rfl, rfl⟩
end Go.Proofs.YtnmijppppcgobaaGreatDoor
set_option linter.unusedVariables false
namespace Go.Proofs.YtnmijppppcgobaaGreatDoor
open Go.ChangeShapes Go.WideShapes Go.ChangeAt Go.RowKit

/-- few and short parts -/
structure acctFew (a : AcctD) : Prop where
  i : (aId a).size ≤ 19
  h : (aH a).length ≤ 4
  hi : ∀ x ∈ aH a, x.1.size ≤ 6
  c : (aR a).2.2.1.length ≤ 8
  s : (aR a).2.2.2.length ≤ 8
  l : (aS a).length ≤ 6
  li : ∀ x ∈ aS a, x.1.size = 6 ∧ x.2.1.size = 4 ∧ x.2.2.length ≤ 200
set_option maxRecDepth 100000 in
theorem sum_le_mul : ∀ (l : List Nat) (N : Nat), (∀ x ∈ l, x ≤ N) → l.sum ≤ l.length * N
  | [], N, _ => by simp
  | x :: l, N, h => by
    have h1 := h x (by simp)
    have h2 := sum_le_mul l N fun y hy => h y (by simp [hy])
    simp only [List.sum_cons, List.length_cons, Nat.add_mul, Nat.one_mul]
    omega
set_option maxRecDepth 100000 in
theorem acctOk_few {a : AcctD} (h : acctOk a = true) : acctFew a := by
  unfold acctOk acctHead acctTail acctIdB at h
  simp only [Bool.and_eq_true, decide_eq_true_eq] at h
  obtain ⟨⟨⟨h1, -⟩, -⟩, h2, h3, h4, -⟩ := h
  obtain ⟨p1, p2⟩ := holdsOk_small h2
  obtain ⟨q1, q2⟩ := slotsOk_small h4
  unfold ringOk ringHead inB at h3
  simp only [Bool.and_eq_true, decide_eq_true_eq] at h3
  obtain ⟨⟨-, r1, r2, -⟩, -⟩ := h3
  exact ⟨h1, p1, p2, by omega, by omega, q1, q2⟩
set_option maxRecDepth 100000 in
theorem few_sz {a : AcctD} (h : acctFew a) : acctSz a ≤ 2000 := by
  have h1 := sum_le_mul ((aH a).map fun x => x.1.size) 6 (fun x hx => by obtain ⟨y, hy, rfl⟩ := List.mem_map.1 hx; exact h.hi y hy)
  have h2 := sum_le_mul ((aS a).map slotSz) 210 (fun x hx => by obtain ⟨y, hy, rfl⟩ := List.mem_map.1 hx; have := h.li y hy; unfold slotSz; omega)
  rw [List.length_map] at h1 h2
  have := h.i
  have := h.h
  have := h.c
  have := h.s
  have := h.l
  unfold acctSz holdsSz slotsSz
  omega
set_option maxRecDepth 100000 in
theorem few_fit {a : AcctD} (h : acctFew a) : acctFit a := acct_fit (Nat.le_trans (few_sz h) (by omega))
set_option maxRecDepth 100000 in
theorem few_small {a : AcctD} (h : acctFew a) : acctSmall 1048576 a := (few_fit h).1
set_option maxRecDepth 100000 in
theorem few_big {a : AcctD} (h : acctFew a) : acctBig a := by
  have h1 := h.i
  have h2 := h.h
  have h3 := h.c
  have h4 := h.s
  have h5 := h.l
  refine ⟨?_, ?_, fun x hx => ?_, ?_, ?_, ?_, fun x hx => ?_⟩
  all_goals unfold maxLen
  all_goals first | omega | skip
  · have := h.hi x hx; omega
  · have := h.li x hx; omega
set_option maxRecDepth 100000 in
theorem few_nil : acctFew acctNil := ⟨Nat.zero_le _, Nat.zero_le _, fun x hx => by simp [aH] at hx, Nat.zero_le _, Nat.zero_le _, Nat.zero_le _, fun x hx => by simp [aS] at hx⟩
set_option maxRecDepth 100000 in
theorem few_setH {a : AcctD} {l : List HoldD} (h : acctFew a) (h1 : l.length ≤ 4) (h2 : ∀ x ∈ l, x.1.size ≤ 6) : acctFew (setH a l) := ⟨h.i, h1, h2, h.c, h.s, h.l, h.li⟩
set_option maxRecDepth 100000 in
theorem few_setR {a : AcctD} {r : RingD} (h : acctFew a) (h1 : r.2.2.1.length ≤ 8) (h2 : r.2.2.2.length ≤ 8) : acctFew (setR a r) := ⟨h.i, h.h, h.hi, h1, h2, h.l, h.li⟩
set_option maxRecDepth 100000 in
theorem few_setP {a : AcctD} {p : Int} (h : acctFew a) : acctFew (setP a p) := ⟨h.i, h.h, h.hi, h.c, h.s, h.l, h.li⟩
set_option maxRecDepth 100000 in
theorem few_live {a : AcctD} {now : Int} (h : acctFew a) : acctFew (setH a (liveL (aH a) now)) :=
  few_setH h (Nat.le_trans (List.length_filter_le _ _) h.h) fun x hx => h.hi x (List.mem_filter.1 hx).1
set_option maxRecDepth 100000 in
theorem few_swept {a : AcctD} {now : Int} (h : acctFew a) : acctFew (acctSwept a now) := by
  unfold acctSwept
  split
  · exact few_live h
  · exact h
set_option maxRecDepth 100000 in
theorem few_add {a : AcctD} {now n : Int} (h : acctFew a) : (ringAdd (aR a) now n).2.2.1.length ≤ 8 ∧ (ringAdd (aR a) now n).2.2.2.length ≤ 8 := by
  obtain ⟨r1, r2⟩ := ringRoll_lens (aR a) now
  have := h.c
  have := h.s
  unfold ringAdd
  split
  · simp only [addOne, List.length_set]; omega
  · omega
set_option maxRecDepth 100000 in
theorem few_put {l : List HoldD} {x : HoldD} : (putH l x).1.length ≤ 4 ∧ ∀ y ∈ (putH l x).1, y.1.size ≤ 6 := by
  cases hk : (putH l x).2
  · unfold putH at hk ⊢
    split
    · rename_i h1
      rw [if_pos h1] at hk
      cases hk
    · simp
  · exact holdsOk_small (putH_ok hk)
set_option maxRecDepth 100000 in
theorem few_amt {l : List HoldD} {k : Nat} {n : Int} (h1 : l.length ≤ 4) (h2 : ∀ x ∈ l, x.1.size ≤ 6) : (amtAt l k n).length ≤ 4 ∧ ∀ x ∈ amtAt l k n, x.1.size ≤ 6 := by
  unfold amtAt
  refine ⟨by rw [List.length_set]; exact h1, fun x hx => ?_⟩
  rcases List.mem_or_eq_of_mem_set hx with hx | rfl
  · exact h2 x hx
  · show (l.getD k noH).1.size ≤ 6
    rw [List.getD_eq_getElem?_getD]
    cases hk : l[k]? with
    | none => exact Nat.zero_le _
    | some y => exact h2 y (List.mem_of_getElem? hk)
set_option maxRecDepth 100000 in
theorem few_drop {l : List HoldD} {id : ByteArray} (h1 : l.length ≤ 4) (h2 : ∀ x ∈ l, x.1.size ≤ 6) : (dropL l id).length ≤ 4 ∧ ∀ x ∈ dropL l id, x.1.size ≤ 6 :=
  ⟨Nat.le_trans (List.length_filter_le _ _) h1, fun x hx => h2 x (List.mem_filter.1 hx).1⟩
set_option maxRecDepth 100000 in
theorem form_ok {a : AcctD} {id : ByteArray} {now : Int} (h : formB a id now = true) : acctOk a = true := by
  unfold formB at h
  simp only [Bool.and_eq_true] at h
  exact h.1
set_option maxRecDepth 100000 in
theorem few_auth (a : AcctD) (id : ByteArray) (n ttl now : Int) : acctFew (authL a id n ttl now).1 := by
  unfold authL
  split
  · exact few_nil
  · rename_i hf
    have h := few_swept (now := now) (acctOk_few (form_ok (by simpa using hf)))
    split
    · exact few_nil
    · unfold authOn
      split
      · exact few_nil
      · split
        · exact few_nil
        · split
          · exact few_nil
          · exact few_setR (few_setH h few_put.1 few_put.2) (few_add h).1 (few_add h).2
set_option maxRecDepth 100000 in
theorem few_more (a : AcctD) (id : ByteArray) (n now : Int) : acctFew (moreL a id n now).1 := by
  unfold moreL
  split
  · exact few_nil
  · rename_i hf
    have h := few_swept (now := now) (acctOk_few (form_ok (by simpa using hf)))
    split
    · exact few_nil
    · unfold moreOn
      split
      · exact few_nil
      · split
        · exact few_nil
        · exact few_setR (few_setH h (few_amt h.h h.hi).1 (few_amt h.h h.hi).2) (few_add h).1 (few_add h).2
set_option maxRecDepth 100000 in
theorem few_cap (a : AcctD) (id : ByteArray) (n : Int) (last : Bool) (now : Int) : acctFew (capL a id n last now).1 := by
  unfold capL
  split
  · exact few_nil
  · rename_i hf
    have h := few_swept (now := now) (acctOk_few (form_ok (by simpa using hf)))
    split
    · exact few_nil
    · unfold capOn
      split
      · exact few_nil
      · split
        · exact few_nil
        · split
          · exact few_setH (few_setP h) (few_drop h.h h.hi).1 (few_drop h.h h.hi).2
          · exact few_setH (few_setP h) (few_amt h.h h.hi).1 (few_amt h.h h.hi).2
set_option maxRecDepth 100000 in
theorem few_free (a : AcctD) (id : ByteArray) (now : Int) : acctFew (frL a id now).1 := by
  unfold frL
  split
  · exact few_nil
  · rename_i hf
    have h := few_swept (now := now) (acctOk_few (form_ok (by simpa using hf)))
    unfold frOn
    split
    · exact few_nil
    · exact few_setH h (few_drop h.h h.hi).1 (few_drop h.h h.hi).2
set_option maxRecDepth 100000 in
theorem few_sweep (a : AcctD) (now : Int) : acctFew (sweepL a now).1 := by
  unfold sweepL
  split
  · exact few_nil
  · rename_i hf
    have hk : acctOk a = true := by
      have : (acctOk a && timeB now) = true := by simpa using hf
      simp only [Bool.and_eq_true] at this
      exact this.1
    exact few_swept (acctOk_few hk)
end Go.Proofs.YtnmijppppcgobaaGreatDoor
set_option linter.unusedVariables false
namespace Go.Proofs.YtnmijppppcgobaaGreatDoor
open Go.ChangeShapes Go.WideShapes Go.ChangeAt Go.RowKit

set_option maxRecDepth 100000 in
theorem bl_irrefl : ∀ a : List UInt8, Op.bytesLess a a = false
  | [] => rfl
  | x :: a => by
    have h := bl_irrefl a
    simp [Op.bytesLess, h]
set_option maxRecDepth 100000 in
theorem bl_trans : ∀ a b c : List UInt8, Op.bytesLess a b = true → Op.bytesLess b c = true → Op.bytesLess a c = true
  | [], _, [] => by intro _ h; cases ‹List UInt8› <;> simp [Op.bytesLess] at h
  | [], _, _ :: _ => by intros; rfl
  | _ :: _, [], _ => by intro h; simp [Op.bytesLess] at h
  | _ :: _, _ :: _, [] => by intro _ h; simp [Op.bytesLess] at h
  | x :: a, y :: b, z :: c => by
    have ih := bl_trans a b c
    simp only [Op.bytesLess, Bool.or_eq_true, Bool.and_eq_true, decide_eq_true_eq, beq_iff_eq]
    rintro (h1 | ⟨rfl, h1⟩) (h2 | ⟨rfl, h2⟩)
    · exact .inl (UInt8.lt_trans h1 h2)
    · exact .inl h1
    · exact .inl h2
    · exact .inr ⟨rfl, ih h1 h2⟩
set_option maxRecDepth 100000 in
/-- the three ways in which two strings lie -/
theorem bl_cmp : ∀ a b : List UInt8, (Lib.compareBytes a b = -1 ∧ Op.bytesLess a b = true ∧ Op.bytesLess b a = false ∧ a ≠ b) ∨ (Lib.compareBytes a b = 0 ∧ a = b) ∨ (Lib.compareBytes a b = 1 ∧ Op.bytesLess b a = true ∧ Op.bytesLess a b = false ∧ a ≠ b)
  | [], [] => .inr (.inl ⟨rfl, rfl⟩)
  | [], _ :: _ => .inl ⟨rfl, rfl, rfl, by simp⟩
  | _ :: _, [] => .inr (.inr ⟨rfl, rfl, rfl, by simp⟩)
  | x :: a, y :: b => by
    unfold Lib.compareBytes
    by_cases h1 : x < y
    · have h2 : ¬ y < x := UInt8.lt_asymm h1
      have h3 : x ≠ y := UInt8.ne_of_lt h1
      exact .inl ⟨by simp [h1], by simp [Op.bytesLess, h1], by simp [Op.bytesLess, h2, h3.symm], by simp [h3]⟩
    · by_cases h2 : y < x
      · have h3 : y ≠ x := UInt8.ne_of_lt h2
        exact .inr (.inr ⟨by simp [h1, h2], by simp [Op.bytesLess, h2], by simp [Op.bytesLess, h1, h3.symm], by simp [h3.symm]⟩)
      · obtain rfl : x = y := UInt8.le_antisymm (UInt8.not_lt.1 h2) (UInt8.not_lt.1 h1)
        have ih := bl_cmp a b
        simpa [Op.bytesLess, h1] using ih
set_option maxRecDepth 100000 in
theorem str_cmp (a b : ByteArray) : (Lib.compareBytes a.data.toList b.data.toList = -1 ∧ strLt a b = true ∧ strLt b a = false ∧ a ≠ b) ∨ (Lib.compareBytes a.data.toList b.data.toList = 0 ∧ a = b) ∨ (Lib.compareBytes a.data.toList b.data.toList = 1 ∧ strLt b a = true ∧ strLt a b = false ∧ a ≠ b) := by
  have h := bl_cmp a.toList b.toList
  unfold strLt
  have e1 : a.data.toList = a.toList := (Lib.toList_data a).symm
  have e2 : b.data.toList = b.toList := (Lib.toList_data b).symm
  rw [e1, e2]
  rcases h with ⟨h1, h2, h3, h4⟩ | ⟨h1, h2⟩ | ⟨h1, h2, h3, h4⟩
  · exact .inl ⟨h1, h2, h3, fun e => h4 (by rw [e])⟩
  · exact .inr (.inl ⟨h1, str_eq_list.1 h2⟩)
  · exact .inr (.inr ⟨h1, h2, h3, fun e => h4 (by rw [e])⟩)
set_option maxRecDepth 100000 in
theorem strLt_irrefl (a : ByteArray) : strLt a a = false := bl_irrefl _
set_option maxRecDepth 100000 in
theorem strLt_trans {a b c : ByteArray} (h1 : strLt a b = true) (h2 : strLt b c = true) : strLt a c = true := bl_trans _ _ _ h1 h2
set_option maxRecDepth 100000 in
theorem strLt_ne {a b : ByteArray} (h : strLt a b = true) : a ≠ b := fun e => by rw [e, strLt_irrefl] at h; exact Bool.false_ne_true h
set_option maxRecDepth 100000 in
theorem strLt_other {a b : ByteArray} (hne : a ≠ b) (h : strLt a b = false) : strLt b a = true := by
  rcases str_cmp a b with ⟨_, h2, _⟩ | ⟨_, h2⟩ | ⟨_, h2, _⟩
  · rw [h2] at h; exact absurd h (by simp)
  · exact absurd h2 hne
  · exact h2
/-- ascending by id -/
def ascH (l : List HoldD) : Prop := l.Pairwise fun x y => strLt x.1 y.1 = true
set_option maxRecDepth 100000 in
theorem holdsOk_asc {l : List HoldD} (h : holdsOk l = true) : ascH l := by
  unfold holdsOk at h
  simp only [Bool.and_eq_true, List.all_eq_true, List.mem_range] at h
  have h1 := h.1
  unfold ascH
  rw [List.pairwise_iff_getElem]
  intro i j hi hj hij
  obtain ⟨d, rfl⟩ : ∃ d, j = i + 1 + d := ⟨j - (i + 1), by omega⟩
  clear hij
  induction d with
  | zero =>
    have := h1 (i + 1) (by omega)
    unfold holdAtOk at this
    simp only [Bool.and_eq_true] at this
    have h2 := this.2
    simpa [List.getD_eq_getElem?_getD, List.getElem?_eq_getElem hi, List.getElem?_eq_getElem hj] using h2
  | succ d ih =>
    have h3 := ih (by omega)
    have := h1 (i + 1 + (d + 1)) (by omega)
    unfold holdAtOk at this
    simp only [Bool.and_eq_true] at this
    have h2 := this.2
    have hj' : i + 1 + d < l.length := by omega
    have e : i + 1 + (d + 1) - 1 = i + 1 + d := by omega
    rw [e] at h2
    have h4 : strLt l[i + 1 + d].1 l[i + 1 + (d + 1)].1 = true := by
      simpa [List.getD_eq_getElem?_getD, List.getElem?_eq_getElem hj', List.getElem?_eq_getElem hj] using h2
    exact strLt_trans h3 h4
/-- what is put in, from the front -/
def insR (h : HoldD) : List HoldD → List HoldD
  | [] => [h]
  | x :: l => if strLt x.1 h.1 = true then x :: insR h l else h :: (x :: l).filter fun y => decide (y.1 ≠ h.1)
set_option maxRecDepth 100000 in
theorem ins_done (h : HoldD) : ∀ (l acc : List HoldD), l.foldl (insOne h) (acc, true) = (acc ++ l.filter fun y => decide (y.1 ≠ h.1), true)
  | [], acc => by simp
  | x :: l, acc => by
    rw [List.foldl_cons]
    have e : insOne h (acc, true) x = (acc ++ (if x.1 = h.1 then [] else [x]), true) := by simp [insOne]
    rw [e, ins_done h l]
    by_cases hx : x.1 = h.1 <;> simp [hx]
set_option maxRecDepth 100000 in
theorem ins_from (h : HoldD) : ∀ (l acc : List HoldD), (if (l.foldl (insOne h) (acc, false)).2 = true then (l.foldl (insOne h) (acc, false)).1 else (l.foldl (insOne h) (acc, false)).1 ++ [h]) = acc ++ insR h l
  | [], acc => by simp [insR]
  | x :: l, acc => by
    rw [List.foldl_cons]
    cases hlt : strLt x.1 h.1
    · have e : insOne h (acc, false) x = (acc ++ [h] ++ (if x.1 = h.1 then [] else [x]), true) := by simp [insOne, hlt]
      rw [e, ins_done]
      by_cases hx : x.1 = h.1 <;> simp [insR, hlt, hx, strLt_irrefl]
    · have e : insOne h (acc, false) x = (acc ++ [x], false) := by simp [insOne, hlt, strLt_ne hlt]
      rw [e, ins_from h l]
      simp [insR, hlt]
set_option maxRecDepth 100000 in
theorem insL_eq (l : List HoldD) (h : HoldD) : insL l h = insR h l := by
  have := ins_from h l []
  rw [List.nil_append] at this
  exact this
/-- the place of an id, where no element has it -/
def placeH (l : List HoldD) (id : ByteArray) : Nat := (l.findIdx? fun x => strLt id x.1).getD l.length
/-- the element with this id and true, or the place of the id and false -/
def searchH (l : List HoldD) (id : ByteArray) : Nat × Bool := match l.findIdx? (fun x => decide (x.1 = id)) with | some i => (i, true) | none => (placeH l id, false)
set_option maxRecDepth 100000 in
theorem placeH_le (l : List HoldD) (id : ByteArray) : placeH l id ≤ l.length := by
  unfold placeH
  cases h : l.findIdx? fun x => strLt id x.1 with
  | none => exact Nat.le_refl _
  | some i => exact Nat.le_of_lt (List.findIdx?_eq_some_iff_getElem.1 h).1
set_option maxRecDepth 100000 in
theorem searchH_le (l : List HoldD) (id : ByteArray) : (searchH l id).1 ≤ l.length := by
  unfold searchH
  cases h : l.findIdx? fun x => decide (x.1 = id) with
  | none => exact placeH_le l id
  | some i => exact Nat.le_of_lt (List.findIdx?_eq_some_iff_getElem.1 h).1
set_option maxRecDepth 100000 in
theorem searchH_lt (l : List HoldD) (id : ByteArray) (hs : (searchH l id).2 = true) : (searchH l id).1 < l.length := by
  revert hs
  unfold searchH
  cases h : l.findIdx? fun x => decide (x.1 = id) with
  | none => intro hs; exact absurd hs (by simp)
  | some i => intro _; exact (List.findIdx?_eq_some_iff_getElem.1 h).1
set_option maxRecDepth 100000 in
theorem findH_search (l : List HoldD) (id : ByteArray) : findH l id = if (searchH l id).2 = true then ((searchH l id).1 : Int) else -1 := by
  unfold findH searchH
  cases l.findIdx? fun x => decide (x.1 = id) <;> simp
set_option maxRecDepth 100000 in
theorem filter_ne {h : HoldD} {l : List HoldD} (hl : ∀ y ∈ l, y.1 ≠ h.1) : (l.filter fun y => decide (y.1 ≠ h.1)) = l := List.filter_eq_self.2 fun y hy => decide_eq_true (hl y hy)
set_option maxRecDepth 100000 in
theorem insR_found (h : HoldD) : ∀ (l : List HoldD) (i : Nat), ascH l → (l.findIdx? fun x => decide (x.1 = h.1)) = some i → insR h l = l.take i ++ h :: l.drop (i + 1)
  | [], i, _, hf => by simp at hf
  | x :: l, i, ha, hf => by
    obtain ⟨ha1, ha2⟩ := List.pairwise_cons.1 ha
    rw [List.findIdx?_cons] at hf
    by_cases hx : x.1 = h.1
    · rw [if_pos (decide_eq_true hx)] at hf
      cases hf
      have hlt : strLt x.1 h.1 = false := by rw [hx, strLt_irrefl]
      have hne : ∀ y ∈ l, y.1 ≠ h.1 := fun y hy => by have := strLt_ne (ha1 y hy); rw [hx] at this; exact this.symm
      simp only [insR, hlt, Bool.false_eq_true, if_false, List.take_zero, List.nil_append, List.drop_succ_cons, List.drop_zero]
      rw [List.filter_cons_of_neg (by simp [hx]), filter_ne hne]
    · rw [if_neg (by simp [hx])] at hf
      obtain ⟨k, hk, rfl⟩ : ∃ k, (l.findIdx? fun x => decide (x.1 = h.1)) = some k ∧ k + 1 = i := by
        cases hk : l.findIdx? fun x => decide (x.1 = h.1) with
        | none => rw [hk] at hf; simp at hf
        | some k => rw [hk] at hf; exact ⟨k, rfl, by simpa using hf⟩
      obtain ⟨hkl, hke, -⟩ := List.findIdx?_eq_some_iff_getElem.1 hk
      have hlt : strLt x.1 h.1 = true := by
        have h1 := ha1 l[k] (List.getElem_mem hkl)
        rw [of_decide_eq_true hke] at h1
        exact h1
      simp only [insR, hlt, if_true, List.take_succ_cons, List.drop_succ_cons, List.cons_append]
      rw [insR_found h l k ha2 hk]
set_option maxRecDepth 100000 in
theorem insR_place (h : HoldD) : ∀ (l : List HoldD), (l.findIdx? fun x => decide (x.1 = h.1)) = none → insR h l = l.take (placeH l h.1) ++ h :: l.drop (placeH l h.1)
  | [], _ => by simp [insR]
  | x :: l, hf => by
    have hall := List.findIdx?_eq_none_iff.1 hf
    have hne : ∀ y ∈ x :: l, y.1 ≠ h.1 := fun y hy => of_decide_eq_false (hall y hy)
    have hx := hne x (List.mem_cons_self ..)
    cases hlt : strLt x.1 h.1
    · have hg := strLt_other hx hlt
      have hp : placeH (x :: l) h.1 = 0 := by unfold placeH; rw [List.findIdx?_cons, if_pos hg]; rfl
      rw [hp]
      simp only [insR, hlt, Bool.false_eq_true, if_false, List.take_zero, List.nil_append, List.drop_zero]
      rw [filter_ne hne]
    · have hg : strLt h.1 x.1 = false := by
        cases hc : strLt h.1 x.1 with
        | false => rfl
        | true => have := strLt_trans hlt hc; rw [strLt_irrefl] at this; exact absurd this (by simp)
      have hp : placeH (x :: l) h.1 = placeH l h.1 + 1 := by
        unfold placeH
        rw [List.findIdx?_cons, if_neg (by simp [hg])]
        cases l.findIdx? fun x => strLt h.1 x.1 <;> simp
      have hf2 : (l.findIdx? fun x => decide (x.1 = h.1)) = none := List.findIdx?_eq_none_iff.2 fun y hy => hall y (List.mem_cons_of_mem _ hy)
      rw [hp]
      simp only [insR, hlt, if_true, List.take_succ_cons, List.drop_succ_cons, List.cons_append]
      rw [insR_place h l hf2]
set_option maxRecDepth 100000 in
theorem insL_search {l : List HoldD} {h : HoldD} (hk : holdsOk l = true) : insL l h = l.take (searchH l h.1).1 ++ h :: l.drop ((searchH l h.1).1 + if (searchH l h.1).2 = true then 1 else 0) := by
  rw [insL_eq]
  unfold searchH
  cases hf : l.findIdx? fun x => decide (x.1 = h.1) with
  | none => simpa using insR_place h l hf
  | some i => simpa using insR_found h l i (holdsOk_asc hk) hf
/-- the id before element i -/
def befH (l : List HoldD) (i : Nat) : ByteArray := if i = 0 then ⟨#[]⟩ else (l.getD (i - 1) noH).1
set_option maxRecDepth 100000 in
theorem idOk_ne {s : ByteArray} (h : idOk s = true) : strLt ⟨#[]⟩ s = true := by
  unfold idOk inB at h
  simp only [Bool.and_eq_true, decide_eq_true_eq] at h
  have h1 : s ≠ ⟨#[]⟩ := fun e => by rw [e] at h; have h2 : (1 : Int) ≤ ((⟨#[]⟩ : ByteArray).size : Int) := h.2.1; have e2 : (⟨#[]⟩ : ByteArray).size = 0 := rfl; omega
  rcases str_cmp ⟨#[]⟩ s with ⟨_, h2, _⟩ | ⟨_, h2⟩ | ⟨_, h2, _⟩
  · exact h2
  · exact absurd h2.symm h1
  · unfold strLt at h2
    have e : (⟨#[]⟩ : ByteArray).toList = [] := by rw [Lib.toList_data]
    rw [e] at h2
    cases s.toList <;> simp [Op.bytesLess] at h2
set_option maxRecDepth 100000 in
theorem holdAt_bef {l : List HoldD} {i : Nat} {x : HoldD} (hx : l[i]? = some x) : holdAtOk l i = (holdOk x && strLt (befH l i) x.1) := by
  unfold holdAtOk befH
  have e : l.getD i noH = x := by rw [List.getD_eq_getElem?_getD, hx]; rfl
  rw [e]
  cases hk : holdOk x
  · rfl
  · have hid : idOk x.1 = true := by unfold holdOk at hk; simp only [Bool.and_eq_true] at hk; exact hk.1
    by_cases h0 : i = 0
    · subst h0; simp [idOk_ne hid]
    · simp [h0]
set_option maxRecDepth 100000 in
theorem befH_next {l : List HoldD} {i : Nat} {x : HoldD} (hx : l[i]? = some x) : befH l (i + 1) = x.1 := by
  unfold befH
  rw [if_neg (by omega), Nat.add_sub_cancel, List.getD_eq_getElem?_getD, hx]; rfl
end Go.Proofs.YtnmijppppcgobaaGreatDoor
set_option linter.unusedVariables false
namespace Go.Proofs.YtnmijppppcgobaaGreatDoor
open Go.ChangeShapes Go.WideShapes Go.ChangeAt Go.RowKit

set_option maxRecDepth 100000 in
theorem specSat_still (a b : Int) (w : World) : Calls Tryz.prog 114 #[.int .i64 a, .int .i64 b] w fun e w' => e = .returned (.int .i64 (satVal a b)) ∧ w' = w :=
  (specSat_any a b w).mono fun _ _ h => ⟨h.1, h.2.symm⟩
set_option maxRecDepth 100000 in
set_option maxHeartbeats 6400000 in
theorem specRingAdd_any (hi : Nat) (vc vs : Value) (r : RingD) (now amount : Int) (w : World) (h1 : rd .i64 hi w vc r.2.2.1) (h2 : rd .i64 hi w vs r.2.2.2) (hh : hi ≤ w.heap.size) (hc : r.2.2.1.length ≤ 1048576) (hs : r.2.2.2.length ≤ 1048576) :
    Calls Tryz.prog 93 #[.agg #[.int .i64 r.1, .int .i64 r.2.1, vc, vs], .int .i64 now, .int .i64 amount] w (ringOne (ringAdd r now amount) w) := by
  obtain ⟨A1, c1, rfl, -⟩ := h1.form
  obtain ⟨A2, c2, rfl, -⟩ := h2.form
  have HCP := Lib.hid (fun W (hW : Below w.heap.size w W) => specCopy_any hi _ _ r W (h1.below hW hh) (h2.below hW hh) (Nat.le_trans hh hW.size) hc hs)
  have HOK := Lib.hid (fun W (hW : Below w.heap.size w W) => specRingOk_any hi _ _ r W (h1.below hW hh) (h2.below hW hh) (Nat.le_trans hh hW.size) hc hs)
  have HRO := Lib.hid (fun W (hW : Below w.heap.size w W) => specRingRoll_any hi _ _ r now W (h1.below hW hh) (h2.below hW hh) (Nat.le_trans hh hW.size) hc hs)
  have HTM := Lib.hid (fun W => specTime_any now W)
  have HMO := Lib.hid (fun W => l01Money_any amount W)
  clear h1 h2
  have HLEN := Lib.hid (fun h => ringOk_len (r := r) h)
  have HLC := Lib.hid (ringRoll_lc r now)
  have HLS := Lib.hid (ringRoll_ls r now)
  have HRA : Hid (ringAdd r now amount = if (ringOk r && (timeB now && isMon amount)) = true then ((ringRoll r now).1, (ringRoll r now).2.1, addOne (ringRoll r now).2.2.1 1, addOne (ringRoll r now).2.2.2 amount) else r) := Lib.hid rfl
  generalize ringOk r = ok at HOK HLEN HRA
  generalize timeB now = tm at HTM HRA
  generalize isMon amount = mo at HMO HRA
  generalize ringRoll r now = q at HRO HRA HLC HLS
  obtain ⟨sp, hd, cs, ss⟩ := r
  obtain ⟨qs, qh, qc, qu⟩ := q
  simp only at hc hs HCP HOK HRO HLEN HLC HLS HRA ⊢
  go_enter Tryz.func93, Tryz.ntmps93
  go_upto_region 1 with fail
  obtain ⟨W, hW⟩ : ∃ W, W = (w.alloc (.cells #[.int .i64 sp, .int .i64 hd, .slice A1 cs.length c1, .slice A2 ss.length c2] 26)).alloc (.cells #[.int .i64 0, .int .i64 0, .slice none 0 0, .slice none 0 0] 26) := ⟨_, rfl⟩
  have b0 : bk W w.heap.size 26 [.int .i64 sp, .int .i64 hd, .slice A1 cs.length c1, .slice A2 ss.length c2] := by rw [hW]; exact (bk.new w _ _).alloc _
  have b1 : bk W (w.heap.size + 1) 26 [.int .i64 0, .int .i64 0, .slice none 0 0, .slice none 0 0] := by rw [hW]; simpa using bk.new (w.alloc _) _ _
  have HB0 : Hid (Below w.heap.size w W) := Lib.hid (by rw [hW]; exact ((Below.refl _ _).alloc (Nat.le_refl _) _).alloc (by simp) _)
  have z0 : w.heap.size + 2 ≤ W.heap.size := by rw [hW]; simp
  rw [← hW]
  clear hW
  obtain ⟨⟨p0, p1, p2, p3⟩, -⟩ := b0.cells
  have B0 := Lib.hid b0
  have B1 := Lib.hid b1
  clear b0 b1
  go_cut [20] (fun cv wx => cv = .bool (!(ok && (tm && mo))) ∧ Below W.heap.size W wx)
  case first =>
    clear HLEN HLC HLS HRA HRO HCP
    cases ok
    · go_wp2_with fail
      refine (HOK.out W HB0.out).mono ?_
      rintro e w4 ⟨rfl, hb4⟩
      go_wp2
      go_meet
      exact ⟨rfl, hb4⟩
    cases tm
    · go_wp2_with fail
      refine (HOK.out W HB0.out).mono ?_
      rintro e w4 ⟨rfl, hb4⟩
      go_wp2_with fail
      refine (HTM.out _).mono ?_
      rintro e w5 ⟨rfl, rfl⟩
      go_wp2
      go_meet
      exact ⟨rfl, hb4⟩
    go_wp2_with fail
    refine (HOK.out W HB0.out).mono ?_
    rintro e w4 ⟨rfl, hb4⟩
    go_wp2_with fail
    refine (HTM.out _).mono ?_
    rintro e w5 ⟨rfl, rfl⟩
    go_wp2_with fail
    refine (HMO.out _).mono ?_
    rintro e w5 ⟨rfl, rfl⟩
    go_wp2
    go_meet
    exact ⟨rfl, hb4⟩
  case rest =>
    obtain ⟨rfl, hbc⟩ := hcut
    have b0 := B0.out.below hbc (by omega)
    have b1 := B1.out.below hbc (by omega)
    have zx := hbc.size
    have HBX : Hid (Below w.heap.size w wc) := Lib.hid (HB0.out.trans (hbc.mono (by omega)))
    clear hbc HB0 B0 B1 p0 p1 p2 p3 HOK HTM HMO
    obtain ⟨⟨p0, p1, p2, p3⟩, -⟩ := b0.cells
    cases hg : (ok && (tm && mo))
    · have HRF : Hid (ringAdd (sp, hd, cs, ss) now amount = (sp, hd, cs, ss)) := Lib.hid (by rw [HRA.out, hg]; rfl)
      clear HRA HRO HLC HLS hg HLEN b0
      go_wp2_with fail
      refine (HCP.out wc HBX.out).mono ?_
      rintro e w1 ⟨vc', vs', rfl, hm1, hb1⟩
      obtain ⟨uc, us, hv, hnc, hns, hap⟩ := ring_mine hm1
      simp only [List.cons.injEq, and_true, true_and] at hv
      obtain ⟨rfl, rfl⟩ := hv
      obtain ⟨AU, cU, rfl, -⟩ := hnc.form
      obtain ⟨AV, cV, rfl, -⟩ := hns.form
      have z1 := hb1.size
      replace b1 := b1.below hb1 (by omega)
      have HB1 : Hid (Below w.heap.size w w1) := Lib.hid (HBX.out.trans (hb1.mono (by omega)))
      have HU := Lib.hid hnc
      have HV := Lib.hid hns
      have HAP := Lib.hid hap
      clear hm1 hb1 hnc hns hap p0 p1 p2 p3
      obtain ⟨⟨r0, r1, r2, r3⟩, f0, f1, f2, f3⟩ := b1.cells
      clear b1
      go_wp2
      refine bodyPost_ret (v := .agg #[.int .i64 sp, .int .i64 hd, .slice AU cs.length cU, .slice AV ss.length cV]) (by simp [results, Tryz.results93, go_sem, r0, r1, r2, r3]) rfl ?_
      rw [HRF.out]
      have ht := ((((Turned.refl w.heap.size (w.heap.size + 2) w1).set (b := w.heap.size + 1) 0 (.int .i64 sp) (by omega) (by omega)).set (b := w.heap.size + 1) 1 (.int .i64 hd) (by omega) (by omega)).set (b := w.heap.size + 1) 2 (.slice AU cs.length cU) (by omega) (by omega)).set (b := w.heap.size + 1) 3 (.slice AV ss.length cV) (by omega) (by omega)
      have hsz := ht.size
      exact ⟨_, _, rfl, ring_mine_of ((HU.out.turned ht (.inr (by omega)) (by omega)).mono (by omega) (by omega)) ((HV.out.turned ht (.inr (by omega)) (by omega)).mono (by omega) (by omega)) HAP.out, HB1.out.trans (ht.below (Nat.le_refl _) (by omega))⟩
    · simp only [Bool.and_eq_true] at hg
      obtain ⟨rfl, rfl, rfl⟩ := hg
      obtain ⟨o1, o2, o3, o4, o5, o6, o7⟩ := HLEN.out rfl
      have o8 : 1 ≤ qc.length := by rw [HLC.out]; exact o3
      have o9 : 1 ≤ qu.length := by rw [HLS.out, o5]; exact o3
      have HRT : Hid (ringAdd (sp, hd, cs, ss) now amount = (qs, qh, addOne qc 1, addOne qu amount)) := Lib.hid (by rw [HRA.out]; rfl)
      clear HRA HLC HLS HLEN o5 HCP
      go_wp2_with fail
      refine (HRO.out wc HBX.out).mono ?_
      rintro e w1 ⟨vc', vs', rfl, hm1, hb1⟩
      obtain ⟨uc, us, hv, hnc, hns, hap⟩ := ring_mine hm1
      simp only [List.cons.injEq, and_true, true_and] at hv
      obtain ⟨rfl, rfl⟩ := hv
      obtain ⟨AU, cU, rfl, -⟩ := hnc.form
      obtain ⟨AV, cV, rfl, -⟩ := hns.form
      have z1 := hb1.size
      replace b1 := b1.below hb1 (by omega)
      have HB1 : Hid (Below w.heap.size w w1) := Lib.hid (HBX.out.trans (hb1.mono (by omega)))
      have HU := Lib.hid hnc
      have HV := Lib.hid hns
      have HAP := Lib.hid hap
      clear hm1 hb1 hnc hns hap p0 p1 p2 p3 b0 HBX HRO
      have hUl := HU.out.own_at (j := 0) o8
      obtain ⟨bu, ou, rfl, u1, u2, -, -, u3⟩ := hUl
      have hVl := HV.out.own_at (j := 0) o9
      obtain ⟨bv, ov, rfl, v1, v2, -, -, v3⟩ := hVl
      have HUV : Hid (bu ≠ bv) := Lib.hid fun e => HAP.out bu u3 (by rw [e]; exact v3)
      have HBU := Lib.hid u3
      have HBV := Lib.hid v3
      clear u3 v3
      go_upto_region 4 with fail
      obtain ⟨W2, hW2⟩ : ∃ W2, W2 = w1.alloc (.cells #[.int .i64 qs, .int .i64 qh, .slice (some ⟨bu, ou, none⟩) qc.length cU, .slice (some ⟨bv, ov, none⟩) qu.length cV] 26) := ⟨_, rfl⟩
      have b2 := bk.new w1 26 [.int .i64 qs, .int .i64 qh, .slice (some ⟨bu, ou, none⟩) qc.length cU, .slice (some ⟨bv, ov, none⟩) qu.length cV]
      have hb2 := (Below.refl w1.heap.size w1).alloc (Nat.le_refl _) (.cells #[.int .i64 qs, .int .i64 qh, .slice (some ⟨bu, ou, none⟩) qc.length cU, .slice (some ⟨bv, ov, none⟩) qu.length cV] 26)
      rw [show ([Value.int .i64 qs, .int .i64 qh, .slice (some ⟨bu, ou, none⟩) qc.length cU, .slice (some ⟨bv, ov, none⟩) qu.length cV] : List Value).toArray = #[.int .i64 qs, .int .i64 qh, .slice (some ⟨bu, ou, none⟩) qc.length cU, .slice (some ⟨bv, ov, none⟩) qu.length cV] from rfl] at b2
      rw [← hW2] at b2 hb2 ⊢
      clear hW2
      have z2 := b2.lt
      replace b1 := b1.below hb2 (by omega)
      have HB2 : Hid (Below w.heap.size w W2) := Lib.hid (HB1.out.trans (hb2.mono (by omega)))
      have HU := Lib.hid (HU.out.below hb2 (Nat.le_refl _))
      have HV := Lib.hid (HV.out.below hb2 (Nat.le_refl _))
      clear hb2 HB1
      obtain ⟨⟨p0, p1, p2, p3⟩, -⟩ := b2.cells
      have cf := HU.out.cell_at (j := 0) o8
      obtain ⟨x, hx⟩ : ∃ x, x = qc.getD 0 0 := ⟨_, rfl⟩
      rw [Nat.add_zero, ← hx] at cf
      have HX : Hid (addOne qc 1 = qc.set 0 (satVal x 1)) := Lib.hid (by rw [hx]; rfl)
      clear hx
      obtain ⟨cu, fu⟩ := cf
      have i0 : 0 < qc.length := by omega
      have y1 : bu ≠ w.heap.size + 1 := by omega
      have y2 : bu ≠ w1.heap.size := by omega
      have x1 : bv ≠ w.heap.size + 1 := by omega
      have x2 : bv ≠ w1.heap.size := by omega
      have BB1 := Lib.hid b1
      have BB2 := Lib.hid b2
      clear b1 b2
      refine wp_region_still_tail 8 (by kernel_rfl) (by kernel_rfl) ?_
      simp only [List.take_succ_cons, List.take_zero, List.drop_succ_cons, List.drop_zero]
      repeat still_step
      still_call (specSat_still _ _ _)
      repeat still_step
      refine wpStill_nil ?_
      change wpList _ _ _ _ _ W2.drew
      go_upto_region 5 with fail
      obtain ⟨W3, hW3⟩ : ∃ W3, W3 = (W2.setCell ⟨bu, ou, none⟩ (.int .i64 (satVal x 1))).drew := ⟨_, rfl⟩
      have BB1 := Lib.hid ((BB1.out.far (p := ⟨bu, ou, none⟩) (Ne.symm y1) (.int .i64 (satVal x 1))).drew)
      have BB2 := Lib.hid ((BB2.out.far (p := ⟨bu, ou, none⟩) (Ne.symm y2) (.int .i64 (satVal x 1))).drew)
      have hu2 := HU.out.set (j := 0) o8 (satVal x 1)
      rw [Nat.add_zero] at hu2
      have HU := Lib.hid (hu2.below (Below.refl w1.heap.size _).drew (Nat.le_refl _))
      have HV := Lib.hid ((HV.out.far (g := bu) (o := ou) (.int .i64 (satVal x 1)) (by rw [HBV.out]; exact fun e => HUV.out (Option.some.inj e).symm)).below (Below.refl w1.heap.size _).drew (Nat.le_refl _))
      have HB3 := Lib.hid ((HB2.out.setCell (p := ⟨bu, ou, none⟩) (show w.heap.size ≤ bu by omega) (.int .i64 (satVal x 1))).drew)
      have z3 : W2.heap.size ≤ ((W2.setCell ⟨bu, ou, none⟩ (.int .i64 (satVal x 1))).drew).heap.size := by show _ ≤ (W2.setCell _ _).heap.size; simp
      rw [← hW3] at BB1 BB2 HU HV HB3 z3 ⊢
      clear hW3 p0 p1 p2 p3 cu fu hu2 HB2
      obtain ⟨⟨p0, p1, p2, p3⟩, -⟩ := BB2.out.cells
      have cf := HV.out.cell_at (j := 0) o9
      obtain ⟨y, hy⟩ : ∃ y, y = qu.getD 0 0 := ⟨_, rfl⟩
      rw [Nat.add_zero, ← hy] at cf
      have HY : Hid (addOne qu amount = qu.set 0 (satVal y amount)) := Lib.hid (by rw [hy]; rfl)
      clear hy
      obtain ⟨cv, fv⟩ := cf
      have i1 : 0 < qu.length := by omega
      refine wp_region_still_tail 9 (by kernel_rfl) (by kernel_rfl) ?_
      simp only [List.take_succ_cons, List.take_zero, List.drop_succ_cons, List.drop_zero]
      repeat still_step
      still_call (specSat_still _ _ _)
      repeat still_step
      refine wpStill_nil ?_
      change wpList _ _ _ _ _ W3.drew
      go_upto_region 6 with fail
      obtain ⟨W4, hW4⟩ : ∃ W4, W4 = (W3.setCell ⟨bv, ov, none⟩ (.int .i64 (satVal y amount))).drew := ⟨_, rfl⟩
      have BB1 := Lib.hid ((BB1.out.far (p := ⟨bv, ov, none⟩) (Ne.symm x1) (.int .i64 (satVal y amount))).drew)
      have BB2 := Lib.hid ((BB2.out.far (p := ⟨bv, ov, none⟩) (Ne.symm x2) (.int .i64 (satVal y amount))).drew)
      have hv2 := HV.out.set (j := 0) o9 (satVal y amount)
      rw [Nat.add_zero] at hv2
      have HV := Lib.hid (hv2.below (Below.refl w1.heap.size _).drew (Nat.le_refl _))
      have HU := Lib.hid ((HU.out.far (g := bv) (o := ov) (.int .i64 (satVal y amount)) (by rw [HBU.out]; exact fun e => HUV.out (Option.some.inj e))).below (Below.refl w1.heap.size _).drew (Nat.le_refl _))
      have HB4 := Lib.hid ((HB3.out.setCell (p := ⟨bv, ov, none⟩) (show w.heap.size ≤ bv by omega) (.int .i64 (satVal y amount))).drew)
      have z4 : W3.heap.size ≤ ((W3.setCell ⟨bv, ov, none⟩ (.int .i64 (satVal y amount))).drew).heap.size := by show _ ≤ (W3.setCell _ _).heap.size; simp
      rw [← hW4] at BB1 BB2 HU HV HB4 z4 ⊢
      clear hW4 p0 p1 p2 p3 cv fv hv2 HB3
      obtain ⟨⟨p0, p1, p2, p3⟩, -⟩ := BB2.out.cells
      obtain ⟨⟨r0, r1, r2, r3⟩, f0, f1, f2, f3⟩ := BB1.out.cells
      go_wp2
      refine bodyPost_ret (v := .agg #[.int .i64 qs, .int .i64 qh, .slice (some ⟨bu, ou, none⟩) qc.length cU, .slice (some ⟨bv, ov, none⟩) qu.length cV]) (by simp [results, Tryz.results93, go_sem, r0, r1, r2, r3]) rfl ?_
      rw [HRT.out]
      have ht := ((((Turned.refl w.heap.size (w.heap.size + 2) W4).set (b := w.heap.size + 1) 0 (.int .i64 qs) (by omega) (by omega)).set (b := w.heap.size + 1) 1 (.int .i64 qh) (by omega) (by omega)).set (b := w.heap.size + 1) 2 (.slice (some ⟨bu, ou, none⟩) qc.length cU) (by omega) (by omega)).set (b := w.heap.size + 1) 3 (.slice (some ⟨bv, ov, none⟩) qu.length cV) (by omega) (by omega)
      have hsz := ht.size
      rw [HX.out, HY.out]
      exact ⟨_, _, rfl, ring_mine_of ((HU.out.turned ht (.inr (by omega)) (by omega)).mono (by omega) (by omega)) ((HV.out.turned ht (.inr (by omega)) (by omega)).mono (by omega) (by omega)) HAP.out, HB4.out.trans (ht.below (Nat.le_refl _) (by omega))⟩
end Go.Proofs.YtnmijppppcgobaaGreatDoor
set_option linter.unusedVariables false
namespace Go.Proofs.YtnmijppppcgobaaGreatDoor
open Go.ChangeShapes Go.WideShapes Go.ChangeAt Go.RowKit

set_option maxRecDepth 100000 in
theorem shiftL_mon {k : Nat} {l : List Int} (h : l.all isMon = true) : (shiftL k l).all isMon = true := by
  rw [List.all_eq_true] at h ⊢
  intro x hx
  unfold shiftL at hx
  obtain ⟨i, hi, rfl⟩ := List.mem_map.1 hx
  rw [List.mem_range] at hi
  split
  · rw [List.getD_eq_getElem?_getD, List.getElem?_eq_getElem (by omega : i - k < l.length)]
    exact h _ (List.getElem_mem _)
  · decide
set_option maxRecDepth 100000 in
theorem satVal_mon (a b : Int) : isMon (satVal a b) = true := by
  have ha := clampM_bd a
  have hb := clampM_bd b
  unfold satVal
  split
  · rename_i h
    simp [addOk, isMon] at h
    simp [isMon]; omega
  · decide
set_option maxRecDepth 100000 in
theorem addOne_mon {l : List Int} {n : Int} (h : l.all isMon = true) : (addOne l n).all isMon = true := by
  rw [List.all_eq_true] at h ⊢
  intro x hx
  unfold addOne at hx
  rcases List.mem_or_eq_of_mem_set hx with hx | rfl
  · exact h x hx
  · exact satVal_mon _ _
set_option maxRecDepth 100000 in
theorem ring_ok_parts {r : RingD} (h : ringOk r = true) : inB r.1 1 1000 = true ∧ inB (r.2.2.1.length : Int) 1 8 = true ∧ r.2.2.2.length = r.2.2.1.length ∧ timeB r.2.1 = true ∧ r.2.2.1.all isMon = true ∧ r.2.2.2.all isMon = true := by
  unfold ringOk ringHead at h
  simp only [Bool.and_eq_true, decide_eq_true_eq] at h
  exact ⟨h.1.1, h.1.2.1, h.1.2.2.1, h.1.2.2.2, h.2.1, h.2.2⟩
set_option maxRecDepth 100000 in
theorem ring_ok_of {r : RingD} (h1 : inB r.1 1 1000 = true) (h2 : inB (r.2.2.1.length : Int) 1 8 = true) (h3 : r.2.2.2.length = r.2.2.1.length) (h4 : timeB r.2.1 = true) (h5 : r.2.2.1.all isMon = true) (h6 : r.2.2.2.all isMon = true) : ringOk r = true := by
  unfold ringOk ringHead
  simp [h1, h2, h3, h4, h5, h6]
set_option maxRecDepth 100000 in
theorem ringRoll_ok {r : RingD} {now : Int} (h : ringOk r = true) (ht : timeB now = true) : ringOk (ringRoll r now) = true := by
  unfold ringRoll
  split
  · obtain ⟨h1, h2, h3, h4, h5, h6⟩ := ring_ok_parts h
    refine ring_ok_of h1 (by simpa [shiftL_len] using h2) (by simp [shiftL_len, h3]) ?_ (shiftL_mon h5) (shiftL_mon h6)
    have a1 : 1 ≤ r.1 ∧ r.1 ≤ 1000 := by simpa [inB] using h1
    have a2 : 0 ≤ now ∧ now ≤ 1000000000 := by simpa [timeB, inB] using ht
    have a3 : 0 ≤ now / r.1 := Int.ediv_nonneg a2.1 (by omega)
    have a4 : now / r.1 ≤ now := Int.ediv_le_self _ a2.1
    simp [timeB, inB]
    omega
  · exact h
set_option maxRecDepth 100000 in
theorem ringAdd_ok {r : RingD} {now amount : Int} (h : ringOk r = true) : ringOk (ringAdd r now amount) = true := by
  unfold ringAdd
  split
  · rename_i hi
    unfold ringIn at hi
    simp only [Bool.and_eq_true] at hi
    obtain ⟨h1, h2, h3, h4, h5, h6⟩ := ring_ok_parts (ringRoll_ok h hi.2.1)
    exact ring_ok_of h1 (by simpa [addOne] using h2) (by simp [addOne, h3]) h4 (addOne_mon h5) (addOne_mon h6)
  · exact h
set_option maxRecDepth 100000 in
theorem ring_ok_len {r : RingD} (h : ringOk r = true) : r.2.2.1.length ≤ 8 ∧ r.2.2.2.length ≤ 8 := by
  obtain ⟨h1, h2, h3, h4, h5, h6⟩ := ring_ok_parts h
  have a2 : (1 : Int) ≤ (r.2.2.1.length : Int) ∧ (r.2.2.1.length : Int) ≤ 8 := by simpa [inB] using h2
  omega
set_option maxRecDepth 100000 in
theorem ringNew_right {n sp : Int} (h1 : 1 ≤ n) (h2 : n ≤ 8) (h3 : 1 ≤ sp) (h4 : sp ≤ 1000) : (ringNew n sp).2 = true ∧ ringOk (ringNew n sp).1 = true := by
  have e1 : inB n 1 8 = true := decide_eq_true ⟨h1, h2⟩
  have e2 : inB sp 1 1000 = true := decide_eq_true ⟨h3, h4⟩
  unfold ringNew
  rw [e1, e2]
  refine ⟨rfl, ring_ok_of e2 ?_ (by simp) (show timeB 0 = true by decide) ?_ ?_⟩
  · show inB ((List.replicate n.toNat (0 : Int)).length : Int) 1 8 = true
    rw [List.length_replicate]
    exact decide_eq_true ⟨by omega, by omega⟩
  · show (List.replicate n.toNat (0 : Int)).all isMon = true
    rw [List.all_replicate]; simp; right; decide
  · show (List.replicate n.toNat (0 : Int)).all isMon = true
    rw [List.all_replicate]; simp; right; decide
end Go.Proofs.YtnmijppppcgobaaGreatDoor
set_option linter.unusedVariables false
namespace Go.Proofs.YtnmijppppcgobaaGreatDoor
open Go.ChangeShapes Go.WideShapes Go.ChangeAt Go.RowKit

set_option maxRecDepth 100000 in
theorem holdsOk_iff {l : List HoldD} : holdsOk l = true ↔ ascH l ∧ (∀ x ∈ l, holdOk x = true) ∧ l.length ≤ 4 := by
  constructor
  · intro h
    refine ⟨holdsOk_asc h, fun x hx => ?_, (holdsOk_small h).1⟩
    obtain ⟨i, hi, rfl⟩ := List.getElem_of_mem hx
    unfold holdsOk at h
    simp only [Bool.and_eq_true, List.all_eq_true, List.mem_range] at h
    have h1 := h.1 i hi
    unfold holdAtOk at h1
    simp only [Bool.and_eq_true] at h1
    simpa [List.getD_eq_getElem?_getD, List.getElem?_eq_getElem hi] using h1.1
  · rintro ⟨h1, h2, h3⟩
    unfold holdsOk
    simp only [Bool.and_eq_true, List.all_eq_true, List.mem_range, decide_eq_true_eq]
    refine ⟨fun i hi => ?_, h3⟩
    unfold holdAtOk
    simp only [Bool.and_eq_true, Bool.or_eq_true, decide_eq_true_eq]
    have e : l.getD i noH = l[i] := by rw [List.getD_eq_getElem?_getD, List.getElem?_eq_getElem hi]; rfl
    rw [e]
    refine ⟨h2 _ (List.getElem_mem hi), ?_⟩
    by_cases h0 : i = 0
    · exact .inl h0
    · right
      have e2 : l.getD (i - 1) noH = l[i - 1] := by rw [List.getD_eq_getElem?_getD, List.getElem?_eq_getElem (by omega : i - 1 < l.length)]; rfl
      rw [e2]
      exact List.pairwise_iff_getElem.1 h1 (i - 1) i (by omega) hi (by omega)
set_option maxRecDepth 100000 in
theorem holdsOk_sub {l m : List HoldD} (h : holdsOk l = true) (hs : m.Sublist l) : holdsOk m = true := by
  obtain ⟨h1, h2, h3⟩ := holdsOk_iff.1 h
  exact holdsOk_iff.2 ⟨List.Pairwise.sublist hs h1, fun x hx => h2 x (hs.subset hx), Nat.le_trans hs.length_le h3⟩
set_option maxRecDepth 100000 in
theorem hold_nums {x : HoldD} (h : holdOk x = true) : idOk x.1 = true ∧ 1 ≤ x.2.1 ∧ x.2.1 ≤ 9007199254740992 ∧ timeB x.2.2 = true := by
  unfold holdOk inB at h
  simp only [Bool.and_eq_true, decide_eq_true_eq] at h
  exact ⟨h.1, h.2.1.1, h.2.1.2, h.2.2⟩
set_option maxRecDepth 100000 in
theorem hold_of {x : HoldD} (h1 : idOk x.1 = true) (h2 : 1 ≤ x.2.1) (h3 : x.2.1 ≤ 9007199254740992) (h4 : timeB x.2.2 = true) : holdOk x = true := by
  unfold holdOk inB
  simp [h1, h2, h3, h4]
def sumH (l : List HoldD) : Int := (l.map fun x => x.2.1).sum
set_option maxRecDepth 100000 in
theorem sumH_cons (x : HoldD) (l : List HoldD) : sumH (x :: l) = x.2.1 + sumH l := by simp [sumH]
set_option maxRecDepth 100000 in
theorem satVal_add {a b : Int} (ha : 0 ≤ a) (hb : 0 ≤ b) (h : a + b ≤ 4611686018427387904) : satVal a b = a + b := by
  have e1 : clampM a = a := by unfold clampM; rw [if_neg (by omega), if_neg (by omega)]
  have e2 : clampM b = b := by unfold clampM; rw [if_neg (by omega), if_neg (by omega)]
  unfold satVal addOk isMon
  rw [e1, e2, if_pos]
  simp only [Bool.and_eq_true, decide_eq_true_eq]
  omega
set_option maxRecDepth 100000 in
theorem satVal_min {a b : Int} (ha : 0 ≤ a) (ha' : a ≤ 4611686018427387904) (hb : 0 ≤ b) (hb' : b ≤ 4611686018427387904) : satVal a b = min (a + b) 4611686018427387904 := by
  by_cases h : a + b ≤ 4611686018427387904
  · rw [satVal_add ha hb h]; omega
  · have e1 : clampM a = a := by unfold clampM; rw [if_neg (by omega), if_neg (by omega)]
    have e2 : clampM b = b := by unfold clampM; rw [if_neg (by omega), if_neg (by omega)]
    unfold satVal addOk isMon
    rw [e1, e2, if_neg]
    · omega
    · simp only [Bool.and_eq_true, decide_eq_true_eq]
      omega
set_option maxRecDepth 100000 in
theorem stored_fold : ∀ (l : List HoldD) (n : Int), (∀ x ∈ l, 0 ≤ x.2.1 ∧ x.2.1 ≤ 9007199254740992) → 0 ≤ n → n + (l.length : Int) * 9007199254740992 ≤ 4611686018427387904 → l.foldl (fun n x => satVal n x.2.1) n = n + sumH l
  | [], n, _, _, _ => by simp [sumH]
  | x :: l, n, h, h0, h1 => by
    have hx := h x (by simp)
    rw [List.length_cons, Int.natCast_add, Int.add_mul] at h1
    have hl : (0 : Int) ≤ (l.length : Int) * 9007199254740992 := by omega
    rw [List.foldl_cons, satVal_add h0 hx.1 (by omega), stored_fold l _ (fun y hy => h y (by simp [hy])) (by omega) (by omega), sumH_cons]
    omega
set_option maxRecDepth 100000 in
theorem sumH_bd : ∀ (l : List HoldD), (∀ x ∈ l, 0 ≤ x.2.1 ∧ x.2.1 ≤ 9007199254740992) → 0 ≤ sumH l ∧ sumH l ≤ (l.length : Int) * 9007199254740992
  | [], _ => by simp [sumH]
  | x :: l, h => by
    have hx := h x (by simp)
    have := sumH_bd l (fun y hy => h y (by simp [hy]))
    rw [sumH_cons, List.length_cons, Int.natCast_add, Int.add_mul]
    omega
set_option maxRecDepth 100000 in
theorem holds_nums {l : List HoldD} (h : holdsOk l = true) : ∀ x ∈ l, 0 ≤ x.2.1 ∧ x.2.1 ≤ 9007199254740992 := fun x hx => by
  have := hold_nums ((holdsOk_iff.1 h).2.1 x hx)
  omega
set_option maxRecDepth 100000 in
theorem sumH_range {l : List HoldD} (h : holdsOk l = true) : 0 ≤ sumH l ∧ sumH l ≤ 36028797018963968 := by
  have h1 := sumH_bd l (holds_nums h)
  have h2 := (holdsOk_iff.1 h).2.2
  omega
set_option maxRecDepth 100000 in
theorem storedL_sum {l : List HoldD} (h : holdsOk l = true) : storedL l = sumH l := by
  have h2 := (holdsOk_iff.1 h).2.2
  have := stored_fold l 0 (holds_nums h) (by omega) (by omega)
  rw [Int.zero_add] at this
  exact this
set_option maxRecDepth 100000 in
theorem sumH_sub {l m : List HoldD} (h : ∀ x ∈ l, 0 ≤ x.2.1) (hs : m.Sublist l) : sumH m ≤ sumH l := by
  induction hs with
  | slnil => exact Int.le_refl _
  | cons x hs ih =>
    have h1 := ih fun y hy => h y (by simp [hy])
    have := h x (by simp)
    rw [sumH_cons]; omega
  | cons_cons x hs ih =>
    have h1 := ih fun y hy => h y (by simp [hy])
    rw [sumH_cons, sumH_cons]; omega
set_option maxRecDepth 100000 in
theorem asc_ne {l : List HoldD} (h : ascH l) {i j : Nat} {x y : HoldD} (hx : l[i]? = some x) (hy : l[j]? = some y) (hij : i ≠ j) : x.1 ≠ y.1 := by
  obtain ⟨h1, rfl⟩ := List.getElem?_eq_some_iff.1 hx
  obtain ⟨h2, rfl⟩ := List.getElem?_eq_some_iff.1 hy
  rcases Nat.lt_or_gt_of_ne hij with h3 | h3
  · exact strLt_ne (List.pairwise_iff_getElem.1 h i j h1 h2 h3)
  · exact (strLt_ne (List.pairwise_iff_getElem.1 h j i h2 h1 h3)).symm
set_option maxRecDepth 100000 in
theorem findH_at {l : List HoldD} (h : ascH l) {k : Nat} {x : HoldD} (hx : l[k]? = some x) : findH l x.1 = (k : Int) := by
  refine find_some hx rfl fun y hy => ?_
  obtain ⟨j, hj, rfl⟩ := List.getElem_of_mem hy
  rw [List.length_take] at hj
  rw [List.getElem_take]
  exact asc_ne h (List.getElem?_eq_getElem (by omega)) hx (by omega)
set_option maxRecDepth 100000 in
theorem findH_mem {l : List HoldD} {x : HoldD} (h : ascH l) (hx : x ∈ l) : ∃ k : Nat, findH l x.1 = (k : Int) ∧ l[k]? = some x := by
  obtain ⟨k, hk, rfl⟩ := List.getElem_of_mem hx
  exact ⟨k, findH_at h (List.getElem?_eq_getElem hk), List.getElem?_eq_getElem hk⟩
set_option maxRecDepth 100000 in
theorem findH_off {l : List HoldD} {id : ByteArray} (h : ∀ x ∈ l, x.1 ≠ id) : findH l id < 0 := by rw [find_none h]; omega
set_option maxRecDepth 100000 in
theorem findH_neg {l : List HoldD} {id : ByteArray} (h : findH l id < 0) : ∀ x ∈ l, x.1 ≠ id := fun x hx e => by
  subst e
  unfold findH at h
  cases hk : l.findIdx? (fun y => decide (y.1 = x.1)) with
  | none =>
    have := List.findIdx?_eq_none_iff.1 hk x hx
    simp at this
  | some i => rw [hk] at h; exact absurd h (by simp)
set_option maxRecDepth 100000 in
theorem mem_live {l : List HoldD} {now : Int} {x : HoldD} : x ∈ liveL l now ↔ x ∈ l ∧ live now x = true := List.mem_filter
set_option maxRecDepth 100000 in
theorem live_live (l : List HoldD) (now : Int) : liveL (liveL l now) now = liveL l now := by
  unfold liveL
  rw [List.filter_filter]
  congr 1
  funext x
  simp
set_option maxRecDepth 100000 in
theorem live_sub (l : List HoldD) (now : Int) : (liveL l now).Sublist l := List.filter_sublist
set_option maxRecDepth 100000 in
theorem drop_sub (l : List HoldD) (id : ByteArray) : (dropL l id).Sublist l := List.filter_sublist
set_option maxRecDepth 100000 in
theorem drop_off (l : List HoldD) (id : ByteArray) : findH (dropL l id) id < 0 := findH_off fun x hx => by
  have := (List.mem_filter.1 hx).2
  simpa using this
set_option maxRecDepth 100000 in
/-- all live: nothing falls -/
theorem live_all {l : List HoldD} {now : Int} (h : ∀ x ∈ l, live now x = true) : liveL l now = l := List.filter_eq_self.2 h
set_option maxRecDepth 100000 in
theorem sumH_drop {l : List HoldD} (h : ascH l) {k : Nat} {x : HoldD} (hx : l[k]? = some x) : sumH (dropL l x.1) = sumH l - x.2.1 := by
  induction l generalizing k with
  | nil => simp at hx
  | cons y l ih =>
    have hp := List.pairwise_cons.1 h
    cases k with
    | zero =>
      obtain rfl : y = x := by simpa using hx
      have e : dropL (y :: l) y.1 = l := by
        unfold dropL
        rw [List.filter_cons_of_neg (by simp)]
        exact List.filter_eq_self.2 fun z hz => decide_eq_true (strLt_ne (hp.1 z hz)).symm
      rw [e, sumH_cons]; omega
    | succ k =>
      have hx' : l[k]? = some x := by simpa using hx
      have hne : y.1 ≠ x.1 := strLt_ne (hp.1 x (List.mem_of_getElem? hx'))
      have e : dropL (y :: l) x.1 = y :: dropL l x.1 := by
        unfold dropL
        rw [List.filter_cons_of_pos (by simpa using hne)]
      rw [e, sumH_cons, sumH_cons, ih hp.2 hx']; omega
set_option maxRecDepth 100000 in
theorem sumH_set : ∀ (l : List HoldD) (k : Nat) (x y : HoldD), l[k]? = some x → sumH (l.set k y) = sumH l - x.2.1 + y.2.1
  | [], k, x, y, h => by simp at h
  | z :: l, 0, x, y, h => by
    obtain rfl : z = x := by simpa using h
    rw [List.set_cons_zero, sumH_cons, sumH_cons]; omega
  | z :: l, k + 1, x, y, h => by
    rw [List.set_cons_succ, sumH_cons, sumH_cons, sumH_set l k x y (by simpa using h)]; omega
set_option maxRecDepth 100000 in
theorem asc_set {l : List HoldD} (h : ascH l) {k : Nat} {x y : HoldD} (hx : l[k]? = some x) (he : y.1 = x.1) : ascH (l.set k y) := by
  obtain ⟨hk, rfl⟩ := List.getElem?_eq_some_iff.1 hx
  unfold ascH at h ⊢
  rw [List.pairwise_iff_getElem] at h ⊢
  intro i j hi hj hij
  rw [List.length_set] at hi hj
  have h0 := h i j hi hj hij
  rw [List.getElem_set, List.getElem_set]
  by_cases e1 : k = i
  · subst e1
    rw [if_pos rfl, if_neg (by omega), he]; exact h0
  · rw [if_neg e1]
    by_cases e2 : k = j
    · subst e2; rw [if_pos rfl, he]; exact h0
    · rw [if_neg e2]; exact h0
set_option maxRecDepth 100000 in
theorem getD_some {l : List HoldD} {k : Nat} {x : HoldD} (h : l[k]? = some x) : l.getD k noH = x := by rw [List.getD_eq_getElem?_getD, h]; rfl
set_option maxRecDepth 100000 in
theorem amtAt_ok {l : List HoldD} (h : holdsOk l = true) {k : Nat} {x : HoldD} (hx : l[k]? = some x) {n : Int} (h1 : 1 ≤ n) (h2 : n ≤ 9007199254740992) : holdsOk (amtAt l k n) = true := by
  obtain ⟨a1, a2, a3⟩ := holdsOk_iff.1 h
  unfold amtAt
  rw [getD_some hx]
  refine holdsOk_iff.2 ⟨asc_set a1 hx rfl, fun y hy => ?_, by simpa using a3⟩
  rcases List.mem_or_eq_of_mem_set hy with hy | rfl
  · exact a2 y hy
  · obtain ⟨q1, q2, q3, q4⟩ := hold_nums (a2 x (List.mem_of_getElem? hx))
    exact hold_of q1 h1 h2 q4
set_option maxRecDepth 100000 in
theorem amtAt_sum {l : List HoldD} {k : Nat} {x : HoldD} (hx : l[k]? = some x) (n : Int) : sumH (amtAt l k n) = sumH l - x.2.1 + n := by
  unfold amtAt
  rw [getD_some hx, sumH_set l k x _ hx]
set_option maxRecDepth 100000 in
theorem amtAt_at {l : List HoldD} {k : Nat} {x : HoldD} (hx : l[k]? = some x) (n : Int) : (amtAt l k n)[k]? = some (x.1, n, x.2.2) := by
  have hk := (List.getElem?_eq_some_iff.1 hx).1
  unfold amtAt
  rw [getD_some hx, List.getElem?_set_self hk]
set_option maxRecDepth 100000 in
theorem amtAt_live {l : List HoldD} {now : Int} (h : ∀ x ∈ l, live now x = true) {k : Nat} {x : HoldD} (hx : l[k]? = some x) (n : Int) : ∀ y ∈ amtAt l k n, live now y = true := fun y hy => by
  unfold amtAt at hy
  rw [getD_some hx] at hy
  rcases List.mem_or_eq_of_mem_set hy with hy | rfl
  · exact h y hy
  · exact h x (List.mem_of_getElem? hx)
set_option maxRecDepth 100000 in
/-- what is put in where its id is not: one more, in order -/
theorem insR_mem {h : HoldD} : ∀ {l : List HoldD}, (∀ x ∈ l, x.1 ≠ h.1) → ∀ y, y ∈ insR h l ↔ y = h ∨ y ∈ l
  | [], _, y => by simp [insR]
  | x :: l, hn, y => by
    unfold insR
    split
    · rw [List.mem_cons, insR_mem fun z hz => hn z (by simp [hz]), List.mem_cons]
      constructor
      · rintro (h | h | h)
        · exact .inr (.inl h)
        · exact .inl h
        · exact .inr (.inr h)
      · rintro (h | h | h)
        · exact .inr (.inl h)
        · exact .inl h
        · exact .inr (.inr h)
    · rw [filter_ne hn, List.mem_cons]
set_option maxRecDepth 100000 in
theorem insR_sum {h : HoldD} : ∀ {l : List HoldD}, (∀ x ∈ l, x.1 ≠ h.1) → sumH (insR h l) = sumH l + h.2.1
  | [], _ => by simp [insR, sumH]
  | x :: l, hn => by
    unfold insR
    split
    · rw [sumH_cons, insR_sum fun z hz => hn z (by simp [hz]), sumH_cons]; omega
    · rw [filter_ne hn, sumH_cons]; omega
set_option maxRecDepth 100000 in
theorem insR_len {h : HoldD} : ∀ {l : List HoldD}, (∀ x ∈ l, x.1 ≠ h.1) → (insR h l).length = l.length + 1
  | [], _ => rfl
  | x :: l, hn => by
    unfold insR
    split
    · rw [List.length_cons, insR_len fun z hz => hn z (by simp [hz]), List.length_cons]
    · rw [filter_ne hn, List.length_cons]
set_option maxRecDepth 100000 in
theorem insR_asc {h : HoldD} : ∀ {l : List HoldD}, (∀ x ∈ l, x.1 ≠ h.1) → ascH l → ascH (insR h l)
  | [], _, _ => List.pairwise_singleton _ _
  | x :: l, hn, ha => by
    have hp := List.pairwise_cons.1 ha
    have hn' : ∀ z ∈ l, z.1 ≠ h.1 := fun z hz => hn z (by simp [hz])
    unfold insR
    split
    · rename_i hlt
      refine List.pairwise_cons.2 ⟨fun y hy => ?_, insR_asc hn' hp.2⟩
      rcases (insR_mem hn' y).1 hy with rfl | hy
      · exact hlt
      · exact hp.1 y hy
    · rename_i hlt
      rw [filter_ne hn]
      have hx : strLt h.1 x.1 = true := strLt_other (hn x (by simp)) (by simpa using hlt)
      refine List.pairwise_cons.2 ⟨fun y hy => ?_, ha⟩
      rcases List.mem_cons.1 hy with rfl | hy
      · exact hx
      · exact strLt_trans hx (hp.1 y hy)
set_option maxRecDepth 100000 in
theorem putH_new {l : List HoldD} {h : HoldD} (hl : holdsOk l = true) (hh : holdOk h = true) (hn : findH l h.1 < 0) (h4 : l.length < 4) : ∃ m, putH l h = (m, true) ∧ holdsOk m = true ∧ sumH m = sumH l + h.2.1 ∧ ∀ y, y ∈ m ↔ y = h ∨ y ∈ l := by
  have hne := findH_neg hn
  obtain ⟨a1, a2, a3⟩ := holdsOk_iff.1 hl
  have hm : holdsOk (insL l h) = true := by
    rw [insL_eq]
    refine holdsOk_iff.2 ⟨insR_asc hne a1, fun x hx => ?_, by rw [insR_len hne]; omega⟩
    rcases (insR_mem hne x).1 hx with rfl | hx
    · exact hh
    · exact a2 x hx
  refine ⟨insL l h, putH_yes hl hm, hm, ?_, ?_⟩
  · rw [insL_eq]; exact insR_sum hne
  · rw [insL_eq]; exact insR_mem hne
set_option maxRecDepth 100000 in
theorem sum_nn : ∀ {l : List Int}, (∀ x ∈ l, 0 ≤ x) → 0 ≤ l.sum
  | [], _ => by simp
  | x :: l, h => by
    have h1 := h x (by simp)
    have h2 := sum_nn (l := l) fun y hy => h y (by simp [hy])
    rw [List.sum_cons]; omega
set_option maxRecDepth 100000 in
/-- sums that do not run over -/
theorem total_fold : ∀ (l : List Int) (n : Int), (∀ x ∈ l, isMon x = true) → 0 ≤ n → n ≤ 4611686018427387904 → l.foldl satVal n = min (n + l.sum) 4611686018427387904
  | [], n, _, _, _ => by simp; omega
  | x :: l, n, h, h0, h1 => by
    obtain ⟨x0, x1⟩ := isMon_true (h x (by simp))
    have hs : 0 ≤ l.sum := sum_nn fun y hy => (isMon_true (h y (by simp [hy]))).1
    rw [List.foldl_cons, satVal_min h0 h1 x0 x1, total_fold l _ (fun y hy => h y (by simp [hy])) (by omega) (by omega), List.sum_cons]
    omega
set_option maxRecDepth 100000 in
theorem totalL_min {l : List Int} (h : l.all isMon = true) : totalL l = min l.sum 4611686018427387904 ∧ 0 ≤ l.sum := by
  rw [List.all_eq_true] at h
  refine ⟨?_, sum_nn fun y hy => (isMon_true (h y hy)).1⟩
  have := total_fold l 0 h (by omega) (by omega)
  rw [Int.zero_add] at this
  exact this
set_option maxRecDepth 100000 in
theorem totalL_add {l : List Int} (h : l.all isMon = true) (hl : l ≠ []) {n : Int} (h0 : 0 ≤ n) (hb : totalL l + n < 4611686018427387904) : totalL (addOne l n) = totalL l + n := by
  obtain ⟨e1, s0⟩ := totalL_min h
  obtain ⟨e2, -⟩ := totalL_min (addOne_mon (n := n) h)
  cases l with
  | nil => exact absurd rfl hl
  | cons x l =>
    rw [List.all_cons, Bool.and_eq_true] at h
    obtain ⟨x0, x1⟩ := isMon_true h.1
    have hs : 0 ≤ l.sum := sum_nn fun y hy => (isMon_true (List.all_eq_true.1 h.2 y hy)).1
    rw [List.sum_cons] at e1
    have ex : x + n ≤ 4611686018427387904 := by omega
    have e3 : addOne (x :: l) n = (x + n) :: l := by
      unfold addOne
      rw [List.getD_cons_zero, satVal_add x0 h0 ex, List.set_cons_zero]
    rw [e3] at e2 ⊢
    rw [List.sum_cons] at e2
    omega
set_option maxRecDepth 100000 in
theorem ring_head {r : RingD} {now : Int} (hr : ringOk r = true) (ht : timeB now = true) : (ringRoll r now).1 = r.1 ∧ ¬ (ringRoll r now).2.1 < now / r.1 := by
  unfold ringRoll
  split
  · exact ⟨rfl, Int.lt_irrefl _⟩
  · rename_i h
    refine ⟨rfl, fun h1 => h ?_⟩
    unfold ringGo
    simp [hr, ht, h1]
set_option maxRecDepth 100000 in
theorem ring_add {r : RingD} {now n : Int} (hr : ringOk r = true) (ht : timeB now = true) (hn : isMon n = true) :
    (ringTotal r now false + 1 < 4611686018427387904 → ringTotal (ringAdd r now n) now false = ringTotal r now false + 1) ∧ (ringTotal r now true + n < 4611686018427387904 → ringTotal (ringAdd r now n) now true = ringTotal r now true + n) := by
  have hro := ringRoll_ok hr ht
  obtain ⟨p1, p2, p3, p4, p5, p6⟩ := ring_ok_parts hro
  obtain ⟨q1, q2⟩ := ring_head hr ht
  have hao := ringAdd_ok (now := now) (amount := n) hr
  have hin : ringIn r now n = true := by unfold ringIn; simp [hr, ht, hn]
  have hA : ringAdd r now n = ((ringRoll r now).1, (ringRoll r now).2.1, addOne (ringRoll r now).2.2.1 1, addOne (ringRoll r now).2.2.2 n) := by unfold ringAdd; rw [if_pos hin]
  have hgo : ringRoll (ringAdd r now n) now = ringAdd r now n := by
    unfold ringRoll
    rw [if_neg]
    unfold ringGo
    rw [hA]
    simp only [Bool.and_eq_true, decide_eq_true_eq]
    rintro ⟨-, -, h3⟩
    rw [q1] at h3
    exact q2 h3
  have hl : (ringRoll r now).2.2.1 ≠ [] := fun e => by
    rw [e] at p2
    simp [inB] at p2
  have hl2 : (ringRoll r now).2.2.2 ≠ [] := fun e => by
    rw [e] at p3
    exact hl (List.eq_nil_of_length_eq_zero p3.symm)
  unfold ringTotal
  rw [hao, hr, ht, hgo, hA]
  simp only [Bool.and_self, if_true, Bool.false_eq_true, if_false]
  exact ⟨fun h => totalL_add p5 hl (by omega) h, fun h => totalL_add p6 hl2 (isMon_true hn).1 h⟩
set_option maxRecDepth 100000 in
theorem ring_total_nn {r : RingD} {now : Int} (b : Bool) : 0 ≤ ringTotal r now b ∧ ringTotal r now b ≤ 4611686018427387904 := by
  unfold ringTotal
  split
  · rename_i h
    simp only [Bool.and_eq_true] at h
    obtain ⟨-, -, -, -, p5, p6⟩ := ring_ok_parts (ringRoll_ok h.1 h.2)
    cases b
    · have := totalL_min p5; simp only [Bool.false_eq_true, if_false]; omega
    · have := totalL_min p6; simp only [if_true]; omega
  · omega
end Go.Proofs.YtnmijppppcgobaaGreatDoor
set_option linter.unusedVariables false
namespace Go.Proofs.YtnmijppppcgobaaGreatDoor
open Go.ChangeShapes Go.WideShapes Go.ChangeAt Go.RowKit

set_option maxRecDepth 100000 in
theorem putH_old {l : List HoldD} (hl : holdsOk l = true) {k : Nat} {x : HoldD} (hx : l[k]? = some x) {n : Int} (h1 : 1 ≤ n) (h2 : n ≤ 9007199254740992) : putH l (x.1, n, x.2.2) = (amtAt l k n, true) := by
  have ha := holdsOk_asc hl
  have hk := (List.getElem?_eq_some_iff.1 hx).1
  have hf : (l.findIdx? fun y => decide (y.1 = (x.1, n, x.2.2).1)) = some k := by
    have h := findH_at ha hx
    unfold findH at h
    show (l.findIdx? fun y => decide (y.1 = x.1)) = some k
    generalize (l.findIdx? fun y => decide (y.1 = x.1)) = q at h
    cases q with
    | none => simp only at h; omega
    | some i => simp only at h; rw [show i = k by omega]
  have he : insL l (x.1, n, x.2.2) = amtAt l k n := by
    rw [insL_eq, insR_found _ l k ha hf]
    unfold amtAt
    rw [getD_some hx, List.set_eq_take_append_cons_drop, if_pos hk]
  have hm : holdsOk (insL l (x.1, n, x.2.2)) = true := by rw [he]; exact amtAt_ok hl hx h1 h2
  rw [putH_yes hl hm, he]
end Go.Proofs.YtnmijppppcgobaaGreatDoor
set_option linter.unusedVariables false
namespace Go.Proofs.YtnmijppppcgobaaGreatDoor
open Go.ChangeShapes Go.WideShapes Go.ChangeAt Go.RowKit

end Go.Proofs.YtnmijppppcgobaaGreatDoor
set_option linter.unusedVariables false
namespace Go.Proofs.YtnmijppppcgobaaGreatDoor
open Go.ChangeShapes Go.WideShapes Go.ChangeAt Go.RowKit

def byteStr (l : List Int) : ByteArray := ⟨(l.map byteOf).toArray⟩
def noS : SlotD := (⟨#[]⟩, ⟨#[]⟩, [])
def slotEq (x y : SlotD) : Bool := decide (x.1 = y.1) && (decide (x.2.1 = y.2.1) && decide (byteStr x.2.2 = byteStr y.2.2))
def slotsSame (a b : List SlotD) : Bool := decide (a.length = b.length) && (List.range a.length).all fun j => slotEq (a.getD j noS) (b.getD j noS)
set_option maxRecDepth 100000 in
theorem same_len {a b : List SlotD} (h : a.length ≠ b.length) : slotsSame a b = false := by unfold slotsSame; rw [decide_eq_false h]; rfl
set_option maxRecDepth 100000 in
theorem same_not {a b : List SlotD} {i : Nat} {x y : SlotD} (hx : a[i]? = some x) (hy : b[i]? = some y) (h : slotEq x y = false) : slotsSame a b = false := by
  have hi := (List.getElem?_eq_some_iff.1 hx).1
  unfold slotsSame
  rw [Bool.and_eq_false_iff]
  refine .inr (List.all_eq_false.2 ⟨i, List.mem_range.2 hi, ?_⟩)
  rw [List.getD_eq_getElem?_getD, List.getD_eq_getElem?_getD, hx, hy]
  simpa using h
set_option maxRecDepth 100000 in
theorem same_all {a b : List SlotD} (hl : a.length = b.length) (h : ∀ (j : Nat) (x y : SlotD), a[j]? = some x → b[j]? = some y → slotEq x y = true) : slotsSame a b = true := by
  unfold slotsSame
  rw [decide_eq_true hl, Bool.true_and, List.all_eq_true]
  intro j hj
  have hj' := List.mem_range.1 hj
  refine h j _ _ (by rw [List.getD_eq_getElem?_getD, List.getElem?_eq_getElem hj']; rfl) (by rw [List.getD_eq_getElem?_getD, List.getElem?_eq_getElem (by omega : j < b.length)]; rfl)
end Go.Proofs.YtnmijppppcgobaaGreatDoor
set_option linter.unusedVariables false
namespace Go.Proofs.YtnmijppppcgobaaGreatDoor
open Go.ChangeShapes Go.WideShapes Go.ChangeAt Go.RowKit

set_option maxRecDepth 100000 in
theorem hold_dec (x y : HoldD) : decide (x = y) = ((x.1.toList == y.1.toList) && ((x.2.1 == y.2.1) && (x.2.2 == y.2.2))) := by
  obtain ⟨a, b, c⟩ := x
  obtain ⟨d, e, f⟩ := y
  have h : (a.toList == d.toList) = decide (a = d) := by
    by_cases h : a = d
    · subst h; simp
    · have h' : ¬ a.toList = d.toList := fun e => h (str_eq_list.1 e)
      rw [decide_eq_false h]; simpa using h'
  rw [h]
  by_cases h1 : a = d <;> by_cases h2 : b = e <;> by_cases h3 : c = f <;> simp [h1, h2, h3]
set_option maxRecDepth 100000 in
theorem holdNeq (x y : HoldD) (w : World) : (binOp .neq 33 (.agg #[.string x.1, .int .i64 x.2.1, .int .i64 x.2.2]) (.agg #[.string y.1, .int .i64 y.2.1, .int .i64 y.2.2])).run Tryz.prog w = .ok (.bool (!decide (x = y))) w := by
  have hu : Tryz.prog.underlying 33 = some (.struct (Tryz.prog.fieldsOf 33)) := by kernel_rfl
  have hs : Tryz.prog.stoodInHeld 33 = false := by kernel_rfl
  rw [run_neq_struct, run_equalIn_struct w 9999 _ _ _ hu hs, hold_dec]
  have hf : (Tryz.prog.fieldsOf 33).toList.map (fun f => (f.type, f.offset, decide (f.name ≠ "_"))) = [(9, 0, true), (3, 1, true), (3, 2, true)] := by kernel_rfl
  generalize (Tryz.prog.fieldsOf 33).toList = fs at hf
  have hl : fs.length = 3 := by simpa using congrArg List.length hf
  match fs, hl, hf with
  | [f, g, h], _, hf =>
    simp only [List.map_cons, List.map_nil, List.cons.injEq, Prod.mk.injEq, and_true, decide_eq_true_eq] at hf
    obtain ⟨⟨f1, f2, f3⟩, ⟨g1, g2, g3⟩, h1, h2, h3⟩ := hf
    have p1 : ∀ u v z : Value, (Go.part 9 #[u, v, z] 0).run Tryz.prog w = .ok u w := fun u v z => by kernel_rfl
    have p2 : ∀ u v z : Value, (Go.part 3 #[u, v, z] 1).run Tryz.prog w = .ok v w := fun u v z => by kernel_rfl
    have p3 : ∀ u v z : Value, (Go.part 3 #[u, v, z] 2).run Tryz.prog w = .ok z w := fun u v z => by kernel_rfl
    have s1 := fun a b => run_equalIn_string (P := Tryz.prog) w 9998 9 a b Tryz.underlying9
    have s2 := fun a b => run_equalIn_int (P := Tryz.prog) w 9998 3 .i64 .i64 a b Tryz.underlying3
    simp only [Op.eqFields, f1, f2, f3, g1, g2, g3, h1, h2, h3, if_true, Sem.run_bind, Sem.run_ite, Sem.run_pure, p1, p2, p3, s1, s2, Result.andThen_ok, ne_eq, not_false_eq_true]
    cases (x.1.toList == y.1.toList) <;> cases (x.2.1 == y.2.1) <;> cases (x.2.2 == y.2.2) <;> simp
end Go.Proofs.YtnmijppppcgobaaGreatDoor
set_option linter.unusedVariables false
namespace Go.Proofs.YtnmijppppcgobaaGreatDoor
open Go.ChangeShapes Go.WideShapes Go.ChangeAt Go.RowKit

def acctSame (a b : AcctD) : Bool := decide (aId a = aId b) && (decide (aLim a = aLim b) && (decide (aPos a = aPos b) && (decide (aMost a = aMost b) && (decide (aSum a = aSum b) && (decide (aH a = aH b) && (decide (aR a = aR b) && slotsSame (aS a) (aS b)))))))
set_option maxRecDepth 100000 in
theorem take_nextH {l m : List HoldD} {i : Nat} {x : HoldD} (h1 : l[i]? = some x) (h2 : m[i]? = some x) (h : l.take i = m.take i) : l.take (i + 1) = m.take (i + 1) := by
  obtain ⟨a1, a2⟩ := List.getElem?_eq_some_iff.1 h1
  obtain ⟨b1, b2⟩ := List.getElem?_eq_some_iff.1 h2
  rw [List.take_succ_eq_append_getElem a1, List.take_succ_eq_append_getElem b1, h, a2, b2]
end Go.Proofs.YtnmijppppcgobaaGreatDoor
set_option linter.unusedVariables false
namespace Go.Proofs.YtnmijppppcgobaaGreatDoor
open Go.ChangeShapes Go.WideShapes Go.ChangeAt Go.RowKit

set_option maxRecDepth 100000 in
theorem acctOk_iff {a : AcctD} : acctOk a = true ↔ acctIdB (aId a) = true ∧ (0 ≤ aLim a ∧ aLim a ≤ 9007199254740992) ∧ (0 ≤ aMost a ∧ aMost a ≤ 1000) ∧ (0 ≤ aSum a ∧ aSum a ≤ 9007199254740992) ∧ 0 ≤ aPos a ∧ holdsOk (aH a) = true ∧ ringOk (aR a) = true ∧ slotsOk (aS a) = true ∧ aPos a + sumH (aH a) ≤ aLim a := by
  unfold acctOk acctHead acctTail inB isMon
  simp only [Bool.and_eq_true, decide_eq_true_eq]
  constructor
  · rintro ⟨⟨h1, h2, h3, h4, h5, h5'⟩, h6, h7, h8, h9⟩
    have hs := sumH_range h6
    rw [storedL_sum h6, satVal_min h5 h5' hs.1 (by omega)] at h9
    exact ⟨h1, h2, h3, h4, h5, h6, h7, h8, by omega⟩
  · rintro ⟨h1, h2, h3, h4, h5, h6, h7, h8, h9⟩
    have hs := sumH_range h6
    refine ⟨⟨h1, h2, h3, h4, h5, by omega⟩, h6, h7, h8, ?_⟩
    rw [storedL_sum h6, satVal_add h5 hs.1 (by omega)]
    exact h9
set_option maxRecDepth 100000 in
theorem swept_eq {a : AcctD} {now : Int} (h : acctOk a = true) (ht : timeB now = true) : acctSwept a now = setH a (liveL (aH a) now) := by unfold acctSwept; rw [h, ht]; rfl
set_option maxRecDepth 100000 in
theorem swept_ok {a : AcctD} {now : Int} (h : acctOk a = true) (ht : timeB now = true) : acctOk (acctSwept a now) = true := by
  rw [swept_eq h ht]
  obtain ⟨h1, h2, h3, h4, h5, h6, h7, h8, h9⟩ := acctOk_iff.1 h
  have hs := sumH_sub (fun x hx => (holds_nums h6 x hx).1) (live_sub (aH a) now)
  exact acctOk_iff.2 ⟨h1, h2, h3, h4, h5, holdsOk_sub h6 (live_sub _ _), h7, h8, by show aPos a + sumH (liveL (aH a) now) ≤ aLim a; omega⟩
set_option maxRecDepth 100000 in
theorem swept_live {a : AcctD} {now : Int} (h : acctOk a = true) (ht : timeB now = true) : ∀ x ∈ aH (acctSwept a now), live now x = true := by
  rw [swept_eq h ht]
  exact fun x hx => (mem_live.1 hx).2
set_option maxRecDepth 100000 in
theorem room_eq {a : AcctD} {now : Int} (h : acctOk a = true) (ht : timeB now = true) : roomOf a now = aLim a - aPos a - sumH (liveL (aH a) now) := by
  unfold roomOf
  rw [h, ht]
  simp only [Bool.and_self, if_true]
  rw [storedL_sum (holdsOk_sub (acctOk_iff.1 h).2.2.2.2.2.1 (live_sub _ _))]
set_option maxRecDepth 100000 in
/-- all of them live -/
theorem room_all {a : AcctD} {now : Int} (h : acctOk a = true) (ht : timeB now = true) (hl : ∀ x ∈ aH a, live now x = true) : roomOf a now = aLim a - aPos a - sumH (aH a) := by rw [room_eq h ht, live_all hl]
set_option maxRecDepth 100000 in
theorem room_swept {a : AcctD} {now : Int} (h : acctOk a = true) (ht : timeB now = true) : roomOf (acctSwept a now) now = roomOf a now := by
  rw [room_eq (swept_ok h ht) ht, room_eq h ht, swept_eq h ht]
  show aLim a - aPos a - sumH (liveL (liveL (aH a) now) now) = _
  rw [live_live]
set_option maxRecDepth 100000 in
theorem swept_swept {a : AcctD} {now : Int} (h : acctOk a = true) (ht : timeB now = true) : acctSwept (acctSwept a now) now = acctSwept a now := by
  rw [swept_eq (swept_ok h ht) ht, swept_eq h ht]
  show setH (setH a (liveL (aH a) now)) (liveL (liveL (aH a) now) now) = _
  rw [live_live]
set_option maxRecDepth 100000 in
theorem slotsSame_refl (l : List SlotD) : slotsSame l l = true := by
  refine same_all rfl fun j x y hx hy => ?_
  rw [hx] at hy
  obtain rfl := Option.some.inj hy
  unfold slotEq
  simp
set_option maxRecDepth 100000 in
theorem acctSame_refl (a : AcctD) : acctSame a a = true := by
  unfold acctSame
  simp [slotsSame_refl]
set_option maxRecDepth 100000 in
theorem form_eq {a : AcctD} {id : ByteArray} {now : Int} (h : acctOk a = true) (ht : timeB now = true) (hi : idOk id = true) : formB a id now = true := by unfold formB; rw [h, ht, hi]; rfl
set_option maxRecDepth 100000 in
theorem hold_in {a : AcctD} (h : acctOk a = true) {x : HoldD} (hx : x ∈ aH a) : idOk x.1 = true ∧ 1 ≤ x.2.1 ∧ x.2.1 ≤ 9007199254740992 ∧ timeB x.2.2 = true := hold_nums ((holdsOk_iff.1 (acctOk_iff.1 h).2.2.2.2.2.1).2.1 x hx)
set_option maxRecDepth 100000 in
theorem fits_code (a : AcctD) (n now : Int) : fitsV a n now = 7 ∨ fitsV a n now = 8 ∨ fitsV a n now = 9 ∨ fitsV a n now = 0 := by
  unfold fitsV
  split
  · exact .inl rfl
  · split
    · exact .inr (.inl rfl)
    · split
      · exact .inr (.inr (.inl rfl))
      · exact .inr (.inr (.inr rfl))
set_option maxRecDepth 100000 in
theorem asc_of {a : AcctD} (h : acctOk a = true) : ascH (aH a) := (holdsOk_iff.1 (acctOk_iff.1 h).2.2.2.2.2.1).1
set_option maxRecDepth 100000 in
theorem one_in : inB 1 1 9007199254740992 = true := by decide
set_option maxRecDepth 100000 in
/-- FnDue: a hold that lives -/
theorem due_live {a : AcctD} {now : Int} (h : acctOk a = true) (ht : timeB now = true) {x : HoldD} (hx : x ∈ aH a) (hl : live now x = true) :
    (capL a x.1 1 true now).2 = 0 ∧ aPos (capL a x.1 1 true now).1 = aPos a + 1 ∧ (frL a x.1 now).2 = 0 ∧ (moreL a x.1 1 now).2 ≠ 5 := by
  obtain ⟨q1, q2, q3, q4⟩ := hold_in h hx
  have hf := form_eq h ht q1
  have hm : x ∈ aH (acctSwept a now) := by rw [swept_eq h ht]; exact mem_live.2 ⟨hx, hl⟩
  obtain ⟨k, e1, e2⟩ := findH_mem (asc_of (swept_ok h ht)) hm
  have e3 : ¬ ((k : Int) < 0) := by omega
  have e4 : (aH (acctSwept a now)).getD ((k : Int)).toNat noH = x := by rw [Int.toNat_natCast]; exact getD_some e2
  refine ⟨?_, ?_, ?_, ?_⟩
  · unfold capL capOn
    rw [hf, one_in, e1, e4]
    simp [e3, show ¬ x.2.1 < 1 by omega]
  · unfold capL capOn
    rw [hf, one_in, e1, e4]
    simp only [e3, show ¬ x.2.1 < 1 by omega, if_false, Bool.true_eq_false, Bool.true_or, if_true]
    show aPos (acctSwept a now) + 1 = _
    rw [swept_eq h ht]
  · unfold frL frOn
    rw [hf, e1]
    simp [e3]
  · unfold moreL moreOn
    rw [hf, one_in, e1]
    simp only [e3, if_false, Bool.true_eq_false]
    split
    · rcases fits_code (acctSwept a now) 1 now with h0 | h0 | h0 | h0 <;> rw [h0] <;> decide
    · show (0 : Int) ≠ 5
      decide
set_option maxRecDepth 100000 in
/-- FnDue: a hold that is due -/
theorem due_dead {a : AcctD} {now : Int} (h : acctOk a = true) (ht : timeB now = true) {x : HoldD} (hx : x ∈ aH a) (hl : live now x = false) :
    (capL a x.1 1 true now).2 = 5 ∧ (frL a x.1 now).2 = 5 ∧ (moreL a x.1 1 now).2 = 5 := by
  obtain ⟨q1, q2, q3, q4⟩ := hold_in h hx
  have hf := form_eq h ht q1
  have e1 : findH (aH (acctSwept a now)) x.1 < 0 := by
    refine findH_off fun y hy e => ?_
    rw [swept_eq h ht] at hy
    obtain ⟨hy1, hy2⟩ := mem_live.1 hy
    obtain ⟨i, -, i2⟩ := findH_mem (asc_of h) hx
    obtain ⟨j, -, j2⟩ := findH_mem (asc_of h) hy1
    by_cases hij : j = i
    · subst hij
      rw [i2] at j2
      obtain rfl := Option.some.inj j2
      rw [hl] at hy2; cases hy2
    · exact asc_ne (asc_of h) j2 i2 hij e
  refine ⟨?_, ?_, ?_⟩
  · unfold capL capOn
    rw [hf, one_in]
    simp [e1]
  · unfold frL frOn
    rw [hf]
    simp [e1]
  · unfold moreL moreOn
    rw [hf, one_in]
    simp [e1]
set_option maxRecDepth 100000 in
/-- FnDue: sweeping is not seen -/
theorem due_end {a : AcctD} {now : Int} (h : acctOk a = true) (ht : timeB now = true) :
    roomOf (acctSwept a now) now = roomOf a now ∧ roomOf a now = aLim a - aPos a - storedL (liveL (aH a) now) ∧ storedL (aH (acctSwept a now)) = storedL (liveL (aH a) now) ∧ acctSame (acctSwept (acctSwept a now) now) (acctSwept a now) = true := by
  refine ⟨room_swept h ht, ?_, ?_, ?_⟩
  · rw [room_eq h ht, storedL_sum (holdsOk_sub (acctOk_iff.1 h).2.2.2.2.2.1 (live_sub _ _))]
  · rw [swept_eq h ht]
  · rw [swept_swept h ht]; exact acctSame_refl _
set_option maxRecDepth 100000 in
/-- the limits, as plain sums -/
theorem fits_iff {a : AcctD} {n now : Int} (h : acctOk a = true) (h0 : 0 ≤ n) (h1 : n ≤ 9007199254740992) : fitsV a n now = 0 ↔ n ≤ roomOf a now ∧ ringTotal (aR a) now false + 1 ≤ aMost a ∧ ringTotal (aR a) now true + n ≤ aSum a := by
  obtain ⟨-, -, m1, s1, -⟩ := acctOk_iff.1 h
  obtain ⟨c0, c1⟩ := ring_total_nn (r := aR a) (now := now) false
  obtain ⟨t0, t1⟩ := ring_total_nn (r := aR a) (now := now) true
  unfold fitsV
  rw [satVal_min c0 c1 (by omega) (by omega), satVal_min t0 t1 h0 (by omega)]
  split
  · exact ⟨fun h => absurd h (by decide), fun h => by omega⟩
  · split
    · exact ⟨fun h => absurd h (by decide), fun h => by omega⟩
    · split
      · exact ⟨fun h => absurd h (by decide), fun h => by omega⟩
      · exact ⟨fun _ => by omega, fun _ => rfl⟩
set_option maxRecDepth 100000 in
theorem ring_swept {a : AcctD} {now : Int} (h : acctOk a = true) (ht : timeB now = true) : aR (acctSwept a now) = aR a ∧ aMost (acctSwept a now) = aMost a ∧ aSum (acctSwept a now) = aSum a ∧ aPos (acctSwept a now) = aPos a ∧ aLim (acctSwept a now) = aLim a ∧ aId (acctSwept a now) = aId a := by rw [swept_eq h ht]; exact ⟨rfl, rfl, rfl, rfl, rfl, rfl⟩
set_option maxRecDepth 100000 in
/-- FnAuth -/
theorem auth_facts {a : AcctD} {id : ByteArray} {n ttl now : Int} (h : acctOk a = true) (ht : timeB now = true) (hi : idOk id = true) (n0 : 1 ≤ n) (n1 : n ≤ 9007199254740992) (t0 : 1 ≤ ttl) (t1 : ttl ≤ 9999) (hd : now + ttl ≤ 1000000000) :
    ((authL a id n ttl now).2 ≠ 0 → ¬ ((findH (aH (acctSwept a now)) id < 0 ∧ (aH (acctSwept a now)).length < 4) ∧ (n ≤ roomOf a now ∧ ringTotal (aR a) now false + 1 ≤ aMost a ∧ ringTotal (aR a) now true + n ≤ aSum a)) ∧ aId (authL a id n ttl now).1 = ⟨#[]⟩) ∧
    ((authL a id n ttl now).2 = 0 → ((findH (aH (acctSwept a now)) id < 0 ∧ (aH (acctSwept a now)).length < 4) ∧ (n ≤ roomOf a now ∧ ringTotal (aR a) now false + 1 ≤ aMost a ∧ ringTotal (aR a) now true + n ≤ aSum a)) ∧
      ∃ k : Nat, findH (aH (authL a id n ttl now).1) id = (k : Int) ∧ (aH (authL a id n ttl now).1)[k]? = some (id, n, now + ttl) ∧ roomOf (authL a id n ttl now).1 now = roomOf a now - n ∧ ringTotal (aR (authL a id n ttl now).1) now false = ringTotal (aR a) now false + 1 ∧ ringTotal (aR (authL a id n ttl now).1) now true = ringTotal (aR a) now true + n ∧ aPos (authL a id n ttl now).1 = aPos a ∧ acctOk (authL a id n ttl now).1 = true) := by
  have hso := swept_ok h ht
  have hsl := swept_live h ht
  have hrm := room_swept h ht
  obtain ⟨w1, w2, w3, w4, w5, w6⟩ := ring_swept h ht
  have hin : authIn n ttl now = true := by unfold authIn inB; simp [n0, n1, t0, t1, hd]
  have hL : authL a id n ttl now = authOn (acctSwept a now) id n ttl now := by
    unfold authL
    rw [form_eq h ht hi, hin]
    simp
  rw [hL]
  generalize acctSwept a now = s at hso hsl hrm w1 w2 w3 w4 w5 w6
  have hfit := fits_iff (now := now) hso (show 0 ≤ n by omega) n1
  rw [hrm, w1, w2, w3] at hfit
  obtain ⟨o1, o2, o3, o4, o5, o6, o7, o8, o9⟩ := acctOk_iff.1 hso
  have hl4 := (holdsOk_iff.1 o6).2.2
  unfold authOn
  by_cases c1 : 0 ≤ findH (aH s) id
  · rw [if_pos c1]
    exact ⟨fun _ => ⟨fun hc => by omega, rfl⟩, fun h => absurd h (by decide)⟩
  rw [if_neg c1]
  by_cases c2 : (aH s).length = 4
  · rw [if_pos c2]
    exact ⟨fun _ => ⟨fun hc => by omega, rfl⟩, fun h => absurd h (by decide)⟩
  rw [if_neg c2]
  by_cases c3 : fitsV s n now ≠ 0
  · rw [if_pos c3]
    exact ⟨fun _ => ⟨fun hc => c3 (hfit.2 hc.2), rfl⟩, fun h => absurd h c3⟩
  rw [if_neg c3]
  have hf := hfit.1 (Classical.not_not.1 c3)
  refine ⟨fun h => absurd rfl h, fun _ => ⟨⟨⟨by omega, by omega⟩, hf⟩, ?_⟩⟩
  have htt : timeB (now + ttl) = true := by
    unfold timeB inB at ht ⊢
    simp only [decide_eq_true_eq] at ht ⊢
    omega
  obtain ⟨m, p1, p2, p3, p4⟩ := putH_new o6 (hold_of (x := (id, n, now + ttl)) hi n0 n1 htt) (show findH (aH s) id < 0 by omega) (by omega)
  rw [p1]
  have hmem : (id, n, now + ttl) ∈ m := (p4 _).2 (.inl rfl)
  obtain ⟨k, k1, k2⟩ := findH_mem (holdsOk_iff.1 p2).1 hmem
  have hml : ∀ x ∈ m, live now x = true := fun x hx => by
    rcases (p4 x).1 hx with rfl | hx
    · unfold live; exact decide_eq_true (by show now < now + ttl; omega)
    · exact hsl x hx
  have hmon : isMon n = true := by unfold isMon; simp; omega
  have hra := ring_add (r := aR s) o7 ht hmon
  have hok : acctOk (setR (setH s m) (ringAdd (aR s) now n)) = true := by
    refine acctOk_iff.2 ⟨o1, o2, o3, o4, o5, p2, ringAdd_ok o7, o8, ?_⟩
    show aPos s + sumH m ≤ aLim s
    have := room_all hso ht hsl
    rw [p3]
    simp only
    omega
  refine ⟨k, k1, k2, ?_, ?_, ?_, w4, hok⟩
  · rw [room_all hok ht hml, ← hrm, room_all hso ht hsl]
    show aLim s - aPos s - sumH m = _
    rw [p3]
    simp only
    omega
  · rw [← w1]
    refine hra.1 ?_
    rw [w1]; omega
  · rw [← w1]
    refine hra.2 ?_
    rw [w1]; omega
set_option maxRecDepth 100000 in
/-- FnCapture -/
theorem cap_facts {a : AcctD} {n now : Int} {last : Bool} (h : acctOk a = true) (ht : timeB now = true) (n0 : 1 ≤ n) (n1 : n ≤ 9007199254740992) {x : HoldD} (hx : x ∈ aH (acctSwept a now)) :
    ((capL a x.1 n last now).2 = 0 ↔ n ≤ x.2.1) ∧ ((capL a x.1 n last now).2 = 0 → aPos (capL a x.1 n last now).1 = aPos a + n ∧ acctOk (capL a x.1 n last now).1 = true ∧
      ((findH (aH (capL a x.1 n last now).1) x.1 < 0 ∧ (last = true ∨ n = x.2.1)) ∨ (last = false ∧ n ≠ x.2.1 ∧ ∃ k : Nat, findH (aH (capL a x.1 n last now).1) x.1 = (k : Int) ∧ (aH (capL a x.1 n last now).1)[k]? = some (x.1, x.2.1 - n, x.2.2))) ∧
      roomOf a now ≤ roomOf (capL a x.1 n last now).1 now ∧ (last = false → roomOf (capL a x.1 n last now).1 now = roomOf a now)) := by
  have hso := swept_ok h ht
  have hsl := swept_live h ht
  have hrm := room_swept h ht
  obtain ⟨w1, w2, w3, w4, w5, w6⟩ := ring_swept h ht
  obtain ⟨q1, q2, q3, q4⟩ := hold_in hso hx
  have hnin : inB n 1 9007199254740992 = true := decide_eq_true ⟨n0, n1⟩
  have hL : capL a x.1 n last now = capOn (acctSwept a now) x.1 n last := by
    unfold capL
    rw [form_eq h ht q1, hnin]
    simp
  rw [hL]
  generalize acctSwept a now = s at hso hsl hrm w1 w2 w3 w4 w5 w6 hx
  obtain ⟨o1, o2, o3, o4, o5, o6, o7, o8, o9⟩ := acctOk_iff.1 hso
  obtain ⟨a1, a2, a3⟩ := holdsOk_iff.1 o6
  obtain ⟨k, e1, e2⟩ := findH_mem a1 hx
  have e3 : ¬ ((k : Int) < 0) := by omega
  have e4 : (aH s).getD ((k : Int)).toNat noH = x := by rw [Int.toNat_natCast]; exact getD_some e2
  have hra := room_all hso ht hsl
  unfold capOn
  rw [e1, if_neg e3, e4]
  by_cases c1 : x.2.1 < n
  · rw [if_pos c1]
    exact ⟨⟨fun h => absurd h (by decide), fun h => by omega⟩, fun h => absurd h (by decide)⟩
  rw [if_neg c1]
  by_cases c2 : (last || decide (n = x.2.1)) = true
  · rw [if_pos c2]
    refine ⟨⟨fun _ => by omega, fun _ => rfl⟩, fun _ => ?_⟩
    have hdr := sumH_drop a1 e2
    have hok : acctOk (setH (setP s (aPos s + n)) (dropL (aH s) x.1)) = true := by
      refine acctOk_iff.2 ⟨o1, o2, o3, o4, by show 0 ≤ aPos s + n; omega, holdsOk_sub o6 (drop_sub _ _), o7, o8, ?_⟩
      show aPos s + n + sumH (dropL (aH s) x.1) ≤ aLim s
      omega
    have hdl : ∀ y ∈ dropL (aH s) x.1, live now y = true := fun y hy => hsl y ((drop_sub _ _).subset hy)
    have hroom : roomOf (setH (setP s (aPos s + n)) (dropL (aH s) x.1)) now = aLim s - (aPos s + n) - sumH (dropL (aH s) x.1) := room_all hok ht hdl
    refine ⟨by show aPos s + n = _; rw [w4], hok, .inl ⟨drop_off _ _, ?_⟩, ?_, fun hlast => ?_⟩
    · simpa using c2
    · rw [hroom, ← hrm, hra]; omega
    · rw [hlast] at c2
      have hn : n = x.2.1 := by simpa using c2
      rw [hroom, ← hrm, hra]; omega
  · rw [if_neg c2]
    refine ⟨⟨fun _ => by omega, fun _ => rfl⟩, fun _ => ?_⟩
    have c3 : last = false ∧ n ≠ x.2.1 := by simpa using c2
    have c4 := c3.2
    rw [Int.toNat_natCast]
    have hk : holdsOk (amtAt (aH s) k (x.2.1 - n)) = true := amtAt_ok o6 e2 (by omega) (by omega)
    have hsum := amtAt_sum e2 (x.2.1 - n)
    have hok : acctOk (setH (setP s (aPos s + n)) (amtAt (aH s) k (x.2.1 - n))) = true := by
      refine acctOk_iff.2 ⟨o1, o2, o3, o4, by show 0 ≤ aPos s + n; omega, hk, o7, o8, ?_⟩
      show aPos s + n + sumH (amtAt (aH s) k (x.2.1 - n)) ≤ aLim s
      omega
    have hat := amtAt_at e2 (x.2.1 - n)
    have hroom : roomOf (setH (setP s (aPos s + n)) (amtAt (aH s) k (x.2.1 - n))) now = aLim s - (aPos s + n) - sumH (amtAt (aH s) k (x.2.1 - n)) := room_all hok ht (amtAt_live hsl e2 _)
    refine ⟨by show aPos s + n = _; rw [w4], hok, .inr ⟨c3.1, c3.2, k, ?_, hat⟩, ?_, fun _ => ?_⟩
    · have := findH_at (holdsOk_iff.1 hk).1 hat
      exact this
    · rw [hroom, ← hrm, hra]; omega
    · rw [hroom, ← hrm, hra]; omega
set_option maxRecDepth 100000 in
/-- FnMore: what is let go -/
theorem free_facts {a : AcctD} {now : Int} (h : acctOk a = true) (ht : timeB now = true) {x : HoldD} (hx : x ∈ aH (acctSwept a now)) :
    (frL a x.1 now).2 = 0 ∧ roomOf (frL a x.1 now).1 now = roomOf a now + x.2.1 ∧ findH (aH (frL a x.1 now).1) x.1 < 0 ∧ aPos (frL a x.1 now).1 = aPos a := by
  have hso := swept_ok h ht
  have hsl := swept_live h ht
  have hrm := room_swept h ht
  obtain ⟨w1, w2, w3, w4, w5, w6⟩ := ring_swept h ht
  obtain ⟨q1, q2, q3, q4⟩ := hold_in hso hx
  have hL : frL a x.1 now = frOn (acctSwept a now) x.1 := by
    unfold frL
    rw [form_eq h ht q1]
    simp
  rw [hL]
  generalize acctSwept a now = s at hso hsl hrm w1 w2 w3 w4 w5 w6 hx
  obtain ⟨o1, o2, o3, o4, o5, o6, o7, o8, o9⟩ := acctOk_iff.1 hso
  obtain ⟨a1, a2, a3⟩ := holdsOk_iff.1 o6
  obtain ⟨k, e1, e2⟩ := findH_mem a1 hx
  have e3 : ¬ ((k : Int) < 0) := by omega
  have hra := room_all hso ht hsl
  unfold frOn
  rw [e1, if_neg e3]
  have hdr := sumH_drop a1 e2
  have hok : acctOk (setH s (dropL (aH s) x.1)) = true := by
    refine acctOk_iff.2 ⟨o1, o2, o3, o4, o5, holdsOk_sub o6 (drop_sub _ _), o7, o8, ?_⟩
    show aPos s + sumH (dropL (aH s) x.1) ≤ aLim s
    omega
  have hroom : roomOf (setH s (dropL (aH s) x.1)) now = aLim s - aPos s - sumH (dropL (aH s) x.1) := room_all hok ht fun y hy => hsl y ((drop_sub _ _).subset hy)
  refine ⟨rfl, ?_, drop_off _ _, w4⟩
  rw [hroom, ← hrm, hra]; omega
set_option maxRecDepth 100000 in
/-- FnMore: what is raised -/
theorem more_facts {a : AcctD} {n now : Int} (h : acctOk a = true) (ht : timeB now = true) (n0 : 1 ≤ n) (n1 : n ≤ 9007199254740992) {x : HoldD} (hx : x ∈ aH (acctSwept a now)) (hr : (moreL a x.1 n now).2 = 0) :
    ∃ k : Nat, findH (aH (moreL a x.1 n now).1) x.1 = (k : Int) ∧ (aH (moreL a x.1 n now).1)[k]? = some (x.1, x.2.1 + n, x.2.2) ∧ roomOf (moreL a x.1 n now).1 now = roomOf a now - n ∧ acctOk (moreL a x.1 n now).1 = true := by
  have hso := swept_ok h ht
  have hsl := swept_live h ht
  have hrm := room_swept h ht
  obtain ⟨w1, w2, w3, w4, w5, w6⟩ := ring_swept h ht
  obtain ⟨q1, q2, q3, q4⟩ := hold_in hso hx
  have hnin : inB n 1 9007199254740992 = true := decide_eq_true ⟨n0, n1⟩
  have hL : moreL a x.1 n now = moreOn (acctSwept a now) x.1 n now := by
    unfold moreL
    rw [form_eq h ht q1, hnin]
    simp
  rw [hL] at hr ⊢
  generalize acctSwept a now = s at hso hsl hrm w1 w2 w3 w4 w5 w6 hx hr
  obtain ⟨o1, o2, o3, o4, o5, o6, o7, o8, o9⟩ := acctOk_iff.1 hso
  obtain ⟨a1, a2, a3⟩ := holdsOk_iff.1 o6
  obtain ⟨k, e1, e2⟩ := findH_mem a1 hx
  have e3 : ¬ ((k : Int) < 0) := by omega
  have e4 : (aH s).getD ((k : Int)).toNat noH = x := by rw [Int.toNat_natCast]; exact getD_some e2
  have hra := room_all hso ht hsl
  have hfit := fits_iff (now := now) hso (show 0 ≤ n by omega) n1
  unfold moreOn at hr ⊢
  rw [e1, if_neg e3] at hr ⊢
  by_cases c3 : fitsV s n now ≠ 0
  · rw [if_pos c3] at hr
    exact absurd hr c3
  rw [if_neg c3, e4, Int.toNat_natCast]
  have hf := hfit.1 (Classical.not_not.1 c3)
  have hle : x.2.1 ≤ sumH (aH s) := by
    have := sumH_drop a1 e2
    have h2 := (sumH_range (holdsOk_sub o6 (drop_sub (aH s) x.1))).1
    omega
  have hk : holdsOk (amtAt (aH s) k (x.2.1 + n)) = true := amtAt_ok o6 e2 (by omega) (by omega)
  have hsum := amtAt_sum e2 (x.2.1 + n)
  have hok : acctOk (setR (setH s (amtAt (aH s) k (x.2.1 + n))) (ringAdd (aR s) now n)) = true := by
    refine acctOk_iff.2 ⟨o1, o2, o3, o4, o5, hk, ringAdd_ok o7, o8, ?_⟩
    show aPos s + sumH (amtAt (aH s) k (x.2.1 + n)) ≤ aLim s
    omega
  have hat := amtAt_at e2 (x.2.1 + n)
  have hroom : roomOf (setR (setH s (amtAt (aH s) k (x.2.1 + n))) (ringAdd (aR s) now n)) now = aLim s - aPos s - sumH (amtAt (aH s) k (x.2.1 + n)) := room_all hok ht (amtAt_live hsl e2 _)
  have hfa := findH_at (holdsOk_iff.1 hk).1 hat
  refine ⟨k, hfa, hat, ?_, hok⟩
  rw [hroom, ← hrm, hra]; omega
end Go.Proofs.YtnmijppppcgobaaGreatDoor
set_option linter.unusedVariables false
namespace Go.Proofs.YtnmijppppcgobaaGreatDoor
open Go.ChangeShapes Go.WideShapes Go.ChangeAt Go.RowKit

set_option maxRecDepth 100000 in
theorem setsAt_cells (us : List Value) : ∀ (w : World) (b o : Nat), w.setCells b o us = setsAt w b o us := by
  induction us with
  | nil => intro w b o; rfl
  | cons u us ih => intro w b o; exact ih _ b (o + 1)
set_option maxRecDepth 100000 in
/-- element i of a row laid anew -/
theorem filled.put {w : World} {b off k n i m : Nat} {E E' : Nat → List Value} (h : filled w b off k n m E) (hi : i < n) (hE : ∀ j, j < m → (E j).length = k) (hE' : (E' i).length = k) (hs : ∀ j, j < m → j ≠ i → E' j = E j) : filled (setsAt w b (off + i * k) (E' i)) b off k n m E' := by
  have hik := mul_step (k := k) hi
  refine ⟨setsAt_room _ _ _ _ _ _ h.room, fun j hj => ?_⟩
  by_cases e : j = i
  · subst e
    exact setsAt_at _ _ _ _ (h.room.sub (by omega) (by omega))
  · rw [hs j hj e]
    have hl := hE j hj
    rcases Nat.lt_or_gt_of_ne e with h1 | h1
    · have hjk := mul_step (k := k) h1
      exact setsAt_far _ _ _ _ _ _ (h.at_ j hj) (.inl (by omega))
    · have hjk := mul_step (k := k) h1
      exact setsAt_far _ _ _ _ _ _ (h.at_ j hj) (.inr (by omega))
set_option maxRecDepth 100000 in
/-- its first elements, where only what is behind them was laid anew -/
theorem filled.ahead {w : World} {b k n i : Nat} {E : Nat → List Value} (h : filled w b 0 k n n E) (hi : i ≤ n) (hE : ∀ j, j < n → (E j).length = k) (us : List Value) : filled (setsAt w b (i * k) us) b 0 k i i E := by
  have hle : i * k ≤ n * k := Nat.mul_le_mul_right k hi
  refine ⟨(setsAt_room _ _ _ _ _ _ h.room).sub (Nat.le_refl _) (by omega), fun j hj => ?_⟩
  have hjk := mul_step (k := k) hj
  exact setsAt_far _ _ _ _ _ _ (h.at_ j (by omega)) (.inl (by rw [hE j (by omega)]; omega))
section
variable {P : Program} {ops : Array Oper} {rest : List Oper} {o : Oper} {a : Act} {Q : Exit → Act → World → Prop}
set_option maxRecDepth 100000 in
/-- clear(s[i:]) -/
theorem wpList_clear_tail {α : Type} (enc : α → List Value) (k : Nat) (hk : ∀ x, (enc x).length = k) (hone : ∀ x, ∀ u ∈ enc x, u.oneCell' = true) (hgd : o.guard = none) (x : Operand) (t : TypeId)
    (ho : o.op = .call { callee := .builtin .clear, args := #[x], argTypes := #[t] }) (e : TypeId) (hu : P.underlying t = some (.slice e)) (zs : Array Value) (hinfo : (P.info? e).map (fun i => (i.zero.map (·.cells), i.size)) = some (some zs, k)) (z : α) (hz : zs.toList = enc z)
    (W : World) (g off m c' : Nat) (hroom : roomL W g off (m * k)) (hm0 : 0 < m) (hx : a.eval x = .slice (some ⟨g, off, none⟩) m c')
    (h : wpList P ops Q rest (a.put o.dst (.tuple #[])) (setsAt W g off ((List.replicate m z).flatMap enc))) : wpList P ops Q (o :: rest) a W := by
  obtain ⟨i, hi, hxx⟩ := Option.map_eq_some_iff.1 hinfo
  simp only [Prod.mk.injEq] at hxx
  obtain ⟨hz1, hsize⟩ := hxx
  obtain ⟨zz, hzz, hzc⟩ := Option.map_eq_some_iff.1 hz1
  have hzf := zero_flat hk zs z hz m
  have hl : ((List.replicate m z).flatMap enc).length = m * k := by rw [flat_len hk, List.length_replicate]
  have hst := run_storeCells_cells (P := P) g off ((List.replicate m z).flatMap enc) 0 W (fun j hj => by rw [hl] at hj; obtain ⟨⟨u, hu⟩, -⟩ := hroom j hj; rw [Nat.add_zero, hu]; rfl) (fun j hj => by rw [hl] at hj; rw [Nat.add_zero]; exact (hroom j hj).2) (fun v hv => by obtain ⟨x, -, hx⟩ := List.mem_flatMap.1 hv; exact hone x v hx)
  rw [Nat.add_zero, setsAt_cells] at hst
  obtain ⟨p, rfl⟩ : ∃ p, m = p + 1 := ⟨m - 1, by omega⟩
  generalize (List.replicate (p + 1) z).flatMap enc = us at hst hzf h
  refine wpList_plain hgd fun K hK => ?_
  have hrun : (Builtin.clear_ #[t] o.type #[.slice (some ⟨g, off, none⟩) (p + 1) c']).run P W = .ok (.tuple #[]) (setsAt W g off us) := by
    simp [Builtin.clear_, run_underlying hu, zeroValue, typeInfo, hi, hzz, hzc, hzf, hst]
  unfold Oper.wp
  simp [execOp, ho, resolve, invoke, builtin, hx, hrun]
  exact hK _ _ h
end
end Go.Proofs.YtnmijppppcgobaaGreatDoor
set_option linter.unusedVariables false
namespace Go.Proofs.YtnmijppppcgobaaGreatDoor
open Go.ChangeShapes Go.WideShapes Go.ChangeAt Go.RowKit

/-- a row of holds of the call's own -/
def holdsOwn (l : List HoldD) (w : World) (e : Ending) (w' : World) : Prop := ∃ A c, e = .returned (.slice A l.length c) ∧ owE 33 3 hCells w.heap.size w' (.slice A l.length c) l ∧ Below w.heap.size w w'
set_option maxRecDepth 100000 in
theorem holds_at {hi : Nat} {w : World} {A : Option Addr} {n c : Nat} {l : List HoldD} (h : HoldsR.rd hi w [.slice A n c] l) : ∀ (j : Nat) (y : HoldD), l[j]? = some y → ∃ b off, A = some ⟨b, off, none⟩ ∧ b < hi ∧ atL w b (off + j * 3) (hCells y) := by
  intro j y hy
  obtain ⟨A', c', hv, -, hr⟩ := holds_rd h
  simp only [Value.slice.injEq] at hv
  obtain ⟨rfl, -, -⟩ := hv
  obtain ⟨b, off, e, hb, q0, q1, q2⟩ := hr j y hy
  refine ⟨b, off, e, hb, fun t u hu => ?_⟩
  match t, hu with
  | 0, hu => cases hu; exact q0
  | 1, hu => cases hu; exact q1
  | 2, hu => cases hu; exact q2
  | n + 3, hu => simp [hCells] at hu
set_option maxRecDepth 100000 in
set_option maxHeartbeats 1600000 in
theorem cloneHolds_any (hi : Nat) (v : Value) (l : List HoldD) (w : World) (hn : l.length ≤ 1048576) (h : HoldsR.rd hi w [v] l) (hh : hi ≤ w.heap.size) :
    Calls Tryz.prog 138 #[v] w (holdsOwn l w) := by
  obtain ⟨A, c, rfl, -, -⟩ := holds_rd h
  have hS := holds_at h
  have HS : Hid (∀ V, Below w.heap.size w V → ∀ (j : Nat) (y : HoldD), l[j]? = some y → ∃ b off, A = some ⟨b, off, none⟩ ∧ atL V b (off + j * 3) (hCells y)) := Lib.hid fun V hV j y hy => by
    obtain ⟨b, off, e, hb, ha⟩ := hS j y hy
    exact ⟨b, off, e, fun t u hu => (hV.cell (p := ⟨b, _, none⟩) (show b < w.heap.size by omega)).trans (ha t u hu)⟩
  have q33 : ∀ (w : World) (a : Option Addr) (n c n' c' : Nat), (binOp .eql 23 (.slice a n c) (.slice none n' c')).run Tryz.prog w = .ok (.bool a.isNone) w := fun w a n c n' c' => Lib.run_eql_slice_nil w _ _ a n c n' c' Tryz.underlying23
  clear h
  cases A with
  | none =>
    obtain rfl : l = [] := by
      cases l with
      | nil => rfl
      | cons y l => obtain ⟨b, off, e, -⟩ := hS 0 y rfl; cases e
    clear hS
    go_enter Tryz.func138, Tryz.ntmps138
    go_wp2
    go_ret
    exact ⟨none, 0, rfl, owE_none _ _ _ _ _, Below.refl _ _⟩
  | some ad =>
    clear hS
    go_enter Tryz.func138, Tryz.ntmps138
    go_wp2_with (at_builtin; refine app_rows hCells 3 (fun _ => rfl) (by decide) hCells_one 23 33 #[.string ⟨#[]⟩, .int .i64 0, .int .i64 0] 32 Tryz.underlying23 infoHold rfl _ _ rfl rfl w.heap.size (w.alloc (.cells #[] 33)) _ [] l (some ad) c (by rfl) (by rfl) (owE_empty _ _ _ _ w (Nat.le_refl _)) (HS.out _ ((Below.refl _ _).alloc (Nat.le_refl _) _)) (by unfold maxLen; simp; omega) (by simp; omega) (by simp) ?_)
    intro A1 c1 w1 ho1 hg1 hb1
    have HB1 : Hid (Below w.heap.size w w1) := Lib.hid (((Below.refl w.heap.size w).alloc (Nat.le_refl _) _).trans hb1)
    have HO : Hid (owE 33 3 hCells w.heap.size w1 (.slice A1 l.length c1) l) := Lib.hid (by simpa using ho1)
    clear ho1 hg1 hb1
    go_wp2
    go_ret
    exact ⟨A1, c1, by simp, HO.out, HB1.out⟩
/-- what a function says of a hold, wherever block B holds cs -/
def saysH (g : Nat) (lb : Array Value) (B : Nat) (t : TypeId) (cs : List Value) (p : HoldD → Bool) : Prop :=
  ∀ (W : World) (x : HoldD), bk W B t cs → Calls Tryz.prog g (#[.agg #[.string x.1, .int .i64 x.2.1, .int .i64 x.2.2]] ++ lb) W fun e w' => e = .returned (.bool (p x)) ∧ Below W.heap.size W w'
def findP (p : HoldD → Bool) (l : List HoldD) : Int := match l.findIdx? p with | some i => (i : Int) | none => -1
set_option maxRecDepth 100000 in
theorem findP_none {p : HoldD → Bool} {l : List HoldD} (h : ∀ x ∈ l, p x = false) : findP p l = -1 := by
  unfold findP
  rw [List.findIdx?_eq_none_iff.2 h]
set_option maxRecDepth 100000 in
theorem findP_some {p : HoldD → Bool} {l : List HoldD} {i : Nat} {x : HoldD} (hx : l[i]? = some x) (he : p x = true) (h : ∀ y ∈ l.take i, p y = false) : findP p l = (i : Int) := by
  obtain ⟨hi, rfl⟩ := List.getElem?_eq_some_iff.1 hx
  have h1 : l.findIdx? p = some i := by
    rw [List.findIdx?_eq_some_iff_getElem]
    refine ⟨hi, he, fun j hj => ?_⟩
    have hm : l[j] ∈ l.take i := by rw [List.mem_take_iff_getElem]; exact ⟨j, by omega, rfl⟩
    simpa using h _ hm
  unfold findP
  rw [h1]
set_option maxRecDepth 100000 in
theorem take_all_next {p : HoldD → Bool} {l : List HoldD} {i : Nat} {x : HoldD} (hx : l[i]? = some x) (he : p x = false) (h : ∀ y ∈ l.take i, p y = false) : ∀ y ∈ l.take (i + 1), p y = false := by
  obtain ⟨h5, h6⟩ := List.getElem?_eq_some_iff.1 hx
  rw [List.take_succ_eq_append_getElem h5, h6]
  intro y hy
  rcases List.mem_append.1 hy with hy | hy
  · exact h y hy
  · rw [List.mem_singleton.1 hy]; exact he
set_option maxRecDepth 100000 in
set_option maxHeartbeats 1600000 in
theorem indexHolds_any (g : Nat) (lb : Array Value) (B : Nat) (t : TypeId) (cs : List Value) (p : HoldD → Bool) (hi : Nat) (v : Value) (l : List HoldD) (w : World) (hp : saysH g lb B t cs p) (eg : ∀ args w, (callFunc g args).run Tryz.prog w = .ok (.enter g args) w) (hbk : bk w B t cs) (hn : l.length ≤ 1048576) (h : HoldsR.rd hi w [v] l) (hh : hi ≤ w.heap.size) :
    Calls Tryz.prog 204 #[v, .func (.func g) #[] lb] w fun e w' => e = .returned (.int .i64 (findP p l)) ∧ Below w.heap.size w w' := by
  obtain ⟨A, c, rfl, hc, h⟩ := holds_rd h
  have HR := Lib.hid h
  have HP := Lib.hid hp
  have HK := Lib.hid hbk
  have hBw := hbk.lt
  clear h hp hbk
  go_enter Tryz.func204, Tryz.ntmps204
  go_wp2
  go_loopw [8] (fun iv wr => ∃ i : Nat, i ≤ l.length ∧ iv = .int .i64 i ∧ Hid (∀ y ∈ l.take i, p y = false) ∧ Hid (Below w.heap.size w wr) ∧ w.heap.size ≤ wr.heap.size) (fun iv _ => l.length - (intOf iv).toNat)
  case atStart => exact ⟨0, Nat.zero_le _, rfl, Lib.hid (by simp), Lib.hid (Below.refl _ _), Nat.le_refl _⟩
  case round =>
    obtain ⟨i, hi', rfl, HN, HB, hz⟩ := hrel
    by_cases hin : i < l.length
    · obtain ⟨x, hx⟩ : ∃ x, l[i]? = some x := ⟨_, List.getElem?_eq_getElem hin⟩
      obtain ⟨b, off, rfl, hbl, c0, c1, c2⟩ := HR.out i x hx
      have hcall := HP.out wr x (HK.out.below HB.out hBw)
      have HYES := Lib.hid (fun he => findP_some hx he HN.out)
      have HNO := Lib.hid (fun he => take_all_next (p := p) hx he HN.out)
      clear hx
      have c0 := (HB.out.cell (p := ⟨b, off + i * 3, none⟩) (show b < w.heap.size by omega)).trans c0
      have c1 := (HB.out.cell (p := ⟨b, off + i * 3 + 1, none⟩) (show b < w.heap.size by omega)).trans c1
      have c2 := (HB.out.cell (p := ⟨b, off + i * 3 + 2, none⟩) (show b < w.heap.size by omega)).trans c2
      have g1 : (i : Int) < (l.length : Int) := by omega
      have g2 : 0 ≤ (i : Int) := by omega
      generalize p x = px at hcall HYES HNO
      have HC := Lib.hid hcall
      clear hcall
      go_wp2_with fail
      refine HC.out.mono ?_
      rintro e w1 ⟨rfl, hb1⟩
      have z1 := hb1.size
      have HB1 : Hid (Below w.heap.size w w1) := Lib.hid (HB.out.trans (hb1.mono (by omega)))
      clear hb1 c0 c1 c2
      cases px
      · have HN2 := Lib.hid (HNO.out rfl)
        go_wp2
        go_roundw
        case rel => exact ⟨i + 1, by omega, by go_num, HN2, HB1, by omega⟩
        case measure => simp [intOf] <;> omega
      · have HV := Lib.hid (HYES.out rfl)
        go_wp2
        go_ret
        exact ⟨ret_int HV.out.symm, HB1.out⟩
    · obtain rfl : i = l.length := by omega
      have HV : Hid (findP p l = -1) := Lib.hid (findP_none (by have := HN.out; rwa [List.take_length] at this))
      go_wp2
      go_ret
      exact ⟨ret_int HV.out.symm, HB.out⟩
end Go.Proofs.YtnmijppppcgobaaGreatDoor
