/- Marks in slices of slots, and looks at them; no conditions. -/
import Derived.Test.YthnimmagaocipaaGreatDoorMrg4
import Derived.Test.YthnimmagaocipaaGreatDoorMrg6
import Derived.Test.YthnimmagaocipaaGreatDoorMrg2
import Derived.Deep.RegionHeld3
set_option linter.unusedVariables false
namespace Go.Proofs.YthnimmagaocipaaGreatDoor
open Go.ChangeShapes Go.WideShapes Go.ChangeAt Go.RowKit

/-- a slot that bears the marks from k on -/
def slotMk (k : Int) (n : Nat) : SlotD := (⟨(markOf k).toArray⟩, ⟨(markOf (k + 1)).toArray⟩, marksL (· % 256) (k + 1 + 1) n)
/-- the mark that element j's begin with -/
def kAt (k : Int) (ns : List Nat) (j : Nat) : Int := k + (((ns.take j).map fun n => 2 + n).sum : Nat)
def slotsMark (k : Int) (ns : List Nat) : List SlotD := (List.range ns.length).map fun j => slotMk (kAt k ns j) (ns.getD j 0)
def lensOf (l : List SlotD) : List Nat := l.map (·.2.2.length)
set_option maxRecDepth 100000 in
theorem lensOf_len (l : List SlotD) : (lensOf l).length = l.length := List.length_map ..
set_option maxRecDepth 100000 in
theorem slotsMark_len (k : Int) (ns : List Nat) : (slotsMark k ns).length = ns.length := by simp [slotsMark]
set_option maxRecDepth 100000 in
theorem slotsMark_at {k : Int} {ns : List Nat} {j : Nat} (h : j < ns.length) : (slotsMark k ns)[j]? = some (slotMk (kAt k ns j) (ns.getD j 0)) := by simp [slotsMark, h]
set_option maxRecDepth 100000 in
theorem kAt_zero (k : Int) (ns : List Nat) : kAt k ns 0 = k := by simp [kAt]
set_option maxRecDepth 100000 in
theorem kAt_next {k : Int} {ns : List Nat} {j : Nat} (h : j < ns.length) : kAt k ns (j + 1) = kAt k ns j + 1 + 1 + (ns.getD j 0 : Nat) := by
  unfold kAt
  rw [List.take_succ_eq_append_getElem h, List.map_append, List.sum_append, List.getD_eq_getElem?_getD, List.getElem?_eq_getElem h]
  simp only [List.map_cons, List.map_nil, List.sum_cons, List.sum_nil, Option.getD_some]
  omega
set_option maxRecDepth 100000 in
theorem sum_take_le : ∀ (l : List Nat) (j : Nat), (l.take j).sum ≤ l.sum
  | [], j => by simp
  | x :: l, 0 => by simp
  | x :: l, j + 1 => by have := sum_take_le l j; simp only [List.take_succ_cons, List.sum_cons]; omega
set_option maxRecDepth 100000 in
theorem kAt_le (k : Int) (ns : List Nat) (j : Nat) : k ≤ kAt k ns j ∧ kAt k ns j ≤ kAt k ns ns.length := by
  unfold kAt
  have h := sum_take_le (ns.map fun n => 2 + n) j
  rw [List.take_length, List.map_take]
  omega
set_option maxRecDepth 100000 in
theorem two_sum : ∀ l : List Nat, 2 * l.length ≤ (l.map fun n => 2 + n).sum
  | [] => by simp
  | x :: l => by have := two_sum l; simp only [List.map_cons, List.sum_cons, List.length_cons]; omega
set_option maxRecDepth 100000 in
theorem kAt_two (k : Int) (ns : List Nat) : k + 2 * (ns.length : Int) ≤ kAt k ns ns.length := by
  unfold kAt
  rw [List.take_length]
  have := two_sum ns
  omega
set_option maxRecDepth 100000 in
set_option maxHeartbeats 4000000 in
theorem markSlots_any (lo hi : Nat) (v : Value) (l : List SlotD) (k : Int) (w : World) (hk0 : 0 < k) (hk1 : kAt k (lensOf l) l.length ≤ 1000000000) (h : SlotsR.mine lo hi w [v] l) (hh : hi ≤ w.heap.size) :
    Calls Tryz.prog 49 #[v, .int .i64 k] w fun e w' => e = .returned (.int .i64 (kAt k (lensOf l) l.length)) ∧ SlotsR.mine lo hi w' [v] (slotsMark k (lensOf l)) ∧ Turned lo hi w w' := by
  obtain ⟨A, c, rfl, hc, hm⟩ := slots_mem h
  clear h
  rcases hm with rfl | ⟨b, off, ps, rfl, rfl, hm⟩
  · go_enter Tryz.func49, Tryz.ntmps49
    go_wp2
    go_loop [1, 5] (fun kv iv => iv = .int .i64 0 ∧ kv = .int .i64 k) (fun _ _ => 0)
    case atStart => exact ⟨rfl, rfl⟩
    case round =>
      obtain ⟨rfl, rfl⟩ := hrel
      go_wp2
      go_ret
      exact ⟨by simp [kAt], ⟨[], ⟨A, c, rfl, hc, .inl ⟨rfl, rfl⟩⟩, List.nodup_nil, by simp⟩, Turned.refl _ _ _⟩
  rw [List.length_map] at hc hk1 ⊢
  obtain ⟨ns, hns⟩ : ∃ ns, ns = lensOf (ps.map (·.1)) := ⟨_, rfl⟩
  have hnl : ns.length = ps.length := by rw [hns, lensOf_len, List.length_map]
  have HNA : Hid (∀ (j : Nat) (x : SlotV), ps[j]? = some x → x.1.2.2.length = ns.getD j 0) := Lib.hid fun j x hx => by
    rw [hns]
    unfold lensOf
    rw [List.map_map, List.getD_eq_getElem?_getD, List.getElem?_map, hx]; rfl
  rw [← hns] at hk1 ⊢
  obtain ⟨n, hn⟩ : ∃ n, n = ps.length := ⟨_, rfl⟩
  rw [← hn] at hc hk1 hnl ⊢
  have HNL := Lib.hid hnl
  have HKL : Hid (∀ j, k ≤ kAt k ns j ∧ kAt k ns j ≤ kAt k ns n) := Lib.hid fun j => by have := kAt_le k ns j; rwa [hnl] at this
  have HKN : Hid (∀ j, j < n → kAt k ns (j + 1) = kAt k ns j + 1 + 1 + (ns.getD j 0 : Nat)) := Lib.hid fun j hj => kAt_next (by omega)
  have hn9 : (n : Int) ≤ 1000000000 := by have := kAt_two k ns; rw [hnl] at this; omega
  have HM := Lib.hid hm
  have HPN := Lib.hid hn.symm
  obtain ⟨h1, h2⟩ := hm.bnd
  clear hm hn hns hnl
  have HK0 := Lib.hid (kAt_zero k ns)
  go_enter Tryz.func49, Tryz.ntmps49
  go_wp2
  go_loopw [1, 5] (fun kv iv wr => ∃ (i : Nat) (K : Int) (qs : List SlotV), i ≤ n ∧ iv = .int .i64 i ∧ kv = .int .i64 K ∧ Hid (K = kAt k ns i) ∧ qs.length = n ∧ Hid (∀ (j : Nat) (x : SlotV), qs[j]? = some x → x.1.2.2.length = ns.getD j 0 ∧ (j < i → x.1 = slotMk (kAt k ns j) (ns.getD j 0))) ∧ Hid (SlotsM lo hi wr b off qs) ∧ Hid (Turned lo hi w wr) ∧ w.heap.size ≤ wr.heap.size) (fun _ iv _ => n - (intOf iv).toNat)
  case atStart => exact ⟨0, k, ps, Nat.zero_le _, rfl, rfl, Lib.hid HK0.out.symm, HPN.out, Lib.hid fun j x hx => ⟨HNA.out j x hx, fun hj => absurd hj (by omega)⟩, HM, Lib.hid (Turned.refl _ _ _), Nat.le_refl _⟩
  case round =>
    obtain ⟨i, K, qs, hi', rfl, rfl, HK, hql, HQ, HS, HT, hz⟩ := hrel
    by_cases hin : i < n
    · obtain ⟨x, hx⟩ : ∃ x, qs[i]? = some x := ⟨_, List.getElem?_eq_getElem (by omega)⟩
      have hlx := (HQ.out i x hx).1
      have hkb := HKL.out i
      have hkc := HKL.out (i + 1)
      have hkn := HKN.out i hin
      rw [← HK.out, ← hlx] at hkn
      rw [hkn] at hkc
      rw [← HK.out] at hkb
      have k0 : 0 < K := by omega
      have k1 : K + 1 + 1 + (x.1.2.2.length : Int) ≤ 1000000000 := by omega
      have HKN' := Lib.hid hkn
      have HLX := Lib.hid hlx
      clear hkb hkc hkn hlx
      have hat := HS.out.cells i x hx
      have d0 := hat 0 _ rfl
      have d1 := hat 1 _ rfl
      have d2 := hat 2 _ rfl
      have f0 := HS.out.free i 0 (by omega) (by decide)
      have f1 := HS.out.free i 1 (by omega) (by decide)
      have HX := Lib.hid hx
      clear hat hx
      rw [Nat.add_zero] at d0 f0
      have g1 : (i : Int) < (n : Int) := by omega
      have g2 : 0 ≤ (i : Int) := by omega
      go_wp2_with fail
      refine (markText_any K _ (by omega) (by omega)).mono ?_
      rintro e w2 ⟨rfl, hb2⟩
      have z2 := hb2.size
      have hs2 := HS.out.below hb2 (by omega)
      have HT2 := Lib.hid (HT.out.trans (Turned.of_below hb2))
      have hat := hs2.cells i x HX.out
      have d0 := hat 0 _ rfl
      have d1 := hat 1 _ rfl
      have d2 := hat 2 _ rfl
      have f0 := hs2.free i 0 (by omega) (by decide)
      rw [Nat.add_zero] at d0 f0
      have HS3 : Hid (SlotsM lo hi (w2.setCell ⟨b, off + i * 3, none⟩ (.string ⟨(markOf K).toArray⟩)) b off (qs.set i ((⟨(markOf K).toArray⟩, x.1.2), x.2))) := Lib.hid (hs2.setCell (t := 0) (y := ((⟨(markOf K).toArray⟩, x.1.2), x.2)) HX.out rfl rfl (by decide) rfl)
      have HT3 := Lib.hid (HT2.out.set (b := b) (off + i * 3) (.string ⟨(markOf K).toArray⟩) h1 h2)
      have HX3 : Hid ((qs.set i ((⟨(markOf K).toArray⟩, x.1.2), x.2))[i]? = some ((⟨(markOf K).toArray⟩, x.1.2), x.2)) := Lib.hid (List.getElem?_set_self (by omega))
      clear hat hs2 hb2
      go_wp2_with fail
      refine (markText_any (K + 1) _ (by omega) (by omega)).mono ?_
      rintro e w4 ⟨rfl, hb4⟩
      have z4 : w2.heap.size ≤ w4.heap.size := by have := hb4.size; simpa [World.setCell] using this
      have hs4 := HS3.out.below hb4 (by simp [World.setCell]; omega)
      have HT4 := Lib.hid (HT3.out.trans (Turned.of_below hb4))
      have hat := hs4.cells i _ HX3.out
      have d1 := hat 1 _ rfl
      have d2 := hat 2 _ rfl
      have f1 := hs4.free i 1 (by rw [List.length_set]; omega) (by decide)
      have hs5 := hs4.setCell (t := 1) (y := ((⟨(markOf K).toArray⟩, ⟨(markOf (K + 1)).toArray⟩, x.1.2.2), x.2)) HX3.out rfl rfl (by decide) rfl
      rw [List.set_set] at hs5
      have HS5 := Lib.hid hs5
      have HT5 := Lib.hid (HT4.out.set (b := b) (off + i * 3 + 1) (.string ⟨(markOf (K + 1)).toArray⟩) h1 h2)
      have HX5 : Hid ((qs.set i ((⟨(markOf K).toArray⟩, ⟨(markOf (K + 1)).toArray⟩, x.1.2.2), x.2))[i]? = some ((⟨(markOf K).toArray⟩, ⟨(markOf (K + 1)).toArray⟩, x.1.2.2), x.2)) := Lib.hid (List.getElem?_set_self (by omega))
      have HB4 := Lib.hid hb4
      clear hat hs4 hs5 hb4
      go_wp2_with fail
      have ho5 := HS5.out.own i _ HX5.out
      refine (markBytes_any lo hi (sv (((⟨(markOf K).toArray⟩, ⟨(markOf (K + 1)).toArray⟩, x.1.2.2), x.2) : SlotV)) x.1.2.2 (K + 1 + 1) _ (by omega) (by omega) (by omega) ho5).mono ?_
      rintro e w6 ⟨rfl, hn6, hg6⟩
      have z6 : w4.heap.size ≤ w6.heap.size := by have := hg6.size; simpa [World.setCell] using this
      have hs6 := HS5.out.reply HX5.out (marks_length _ _ _) hg6 (by simp [World.setCell]; omega) hn6
      rw [List.set_set] at hs6
      have HT6 := Lib.hid (HT5.out.trans (Turned.of_grown hg6 fun g hg => (ho5).blk g hg))
      have HS6 := Lib.hid hs6
      clear hs6 hn6 hg6 ho5
      go_wp2
      go_roundw
      case rel =>
        refine ⟨i + 1, K + 1 + 1 + (x.1.2.2.length : Int), _, by omega, by go_num, by go_num, Lib.hid HKN'.out.symm, by rw [List.length_set]; exact hql, Lib.hid fun j y hy => ?_, HS6, HT6, by omega⟩
        by_cases e : i = j
        · subst e
          rw [List.getElem?_set_self (by omega)] at hy
          cases hy
          refine ⟨by rw [← HLX.out]; exact marks_length (· % 256) (K + 1 + 1) _, fun _ => ?_⟩
          rw [← HLX.out, ← HK.out]
          rfl
        · rw [List.getElem?_set_ne e] at hy
          obtain ⟨q1, q2⟩ := HQ.out j y hy
          exact ⟨q1, fun h => q2 (by omega)⟩
      case measure => simp [intOf] <;> omega
    · obtain rfl : i = n := by omega
      have HKE := Lib.hid HK.out
      have HSL : Hid (qs.map (·.1) = slotsMark k ns) := Lib.hid (by
        apply List.ext_getElem?
        intro j
        by_cases hj : j < i
        · rw [slotsMark_at (by rw [HNL.out]; exact hj), List.getElem?_map, List.getElem?_eq_getElem (by omega : j < qs.length), Option.map_some, (HQ.out j _ (List.getElem?_eq_getElem (by omega))).2 hj]
        · rw [List.getElem?_eq_none (by rw [List.length_map]; omega), List.getElem?_eq_none (by rw [slotsMark_len, HNL.out]; omega)])
      go_wp2
      go_ret
      refine ⟨by rw [← HKE.out]; rfl, ?_, HT.out⟩
      have := HS.out.mine (c := c) (by omega)
      rw [HSL.out, hql] at this
      exact this
set_option maxRecDepth 100000 in
set_option maxHeartbeats 4000000 in
theorem heldSlots_any (hi : Nat) (v : Value) (ns : List Nat) (k : Int) (w : World) (hk0 : 0 < k) (hk1 : kAt k ns ns.length ≤ 1000000000) (h : SlotsR.rd hi w [v] (slotsMark k ns)) (hh : hi ≤ w.heap.size) :
    Calls Tryz.prog 70 #[v, .int .i64 k] w fun e w' => e = .returned (.int .i64 (kAt k ns ns.length)) ∧ Below w.heap.size w w' := by
  obtain ⟨A, c, hv, hc, h'⟩ := slots_rd h
  rw [slotsMark_len] at hv hc
  have HR := Lib.hid h'
  clear h h'
  subst hv
  obtain ⟨n, hn⟩ : ∃ n, n = ns.length := ⟨_, rfl⟩
  rw [← hn] at hc hk1 ⊢
  have HKL : Hid (∀ j, k ≤ kAt k ns j ∧ kAt k ns j ≤ kAt k ns n) := Lib.hid fun j => by have := kAt_le k ns j; rwa [← hn] at this
  have HKN : Hid (∀ j, j < n → kAt k ns (j + 1) = kAt k ns j + 1 + 1 + (ns.getD j 0 : Nat)) := Lib.hid fun j hj => kAt_next (by omega)
  have HK0 := Lib.hid (kAt_zero k ns)
  have hn9 : (n : Int) ≤ 1000000000 := by have := kAt_two k ns; rw [← hn] at this; omega
  have HNE := Lib.hid hn
  clear hn
  go_enter Tryz.func70, Tryz.ntmps70
  go_wp2
  go_loopw [1, 5] (fun kv iv wr => ∃ (i : Nat) (K : Int), i ≤ n ∧ iv = .int .i64 i ∧ kv = .int .i64 K ∧ Hid (K = kAt k ns i) ∧ Hid (Below w.heap.size w wr) ∧ w.heap.size ≤ wr.heap.size) (fun _ iv _ => n - (intOf iv).toNat)
  case atStart => exact ⟨0, k, Nat.zero_le _, rfl, rfl, Lib.hid HK0.out.symm, Lib.hid (Below.refl _ _), Nat.le_refl _⟩
  case round =>
    obtain ⟨i, K, hi', rfl, rfl, HK, HB, hz⟩ := hrel
    by_cases hin : i < n
    · obtain ⟨b, off, A', c', rfl, hb, c0, c1, c2, hrd⟩ := HR.out i _ (slotsMark_at (by rw [← HNE.out]; exact hin))
      have hkb := HKL.out i
      have hkc := HKL.out (i + 1)
      have hkn := HKN.out i hin
      rw [← HK.out] at hkn c0 c1 c2 hrd hkb
      obtain ⟨m, hm⟩ : ∃ m, m = ns.getD i 0 := ⟨_, rfl⟩
      rw [← hm] at hkn c0 c1 c2 hrd
      rw [hkn] at hkc
      have k0 : 0 < K := by omega
      have k1 : K + 1 + 1 + (m : Int) ≤ 1000000000 := by omega
      have HKN' := Lib.hid hkn
      simp only [slotMk, marks_length] at c0 c1 c2 hrd
      clear hkb hkc hkn hm
      have c0 := (HB.out.cell (p := ⟨b, _, none⟩) (show b < w.heap.size by omega)).trans c0
      have c1 := (HB.out.cell (p := ⟨b, _, none⟩) (show b < w.heap.size by omega)).trans c1
      have c2 := (HB.out.cell (p := ⟨b, _, none⟩) (show b < w.heap.size by omega)).trans c2
      have HRD := Lib.hid (hrd.below HB.out hh)
      clear hrd
      have g1 : (i : Int) < (n : Int) := by omega
      have g2 : 0 ≤ (i : Int) := by omega
      have hml0 := markOf_size K (by omega)
      have hml1 := markOf_size (K + 1) (by omega)
      have HX0 : Hid (∀ w', Calls Tryz.prog 66 #[.int .i64 K] w' fun e w'' => e = .returned (.string ⟨(markOf K).toArray⟩) ∧ Below w'.heap.size w' w'') := Lib.hid fun w' => markText_any _ w' (by omega) (by omega)
      have HX1 : Hid (∀ w', Calls Tryz.prog 66 #[.int .i64 (K + 1)] w' fun e w'' => e = .returned (.string ⟨(markOf (K + 1)).toArray⟩) ∧ Below w'.heap.size w' w'') := Lib.hid fun w' => markText_any _ w' (by omega) (by omega)
      generalize markOf K = mk0 at c0 hml0 HX0
      generalize markOf (K + 1) = mk1 at c1 hml1 HX1
      go_wp2
      go_region_held3 (fun w' => w'.cell? ⟨b, off + i * 3, none⟩ = some (.string ⟨mk0.toArray⟩)) (go_keep) (first | (go_at_call 66; refine (HX0.out _).mono ?_; rintro e w2 ⟨rfl, hb2⟩; have q := (hb2.cell (p := ⟨b, off + i * 3, none⟩) (show b < wr.heap.size by omega)).trans c0))
      have c1 := (hb2.cell (p := ⟨b, off + i * 3 + 1, none⟩) (show b < wr.heap.size by omega)).trans c1
      have c2 := (hb2.cell (p := ⟨b, off + i * 3 + 2, none⟩) (show b < wr.heap.size by omega)).trans c2
      have hz2 : wr.heap.size ≤ w2.heap.size := hb2.size
      have hb2' := (Below.refl wr.heap.size wr).drew.trans hb2
      have HRD2 := Lib.hid (HRD.out.below hb2' (by omega))
      have HB2 : Hid (Below w.heap.size w w2) := Lib.hid (HB.out.trans (hb2'.mono hz))
      clear hb2 hb2' q c0
      go_wp2
      go_region_held3 (fun w' => w'.cell? ⟨b, off + i * 3 + 1, none⟩ = some (.string ⟨mk1.toArray⟩)) (go_keep) (first | (go_at_call 66; refine (HX1.out _).mono ?_; rintro e w4 ⟨rfl, hb4⟩; have q := (hb4.cell (p := ⟨b, off + i * 3 + 1, none⟩) (show b < w2.heap.size by omega)).trans c1))
      have c2 := (hb4.cell (p := ⟨b, off + i * 3 + 2, none⟩) (show b < w2.heap.size by omega)).trans c2
      have hz4 : w2.heap.size ≤ w4.heap.size := hb4.size
      have hb4' := (Below.refl w2.heap.size w2).drew.trans hb4
      have HRD4 := Lib.hid (HRD2.out.below hb4' (by omega))
      have HB4 : Hid (Below w.heap.size w w4) := Lib.hid (HB2.out.trans (hb4'.mono (by omega)))
      clear hb4 hb4' q c1
      go_wp2_with fail
      refine (heldBytes_any hi _ m (K + 1 + 1) w4 (by omega) (by omega) (by omega) HRD4.out).mono ?_
      rintro e w6 ⟨rfl, hb6⟩
      have hz6 := hb6.size
      have HB6 : Hid (Below w.heap.size w w6) := Lib.hid (HB4.out.trans (hb6.mono (by omega)))
      have kn : ¬ (K + 1 + 1 + (m : Int) < 0) := by omega
      clear hb6 c2
      go_wp2
      go_roundw
      case rel => exact ⟨i + 1, K + 1 + 1 + (m : Int), by omega, by go_num, by go_num, Lib.hid HKN'.out.symm, HB6, by omega⟩
      case measure => simp [intOf] <;> omega
    · obtain rfl : i = n := by omega
      go_wp2
      go_ret
      exact ⟨by rw [HK.out]; rfl, HB.out⟩
end Go.Proofs.YthnimmagaocipaaGreatDoor
set_option linter.unusedVariables false
namespace Go.Proofs.YthnimmagaocipaaGreatDoor
open Go.ChangeShapes Go.WideShapes Go.ChangeAt Go.RowKit

set_option maxRecDepth 100000 in
theorem mem_sum {α : Type} (f : α → Nat) : ∀ {l : List α} {x : α}, x ∈ l → f x ≤ (l.map f).sum
  | [], x, h => by simp at h
  | y :: l, x, h => by
    rw [List.map_cons, List.sum_cons]
    rcases List.mem_cons.1 h with rfl | h
    · omega
    · have := mem_sum f h; omega
set_option maxRecDepth 100000 in
theorem sz_len {l : List SlotD} {N : Nat} (h : slotsSz l ≤ N) : l.length ≤ N := by unfold slotsSz at h; omega
set_option maxRecDepth 100000 in
theorem sz_reply {l : List SlotD} {N : Nat} (h : slotsSz l ≤ N) : ∀ x ∈ l, x.2.2.length ≤ N := fun x hx => by
  have h1 := mem_sum slotSz hx
  have h2 : x.2.2.length ≤ slotSz x := by unfold slotSz; omega
  unfold slotsSz at h
  omega
end Go.Proofs.YthnimmagaocipaaGreatDoor
set_option linter.unusedVariables false
namespace Go.Proofs.YthnimmagaocipaaGreatDoor
set_option maxRecDepth 100000 in
theorem acct_small {a : AcctD} {N : Nat} (h : acctSz a ≤ N) : acctSmall N a := by
  unfold acctSz at h
  have hs : slotsSz (aS a) ≤ N := by omega
  exact ⟨by unfold holdsSz at h; omega, by omega, by omega, sz_len hs, sz_reply hs⟩
end Go.Proofs.YthnimmagaocipaaGreatDoor
set_option linter.unusedVariables false
namespace Go.Proofs.YthnimmagaocipaaGreatDoor
open Go.ChangeShapes Go.WideShapes Go.ChangeAt Go.RowKit

set_option maxRecDepth 100000 in
set_option maxHeartbeats 16000000 in
theorem eqAccts_any (hi1 hi2 : Nat) (va vb : Value) (l : BookD) (w : World) (hs : bookSmall 1048576 l) (h1 : AcctsR.rd hi1 w [va] l) (h2 : AcctsR.rd hi2 w [vb] l) (hh1 : hi1 ≤ w.heap.size) (hh2 : hi2 ≤ w.heap.size) :
    Calls Tryz.prog 25 #[va, vb] w fun e w' => e = .returned (.bool true) ∧ Below w.heap.size w w' := by
  obtain ⟨A1, c1, rfl, -, h1⟩ := accts_rd h1
  obtain ⟨A2, c2, rfl, -, h2⟩ := accts_rd h2
  obtain ⟨hn, hs⟩ := hs
  have H1 := Lib.hid h1
  have H2 := Lib.hid h2
  have HS := Lib.hid hs
  clear h1 h2 hs
  go_enter Tryz.func25, Tryz.ntmps25
  go_wp2
  go_loopw [5] (fun iv wr => ∃ k : Nat, k ≤ l.length ∧ iv = .int .i64 k ∧ Hid (Below w.heap.size w wr) ∧ w.heap.size ≤ wr.heap.size) (fun iv _ => l.length - (intOf iv).toNat)
  case atStart => exact ⟨0, Nat.zero_le _, rfl, Lib.hid (Below.refl _ _), Nat.le_refl _⟩
  case round =>
    obtain ⟨k, hk, rfl, HB, hz⟩ := hrel
    by_cases hlt : k < l.length
    · obtain ⟨x, hx⟩ : ∃ x, l[k]? = some x := ⟨_, List.getElem?_eq_getElem hlt⟩
      obtain ⟨b1, o1, AH, cH, AC, cC, AS, cS, AL, cL, rfl, hb1, x1, r1⟩ := H1.out k x hx
      obtain ⟨b2, o2, BH, dH, BC, dC, BS, dS, BL, dL, rfl, hb2, x2, r2⟩ := H2.out k x hx
      have hxs := HS.out x (List.mem_of_getElem? hx)
      have HE := Lib.hid (fun W (hW : Below w.heap.size w W) => eqAcct_any hi1 hi2 _ _ _ _ _ _ _ _ x W hxs (Rep.below (R := AcctR) r1 hW hh1) (Rep.below (R := AcctR) r2 hW hh2) (Nat.le_trans hh1 hW.size) (Nat.le_trans hh2 hW.size))
      clear r1 r2
      have HX1 := Lib.hid (fun W (hW : Below w.heap.size w W) => (x1.below hW (show b1 < w.heap.size by omega)).eleven)
      have HX2 := Lib.hid (fun W (hW : Below w.heap.size w W) => (x2.below hW (show b2 < w.heap.size by omega)).eleven)
      clear x1 x2
      have g1 : (k : Int) < (l.length : Int) := by omega
      have g2 : 0 ≤ (k : Int) := by omega
      clear hx
      obtain ⟨p0, p1, p2, p3, p4, p5, p6, p7, p8, p9, p10⟩ := HX1.out _ HB.out
      obtain ⟨q0, q1, q2, q3, q4, q5, q6, q7, q8, q9, q10⟩ := HX2.out _ HB.out
      have hD : Below w.heap.size w wr.drew := HB.out.drew
      have hzd : w.heap.size ≤ wr.drew.heap.size := hz
      go_wp2
      go_region_held3 (fun w' => Below w.heap.size w w' ∧ (w'.cell? ⟨b1, o1 + k * 11, none⟩ = some (.string (aId x)) ∧ w'.cell? ⟨b1, o1 + k * 11 + 1, none⟩ = some (.int .i64 (aLim x)) ∧ w'.cell? ⟨b1, o1 + k * 11 + 2, none⟩ = some (.int .i64 (aPos x)) ∧ w'.cell? ⟨b1, o1 + k * 11 + 3, none⟩ = some (.int .i64 (aMost x)) ∧ w'.cell? ⟨b1, o1 + k * 11 + 4, none⟩ = some (.int .i64 (aSum x)) ∧ w'.cell? ⟨b1, o1 + k * 11 + 5, none⟩ = some (.slice AH (aH x).length cH) ∧ w'.cell? ⟨b1, o1 + k * 11 + 6, none⟩ = some (.int .i64 (aR x).1) ∧ w'.cell? ⟨b1, o1 + k * 11 + 7, none⟩ = some (.int .i64 (aR x).2.1) ∧ w'.cell? ⟨b1, o1 + k * 11 + 8, none⟩ = some (.slice AC (aR x).2.2.1.length cC) ∧ w'.cell? ⟨b1, o1 + k * 11 + 9, none⟩ = some (.slice AS (aR x).2.2.2.length cS) ∧ w'.cell? ⟨b1, o1 + k * 11 + 10, none⟩ = some (.slice AL (aS x).length cL)) ∧ (w'.cell? ⟨b2, o2 + k * 11, none⟩ = some (.string (aId x)) ∧ w'.cell? ⟨b2, o2 + k * 11 + 1, none⟩ = some (.int .i64 (aLim x)) ∧ w'.cell? ⟨b2, o2 + k * 11 + 2, none⟩ = some (.int .i64 (aPos x)) ∧ w'.cell? ⟨b2, o2 + k * 11 + 3, none⟩ = some (.int .i64 (aMost x)) ∧ w'.cell? ⟨b2, o2 + k * 11 + 4, none⟩ = some (.int .i64 (aSum x)) ∧ w'.cell? ⟨b2, o2 + k * 11 + 5, none⟩ = some (.slice BH (aH x).length dH) ∧ w'.cell? ⟨b2, o2 + k * 11 + 6, none⟩ = some (.int .i64 (aR x).1) ∧ w'.cell? ⟨b2, o2 + k * 11 + 7, none⟩ = some (.int .i64 (aR x).2.1) ∧ w'.cell? ⟨b2, o2 + k * 11 + 8, none⟩ = some (.slice BC (aR x).2.2.1.length dC) ∧ w'.cell? ⟨b2, o2 + k * 11 + 9, none⟩ = some (.slice BS (aR x).2.2.2.length dS) ∧ w'.cell? ⟨b2, o2 + k * 11 + 10, none⟩ = some (.slice BL (aS x).length dL))) (refine ⟨by assumption, HX1.out _ (by assumption), HX2.out _ (by assumption)⟩) ((go_at_call 19; refine (HE.out _ (by assumption)).mono ?_; rintro e w2 ⟨rfl, hb⟩; have hD2 : Below w.heap.size w w2 := hD.trans (hb.mono hzd)))
      have HB2 : Hid (Below w.heap.size w w2) := Lib.hid hD2
      have hz2 := hD2.size
      clear hb hD2 hD
      go_wp2
      go_roundw
      case rel => exact ⟨k + 1, by omega, by go_num, HB2, hz2⟩
      case measure => simp [intOf] <;> omega
    · go_wp2
      go_ret
      exact ⟨rfl, HB.out⟩
set_option maxRecDepth 100000 in
set_option maxHeartbeats 1600000 in
theorem szAccts_any (hi : Nat) (v : Value) (l : BookD) (left : Int) (w : World) (hs : bookBig l) (h : AcctsR.rd hi w [v] l) (hh : hi ≤ w.heap.size) (h0 : 0 ≤ left) (h1 : left ≤ 1048576) :
    Calls Tryz.prog 21 #[v, .int .i64 left] w (szRes left (bookSz l) w) := by
  obtain ⟨A, c, rfl, hc, h⟩ := accts_rd h
  obtain ⟨hn, hs⟩ := hs
  have HR := Lib.hid h
  have HS := Lib.hid hs
  clear h hs
  unfold maxLen at hn
  by_cases hbig : left - (l.length : Int) < 0
  · go_enter Tryz.func21, Tryz.ntmps21
    go_wp2
    go_ret
    exact ⟨_, rfl, .inl rfl, Below.refl _ _⟩
  have hge : 0 ≤ left - (l.length : Int) := by omega
  go_enter Tryz.func21, Tryz.ntmps21
  go_wp2
  go_loopw [1, 5] (fun nv iv wr => ∃ (i : Nat) (r : Int), i ≤ l.length ∧ iv = .int .i64 i ∧ nv = .int .i64 r ∧ 0 ≤ r ∧ r ≤ 1048576 ∧ Hid (r = left - (l.length : Int) - (sumTo acctSz l i : Nat)) ∧ Hid (Below w.heap.size w wr) ∧ w.heap.size ≤ wr.heap.size) (fun _ iv _ => l.length - (intOf iv).toNat)
  case atStart => exact ⟨0, _, Nat.zero_le _, rfl, rfl, by omega, by omega, Lib.hid (by simp [sumTo]), Lib.hid (Below.refl _ _), Nat.le_refl _⟩
  case round =>
    obtain ⟨i, r, hil, rfl, rfl, hr0, hr1, HV, HB, hz⟩ := hrel
    by_cases hin : i < l.length
    · obtain ⟨x, hx⟩ : ∃ x, l[i]? = some x := ⟨_, List.getElem?_eq_getElem hin⟩
      obtain ⟨b, off, AH, cH, AC, cC, AS, cS, AL, cL, rfl, hbl, hat, hrd⟩ := HR.out i x hx
      have hxs := HS.out x (List.mem_of_getElem? hx)
      have HN := Lib.hid (sumTo_next acctSz l i x hx)
      clear hx
      have hat := hat.below HB.out (show b < w.heap.size by omega)
      obtain ⟨d0, d1, d2, d3, d4, d5, d6, d7, d8, d9, d10⟩ := hat.eleven
      have HZ := Lib.hid (szAcct_any hi _ _ _ _ x r wr hxs (Rep.below (R := AcctR) hrd HB.out hh) (by omega) hr0 hr1)
      clear hrd hat hxs
      have g1 : (i : Int) < (l.length : Int) := by omega
      have g2 : 0 ≤ (i : Int) := by omega
      go_wp2_with fail
      refine HZ.out.mono ?_
      rintro e w2 ⟨r2, rfl, hr2, hb2⟩
      have hz2 := hb2.size
      have HB2 : Hid (Below w.heap.size w w2) := Lib.hid (HB.out.trans (hb2.mono (by omega)))
      clear hb2 d0 d1 d2 d3 d4 d5 d6 d7 d8 d9 d10
      rcases hr2 with rfl | ⟨hr2, hr3⟩
      · go_wp2
        go_ret
        exact ⟨_, rfl, .inl rfl, HB2.out⟩
      · have HR2 := Lib.hid hr2
        have hr4 : r2 ≤ 1048576 := by omega
        clear hr2
        go_wp2
        go_roundw
        case rel => exact ⟨i + 1, r2, by omega, by go_num, rfl, hr3, hr4, Lib.hid (by rw [HN.out, HR2.out, HV.out]; omega), HB2, by omega⟩
        case measure => simp [intOf] <;> omega
    · obtain rfl : i = l.length := by omega
      go_wp2
      go_ret
      exact ⟨r, rfl, .inr ⟨by rw [HV.out, sumTo_all]; unfold bookSz; omega, hr0⟩, HB.out⟩
set_option maxRecDepth 100000 in
set_option maxHeartbeats 1600000 in
theorem szBook_any (hi : Nat) (v : Value) (l : BookD) (left : Int) (w : World) (hs : bookBig l) (h : AcctsR.rd hi w [v] l) (hh : hi ≤ w.heap.size) (h0 : 0 ≤ left) (h1 : left ≤ 1048576) :
    Calls Tryz.prog 6 #[.agg #[v], .int .i64 left] w (szRes left (bookSz l) w) := by
  obtain ⟨A, c, rfl, hc⟩ := Rep.slice_form h
  have HQ := Lib.hid (fun W (hW : Below w.heap.size w W) => szAccts_any hi _ l left W hs (Rep.below (R := AcctsR) h hW hh) (Nat.le_trans hh hW.size) h0 h1)
  have HB0 : Hid (∀ o, Below w.heap.size w (w.alloc o)) := Lib.hid fun o => (Below.refl _ _).alloc (Nat.le_refl _) _
  clear h hs
  go_enter Tryz.func6, Tryz.ntmps6
  go_wp2_with fail
  refine (HQ.out _ (HB0.out _)).mono ?_
  rintro e w2 ⟨r2, rfl, hr2, hb2⟩
  have HB2 : Hid (Below w.heap.size w w2) := Lib.hid ((HB0.out _).trans (hb2.mono (by simp)))
  clear hb2
  rcases hr2 with rfl | ⟨hr2, hr3⟩
  · go_wp2
    go_ret
    exact ⟨_, rfl, .inl rfl, HB2.out⟩
  · have HR2 := Lib.hid hr2
    clear hr2
    go_wp2
    go_ret
    exact ⟨_, rfl, .inr ⟨HR2.out, hr3⟩, HB2.out⟩
set_option maxRecDepth 100000 in
set_option maxHeartbeats 1600000 in
theorem eqBook_any (hi1 hi2 : Nat) (va vb : Value) (l : BookD) (w : World) (hs : bookSmall 1048576 l) (h1 : AcctsR.rd hi1 w [va] l) (h2 : AcctsR.rd hi2 w [vb] l) (hh1 : hi1 ≤ w.heap.size) (hh2 : hi2 ≤ w.heap.size) :
    Calls Tryz.prog 10 #[.agg #[va], .agg #[vb]] w fun e w' => e = .returned (.bool true) ∧ Below w.heap.size w w' := by
  obtain ⟨A, c, rfl, hc⟩ := Rep.slice_form h1
  obtain ⟨A', c', rfl, hc'⟩ := Rep.slice_form h2
  have HQ := Lib.hid (fun W (hW : Below w.heap.size w W) => eqAccts_any hi1 hi2 _ _ l W hs (Rep.below (R := AcctsR) h1 hW hh1) (Rep.below (R := AcctsR) h2 hW hh2) (Nat.le_trans hh1 hW.size) (Nat.le_trans hh2 hW.size))
  have HB0 : Hid (∀ o o', Below w.heap.size w ((w.alloc o).alloc o')) := Lib.hid fun o o' => ((Below.refl _ _).alloc (Nat.le_refl _) _).alloc (by simp) _
  clear h1 h2 hs
  go_enter Tryz.func10, Tryz.ntmps10
  go_wp2_with fail
  refine (HQ.out _ (HB0.out _ _)).mono ?_
  rintro e w2 ⟨rfl, hb2⟩
  have HB2 : Hid (Below w.heap.size w w2) := Lib.hid ((HB0.out _ _).trans (hb2.mono (by simp; omega)))
  clear hb2
  go_wp2
  go_ret
  exact ⟨rfl, HB2.out⟩
set_option maxRecDepth 100000 in
theorem book_small {l : BookD} {N : Nat} (h : bookSz l ≤ N) : bookSmall N l := by
  unfold bookSz at h
  refine ⟨by omega, fun x hx => acct_small ?_⟩
  have := le_sum acctSz hx
  omega
end Go.Proofs.YthnimmagaocipaaGreatDoor
