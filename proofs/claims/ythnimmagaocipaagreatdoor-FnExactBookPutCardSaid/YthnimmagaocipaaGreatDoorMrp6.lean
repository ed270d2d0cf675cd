/- Marks in slices of slots, and looks at them; no conditions. -/
import Derived.Test.YthnimmagaocipaaGreatDoorMrp4
import Derived.Test.YthnimmagaocipaaGreatDoorMrp5
import Derived.Test.YthnimmagaocipaaGreatDoorMrp2
import Derived.Deep.RegionHeld3
set_option linter.unusedVariables false
namespace Go.Proofs.YthnimmagaocipaaGreatDoor
open Go.ChangeShapes Go.WideShapes Go.ChangeAt Go.RowKit

/-- a slot that bears the marks from k on -/
def slotMk (k : Int) (n : Nat) : SlotD := (⟨(markOf k).toArray⟩, ⟨(markOf (k + 1)).toArray⟩, marksL (· % 256) (k + 1 + 1) n)
/-- the mark that element j's begin with -/
def kAt (k : Int) (ns : List Nat) (j : Nat) : Int := k + (((ns.take j).map fun n => 2 + n).sum : Nat)
def slotsMark (k : Int) (ns : List Nat) : List SlotD := (List.range ns.length).map fun j => slotMk (kAt k ns j) (ns.getD j 0)
def lensOf (l : List SlotD) : List Nat := l.map (·.2.2.length)
set_option maxRecDepth 100000 in
theorem lensOf_len (l : List SlotD) : (lensOf l).length = l.length := List.length_map ..
set_option maxRecDepth 100000 in
theorem slotsMark_len (k : Int) (ns : List Nat) : (slotsMark k ns).length = ns.length := by simp [slotsMark]
set_option maxRecDepth 100000 in
theorem slotsMark_at {k : Int} {ns : List Nat} {j : Nat} (h : j < ns.length) : (slotsMark k ns)[j]? = some (slotMk (kAt k ns j) (ns.getD j 0)) := by simp [slotsMark, h]
set_option maxRecDepth 100000 in
theorem kAt_zero (k : Int) (ns : List Nat) : kAt k ns 0 = k := by simp [kAt]
set_option maxRecDepth 100000 in
theorem kAt_next {k : Int} {ns : List Nat} {j : Nat} (h : j < ns.length) : kAt k ns (j + 1) = kAt k ns j + 1 + 1 + (ns.getD j 0 : Nat) := by
  unfold kAt
  rw [List.take_succ_eq_append_getElem h, List.map_append, List.sum_append, List.getD_eq_getElem?_getD, List.getElem?_eq_getElem h]
  simp only [List.map_cons, List.map_nil, List.sum_cons, List.sum_nil, Option.getD_some]
  omega
set_option maxRecDepth 100000 in
theorem sum_take_le : ∀ (l : List Nat) (j : Nat), (l.take j).sum ≤ l.sum
  | [], j => by simp
  | x :: l, 0 => by simp
  | x :: l, j + 1 => by have := sum_take_le l j; simp only [List.take_succ_cons, List.sum_cons]; omega
set_option maxRecDepth 100000 in
theorem kAt_le (k : Int) (ns : List Nat) (j : Nat) : k ≤ kAt k ns j ∧ kAt k ns j ≤ kAt k ns ns.length := by
  unfold kAt
  have h := sum_take_le (ns.map fun n => 2 + n) j
  rw [List.take_length, List.map_take]
  omega
set_option maxRecDepth 100000 in
theorem two_sum : ∀ l : List Nat, 2 * l.length ≤ (l.map fun n => 2 + n).sum
  | [] => by simp
  | x :: l => by have := two_sum l; simp only [List.map_cons, List.sum_cons, List.length_cons]; omega
set_option maxRecDepth 100000 in
theorem kAt_two (k : Int) (ns : List Nat) : k + 2 * (ns.length : Int) ≤ kAt k ns ns.length := by
  unfold kAt
  rw [List.take_length]
  have := two_sum ns
  omega
set_option maxRecDepth 100000 in
set_option maxHeartbeats 4000000 in
theorem markSlots_any (lo hi : Nat) (v : Value) (l : List SlotD) (k : Int) (w : World) (hk0 : 0 < k) (hk1 : kAt k (lensOf l) l.length ≤ 1000000000) (h : SlotsR.mine lo hi w [v] l) (hh : hi ≤ w.heap.size) :
    Calls Tryz.prog 49 #[v, .int .i64 k] w fun e w' => e = .returned (.int .i64 (kAt k (lensOf l) l.length)) ∧ SlotsR.mine lo hi w' [v] (slotsMark k (lensOf l)) ∧ Turned lo hi w w' := by
  obtain ⟨A, c, rfl, hc, hm⟩ := slots_mem h
  clear h
  rcases hm with rfl | ⟨b, off, ps, rfl, rfl, hm⟩
  · go_enter Tryz.func49, Tryz.ntmps49
    go_wp2
    go_loop [1, 5] (fun kv iv => iv = .int .i64 0 ∧ kv = .int .i64 k) (fun _ _ => 0)
    case atStart => exact ⟨rfl, rfl⟩
    case round =>
      obtain ⟨rfl, rfl⟩ := hrel
      go_wp2
      go_ret
      exact ⟨by simp [kAt], ⟨[], ⟨A, c, rfl, hc, .inl ⟨rfl, rfl⟩⟩, List.nodup_nil, by simp⟩, Turned.refl _ _ _⟩
  rw [List.length_map] at hc hk1 ⊢
  obtain ⟨ns, hns⟩ : ∃ ns, ns = lensOf (ps.map (·.1)) := ⟨_, rfl⟩
  have hnl : ns.length = ps.length := by rw [hns, lensOf_len, List.length_map]
  have HNA : Hid (∀ (j : Nat) (x : SlotV), ps[j]? = some x → x.1.2.2.length = ns.getD j 0) := Lib.hid fun j x hx => by
    rw [hns]
    unfold lensOf
    rw [List.map_map, List.getD_eq_getElem?_getD, List.getElem?_map, hx]; rfl
  rw [← hns] at hk1 ⊢
  obtain ⟨n, hn⟩ : ∃ n, n = ps.length := ⟨_, rfl⟩
  rw [← hn] at hc hk1 hnl ⊢
  have HNL := Lib.hid hnl
  have HKL : Hid (∀ j, k ≤ kAt k ns j ∧ kAt k ns j ≤ kAt k ns n) := Lib.hid fun j => by have := kAt_le k ns j; rwa [hnl] at this
  have HKN : Hid (∀ j, j < n → kAt k ns (j + 1) = kAt k ns j + 1 + 1 + (ns.getD j 0 : Nat)) := Lib.hid fun j hj => kAt_next (by omega)
  have hn9 : (n : Int) ≤ 1000000000 := by have := kAt_two k ns; rw [hnl] at this; omega
  have HM := Lib.hid hm
  have HPN := Lib.hid hn.symm
  obtain ⟨h1, h2⟩ := hm.bnd
  clear hm hn hns hnl
  have HK0 := Lib.hid (kAt_zero k ns)
  go_enter Tryz.func49, Tryz.ntmps49
  go_wp2
  go_loopw [1, 5] (fun kv iv wr => ∃ (i : Nat) (K : Int) (qs : List SlotV), i ≤ n ∧ iv = .int .i64 i ∧ kv = .int .i64 K ∧ Hid (K = kAt k ns i) ∧ qs.length = n ∧ Hid (∀ (j : Nat) (x : SlotV), qs[j]? = some x → x.1.2.2.length = ns.getD j 0 ∧ (j < i → x.1 = slotMk (kAt k ns j) (ns.getD j 0))) ∧ Hid (SlotsM lo hi wr b off qs) ∧ Hid (Turned lo hi w wr) ∧ w.heap.size ≤ wr.heap.size) (fun _ iv _ => n - (intOf iv).toNat)
  case atStart => exact ⟨0, k, ps, Nat.zero_le _, rfl, rfl, Lib.hid HK0.out.symm, HPN.out, Lib.hid fun j x hx => ⟨HNA.out j x hx, fun hj => absurd hj (by omega)⟩, HM, Lib.hid (Turned.refl _ _ _), Nat.le_refl _⟩
  case round =>
    obtain ⟨i, K, qs, hi', rfl, rfl, HK, hql, HQ, HS, HT, hz⟩ := hrel
    by_cases hin : i < n
    · obtain ⟨x, hx⟩ : ∃ x, qs[i]? = some x := ⟨_, List.getElem?_eq_getElem (by omega)⟩
      have hlx := (HQ.out i x hx).1
      have hkb := HKL.out i
      have hkc := HKL.out (i + 1)
      have hkn := HKN.out i hin
      rw [← HK.out, ← hlx] at hkn
      rw [hkn] at hkc
      rw [← HK.out] at hkb
      have k0 : 0 < K := by omega
      have k1 : K + 1 + 1 + (x.1.2.2.length : Int) ≤ 1000000000 := by omega
      have HKN' := Lib.hid hkn
      have HLX := Lib.hid hlx
      clear hkb hkc hkn hlx
      have hat := HS.out.cells i x hx
      have d0 := hat 0 _ rfl
      have d1 := hat 1 _ rfl
      have d2 := hat 2 _ rfl
      have f0 := HS.out.free i 0 (by omega) (by decide)
      have f1 := HS.out.free i 1 (by omega) (by decide)
      have HX := Lib.hid hx
      clear hat hx
      rw [Nat.add_zero] at d0 f0
      have g1 : (i : Int) < (n : Int) := by omega
      have g2 : 0 ≤ (i : Int) := by omega
      go_wp2_with fail
      refine (markText_any K _ (by omega) (by omega)).mono ?_
      rintro e w2 ⟨rfl, hb2⟩
      have z2 := hb2.size
      have hs2 := HS.out.below hb2 (by omega)
      have HT2 := Lib.hid (HT.out.trans (Turned.of_below hb2))
      have hat := hs2.cells i x HX.out
      have d0 := hat 0 _ rfl
      have d1 := hat 1 _ rfl
      have d2 := hat 2 _ rfl
      have f0 := hs2.free i 0 (by omega) (by decide)
      rw [Nat.add_zero] at d0 f0
      have HS3 : Hid (SlotsM lo hi (w2.setCell ⟨b, off + i * 3, none⟩ (.string ⟨(markOf K).toArray⟩)) b off (qs.set i ((⟨(markOf K).toArray⟩, x.1.2), x.2))) := Lib.hid (hs2.setCell (t := 0) (y := ((⟨(markOf K).toArray⟩, x.1.2), x.2)) HX.out rfl rfl (by decide) rfl)
      have HT3 := Lib.hid (HT2.out.set (b := b) (off + i * 3) (.string ⟨(markOf K).toArray⟩) h1 h2)
      have HX3 : Hid ((qs.set i ((⟨(markOf K).toArray⟩, x.1.2), x.2))[i]? = some ((⟨(markOf K).toArray⟩, x.1.2), x.2)) := Lib.hid (List.getElem?_set_self (by omega))
      clear hat hs2 hb2
      go_wp2_with fail
      refine (markText_any (K + 1) _ (by omega) (by omega)).mono ?_
      rintro e w4 ⟨rfl, hb4⟩
      have z4 : w2.heap.size ≤ w4.heap.size := by have := hb4.size; simpa [World.setCell] using this
      have hs4 := HS3.out.below hb4 (by simp [World.setCell]; omega)
      have HT4 := Lib.hid (HT3.out.trans (Turned.of_below hb4))
      have hat := hs4.cells i _ HX3.out
      have d1 := hat 1 _ rfl
      have d2 := hat 2 _ rfl
      have f1 := hs4.free i 1 (by rw [List.length_set]; omega) (by decide)
      have hs5 := hs4.setCell (t := 1) (y := ((⟨(markOf K).toArray⟩, ⟨(markOf (K + 1)).toArray⟩, x.1.2.2), x.2)) HX3.out rfl rfl (by decide) rfl
      rw [List.set_set] at hs5
      have HS5 := Lib.hid hs5
      have HT5 := Lib.hid (HT4.out.set (b := b) (off + i * 3 + 1) (.string ⟨(markOf (K + 1)).toArray⟩) h1 h2)
      have HX5 : Hid ((qs.set i ((⟨(markOf K).toArray⟩, ⟨(markOf (K + 1)).toArray⟩, x.1.2.2), x.2))[i]? = some ((⟨(markOf K).toArray⟩, ⟨(markOf (K + 1)).toArray⟩, x.1.2.2), x.2)) := Lib.hid (List.getElem?_set_self (by omega))
      have HB4 := Lib.hid hb4
      clear hat hs4 hs5 hb4
      go_wp2_with fail
      have ho5 := HS5.out.own i _ HX5.out
      refine (markBytes_any lo hi (sv (((⟨(markOf K).toArray⟩, ⟨(markOf (K + 1)).toArray⟩, x.1.2.2), x.2) : SlotV)) x.1.2.2 (K + 1 + 1) _ (by omega) (by omega) (by omega) ho5).mono ?_
      rintro e w6 ⟨rfl, hn6, hg6⟩
      have z6 : w4.heap.size ≤ w6.heap.size := by have := hg6.size; simpa [World.setCell] using this
      have hs6 := HS5.out.reply HX5.out (marks_length _ _ _) hg6 (by simp [World.setCell]; omega) hn6
      rw [List.set_set] at hs6
      have HT6 := Lib.hid (HT5.out.trans (Turned.of_grown hg6 fun g hg => (ho5).blk g hg))
      have HS6 := Lib.hid hs6
      clear hs6 hn6 hg6 ho5
      go_wp2
      go_roundw
      case rel =>
        refine ⟨i + 1, K + 1 + 1 + (x.1.2.2.length : Int), _, by omega, by go_num, by go_num, Lib.hid HKN'.out.symm, by rw [List.length_set]; exact hql, Lib.hid fun j y hy => ?_, HS6, HT6, by omega⟩
        by_cases e : i = j
        · subst e
          rw [List.getElem?_set_self (by omega)] at hy
          cases hy
          refine ⟨by rw [← HLX.out]; exact marks_length (· % 256) (K + 1 + 1) _, fun _ => ?_⟩
          rw [← HLX.out, ← HK.out]
          rfl
        · rw [List.getElem?_set_ne e] at hy
          obtain ⟨q1, q2⟩ := HQ.out j y hy
          exact ⟨q1, fun h => q2 (by omega)⟩
      case measure => simp [intOf] <;> omega
    · obtain rfl : i = n := by omega
      have HKE := Lib.hid HK.out
      have HSL : Hid (qs.map (·.1) = slotsMark k ns) := Lib.hid (by
        apply List.ext_getElem?
        intro j
        by_cases hj : j < i
        · rw [slotsMark_at (by rw [HNL.out]; exact hj), List.getElem?_map, List.getElem?_eq_getElem (by omega : j < qs.length), Option.map_some, (HQ.out j _ (List.getElem?_eq_getElem (by omega))).2 hj]
        · rw [List.getElem?_eq_none (by rw [List.length_map]; omega), List.getElem?_eq_none (by rw [slotsMark_len, HNL.out]; omega)])
      go_wp2
      go_ret
      refine ⟨by rw [← HKE.out]; rfl, ?_, HT.out⟩
      have := HS.out.mine (c := c) (by omega)
      rw [HSL.out, hql] at this
      exact this
set_option maxRecDepth 100000 in
set_option maxHeartbeats 4000000 in
theorem heldSlots_any (hi : Nat) (v : Value) (ns : List Nat) (k : Int) (w : World) (hk0 : 0 < k) (hk1 : kAt k ns ns.length ≤ 1000000000) (h : SlotsR.rd hi w [v] (slotsMark k ns)) (hh : hi ≤ w.heap.size) :
    Calls Tryz.prog 70 #[v, .int .i64 k] w fun e w' => e = .returned (.int .i64 (kAt k ns ns.length)) ∧ Below w.heap.size w w' := by
  obtain ⟨A, c, hv, hc, h'⟩ := slots_rd h
  rw [slotsMark_len] at hv hc
  have HR := Lib.hid h'
  clear h h'
  subst hv
  obtain ⟨n, hn⟩ : ∃ n, n = ns.length := ⟨_, rfl⟩
  rw [← hn] at hc hk1 ⊢
  have HKL : Hid (∀ j, k ≤ kAt k ns j ∧ kAt k ns j ≤ kAt k ns n) := Lib.hid fun j => by have := kAt_le k ns j; rwa [← hn] at this
  have HKN : Hid (∀ j, j < n → kAt k ns (j + 1) = kAt k ns j + 1 + 1 + (ns.getD j 0 : Nat)) := Lib.hid fun j hj => kAt_next (by omega)
  have HK0 := Lib.hid (kAt_zero k ns)
  have hn9 : (n : Int) ≤ 1000000000 := by have := kAt_two k ns; rw [← hn] at this; omega
  have HNE := Lib.hid hn
  clear hn
  go_enter Tryz.func70, Tryz.ntmps70
  go_wp2
  go_loopw [1, 5] (fun kv iv wr => ∃ (i : Nat) (K : Int), i ≤ n ∧ iv = .int .i64 i ∧ kv = .int .i64 K ∧ Hid (K = kAt k ns i) ∧ Hid (Below w.heap.size w wr) ∧ w.heap.size ≤ wr.heap.size) (fun _ iv _ => n - (intOf iv).toNat)
  case atStart => exact ⟨0, k, Nat.zero_le _, rfl, rfl, Lib.hid HK0.out.symm, Lib.hid (Below.refl _ _), Nat.le_refl _⟩
  case round =>
    obtain ⟨i, K, hi', rfl, rfl, HK, HB, hz⟩ := hrel
    by_cases hin : i < n
    · obtain ⟨b, off, A', c', rfl, hb, c0, c1, c2, hrd⟩ := HR.out i _ (slotsMark_at (by rw [← HNE.out]; exact hin))
      have hkb := HKL.out i
      have hkc := HKL.out (i + 1)
      have hkn := HKN.out i hin
      rw [← HK.out] at hkn c0 c1 c2 hrd hkb
      obtain ⟨m, hm⟩ : ∃ m, m = ns.getD i 0 := ⟨_, rfl⟩
      rw [← hm] at hkn c0 c1 c2 hrd
      rw [hkn] at hkc
      have k0 : 0 < K := by omega
      have k1 : K + 1 + 1 + (m : Int) ≤ 1000000000 := by omega
      have HKN' := Lib.hid hkn
      simp only [slotMk, marks_length] at c0 c1 c2 hrd
      clear hkb hkc hkn hm
      have c0 := (HB.out.cell (p := ⟨b, _, none⟩) (show b < w.heap.size by omega)).trans c0
      have c1 := (HB.out.cell (p := ⟨b, _, none⟩) (show b < w.heap.size by omega)).trans c1
      have c2 := (HB.out.cell (p := ⟨b, _, none⟩) (show b < w.heap.size by omega)).trans c2
      have HRD := Lib.hid (hrd.below HB.out hh)
      clear hrd
      have g1 : (i : Int) < (n : Int) := by omega
      have g2 : 0 ≤ (i : Int) := by omega
      have hml0 := markOf_size K (by omega)
      have hml1 := markOf_size (K + 1) (by omega)
      have HX0 : Hid (∀ w', Calls Tryz.prog 66 #[.int .i64 K] w' fun e w'' => e = .returned (.string ⟨(markOf K).toArray⟩) ∧ Below w'.heap.size w' w'') := Lib.hid fun w' => markText_any _ w' (by omega) (by omega)
      have HX1 : Hid (∀ w', Calls Tryz.prog 66 #[.int .i64 (K + 1)] w' fun e w'' => e = .returned (.string ⟨(markOf (K + 1)).toArray⟩) ∧ Below w'.heap.size w' w'') := Lib.hid fun w' => markText_any _ w' (by omega) (by omega)
      generalize markOf K = mk0 at c0 hml0 HX0
      generalize markOf (K + 1) = mk1 at c1 hml1 HX1
      go_wp2
      go_region_held3 (fun w' => w'.cell? ⟨b, off + i * 3, none⟩ = some (.string ⟨mk0.toArray⟩)) (go_keep) (first | (go_at_call 66; refine (HX0.out _).mono ?_; rintro e w2 ⟨rfl, hb2⟩; have q := (hb2.cell (p := ⟨b, off + i * 3, none⟩) (show b < wr.heap.size by omega)).trans c0))
      have c1 := (hb2.cell (p := ⟨b, off + i * 3 + 1, none⟩) (show b < wr.heap.size by omega)).trans c1
      have c2 := (hb2.cell (p := ⟨b, off + i * 3 + 2, none⟩) (show b < wr.heap.size by omega)).trans c2
      have hz2 : wr.heap.size ≤ w2.heap.size := hb2.size
      have hb2' := (Below.refl wr.heap.size wr).drew.trans hb2
      have HRD2 := Lib.hid (HRD.out.below hb2' (by omega))
      have HB2 : Hid (Below w.heap.size w w2) := Lib.hid (HB.out.trans (hb2'.mono hz))
      clear hb2 hb2' q c0
      go_wp2
      go_region_held3 (fun w' => w'.cell? ⟨b, off + i * 3 + 1, none⟩ = some (.string ⟨mk1.toArray⟩)) (go_keep) (first | (go_at_call 66; refine (HX1.out _).mono ?_; rintro e w4 ⟨rfl, hb4⟩; have q := (hb4.cell (p := ⟨b, off + i * 3 + 1, none⟩) (show b < w2.heap.size by omega)).trans c1))
      have c2 := (hb4.cell (p := ⟨b, off + i * 3 + 2, none⟩) (show b < w2.heap.size by omega)).trans c2
      have hz4 : w2.heap.size ≤ w4.heap.size := hb4.size
      have hb4' := (Below.refl w2.heap.size w2).drew.trans hb4
      have HRD4 := Lib.hid (HRD2.out.below hb4' (by omega))
      have HB4 : Hid (Below w.heap.size w w4) := Lib.hid (HB2.out.trans (hb4'.mono (by omega)))
      clear hb4 hb4' q c1
      go_wp2_with fail
      refine (heldBytes_any hi _ m (K + 1 + 1) w4 (by omega) (by omega) (by omega) HRD4.out).mono ?_
      rintro e w6 ⟨rfl, hb6⟩
      have hz6 := hb6.size
      have HB6 : Hid (Below w.heap.size w w6) := Lib.hid (HB4.out.trans (hb6.mono (by omega)))
      have kn : ¬ (K + 1 + 1 + (m : Int) < 0) := by omega
      clear hb6 c2
      go_wp2
      go_roundw
      case rel => exact ⟨i + 1, K + 1 + 1 + (m : Int), by omega, by go_num, by go_num, Lib.hid HKN'.out.symm, HB6, by omega⟩
      case measure => simp [intOf] <;> omega
    · obtain rfl : i = n := by omega
      go_wp2
      go_ret
      exact ⟨by rw [HK.out]; rfl, HB.out⟩
end Go.Proofs.YthnimmagaocipaaGreatDoor
set_option linter.unusedVariables false
namespace Go.Proofs.YthnimmagaocipaaGreatDoor
open Go.ChangeShapes Go.WideShapes Go.ChangeAt Go.RowKit

set_option maxRecDepth 100000 in
theorem mem_sum {α : Type} (f : α → Nat) : ∀ {l : List α} {x : α}, x ∈ l → f x ≤ (l.map f).sum
  | [], x, h => by simp at h
  | y :: l, x, h => by
    rw [List.map_cons, List.sum_cons]
    rcases List.mem_cons.1 h with rfl | h
    · omega
    · have := mem_sum f h; omega
set_option maxRecDepth 100000 in
theorem sz_len {l : List SlotD} {N : Nat} (h : slotsSz l ≤ N) : l.length ≤ N := by unfold slotsSz at h; omega
set_option maxRecDepth 100000 in
theorem sz_reply {l : List SlotD} {N : Nat} (h : slotsSz l ≤ N) : ∀ x ∈ l, x.2.2.length ≤ N := fun x hx => by
  have h1 := mem_sum slotSz hx
  have h2 : x.2.2.length ≤ slotSz x := by unfold slotSz; omega
  unfold slotsSz at h
  omega
end Go.Proofs.YthnimmagaocipaaGreatDoor
set_option linter.unusedVariables false
namespace Go.Proofs.YthnimmagaocipaaGreatDoor
set_option maxRecDepth 100000 in
theorem acct_small {a : AcctD} {N : Nat} (h : acctSz a ≤ N) : acctSmall N a := by
  unfold acctSz at h
  have hs : slotsSz (aS a) ≤ N := by omega
  exact ⟨by unfold holdsSz at h; omega, by omega, by omega, sz_len hs, sz_reply hs⟩
end Go.Proofs.YthnimmagaocipaaGreatDoor
set_option linter.unusedVariables false
namespace Go.Proofs.YthnimmagaocipaaGreatDoor
open Go.ChangeShapes Go.WideShapes Go.ChangeAt Go.RowKit

/-- the number with which the slots' marks begin -/
def kSl (a : AcctD) (k : Int) : Int := k + 3 * ((aH a).length : Int) + (aR a).2.2.1.length + (aR a).2.2.2.length
/-- the number behind the last mark -/
def kAcct (a : AcctD) (k : Int) : Int := kAt (kSl a k) (lensOf (aS a)) (aS a).length
def acctMark (a : AcctD) (k : Int) : AcctD := (aId a, aLim a, aPos a, aMost a, aSum a, holdsMark k (aH a).length, markedR (aR a) (k + 3 * ((aH a).length : Int)), slotsMark (kSl a k) (lensOf (aS a)))
end Go.Proofs.YthnimmagaocipaaGreatDoor
set_option linter.unusedVariables false
namespace Go.Proofs.YthnimmagaocipaaGreatDoor
open Go.ChangeShapes Go.WideShapes Go.ChangeAt Go.RowKit

set_option maxRecDepth 100000 in
set_option maxHeartbeats 1600000 in
theorem markHoldsK_any (lo hi : Nat) (v : Value) (l : List HoldD) (k : Int) (w : World) (hn : l.length ≤ 2000000) (hk0 : 0 < k) (hk1 : k ≤ 100000000) (h : HoldsR.mine lo hi w [v] l) (hh : hi ≤ w.heap.size) :
    Calls Tryz.prog 47 #[v, .int .i64 k] w fun e w' => e = .returned (.int .i64 (k + 3 * (l.length : Int))) ∧ HoldsR.mine lo hi w' [v] (holdsMark k l.length) ∧ Turned lo hi w w' := by
  obtain ⟨A, c, rfl, hc, hm⟩ := holds_own h
  clear h
  rcases hm with rfl | ⟨b, off, rfl, h1, h2, hm⟩
  · go_enter Tryz.func47, Tryz.ntmps47
    go_wp2
    go_loop [1, 5] (fun kv iv => iv = .int .i64 0 ∧ kv = .int .i64 k) (fun _ _ => 0)
    case atStart => exact ⟨rfl, rfl⟩
    case round =>
      obtain ⟨rfl, rfl⟩ := hrel
      go_wp2
      go_ret
      exact ⟨by simp, ⟨[], ⟨A, c, rfl, hc, .inl ⟨rfl, rfl⟩⟩, List.nodup_nil, by simp⟩, Turned.refl _ _ _⟩
  generalize l.length = n at hn hc hm ⊢
  have HM := Lib.hid hm
  clear hm
  go_enter Tryz.func47, Tryz.ntmps47
  go_wp2
  go_loopw [1, 5] (fun kv iv wr => ∃ i : Nat, i ≤ n ∧ iv = .int .i64 i ∧ kv = .int .i64 (k + 3 * (i : Int)) ∧ Hid (filled wr b off 3 n i fun j => hCells (holdMark k j)) ∧ Hid (Turned lo hi w wr) ∧ w.heap.size ≤ wr.heap.size) (fun _ iv _ => n - (intOf iv).toNat)
  case atStart => exact ⟨0, Nat.zero_le _, rfl, val_int (by simp), Lib.hid (filled.start HM.out), Lib.hid (Turned.refl _ _ _), Nat.le_refl _⟩
  case round =>
    obtain ⟨i, hi', rfl, rfl, HF, HT, hz⟩ := hrel
    by_cases hin : i < n
    · have g1 : (i : Int) < (n : Int) := by omega
      have g2 : 0 ≤ (i : Int) := by omega
      go_wp2_with fail
      refine (markText_any (k + 3 * (i : Int)) _ (by omega) (by omega)).mono ?_
      rintro e w2 ⟨rfl, hb2⟩
      have HF2 : Hid (filled w2 b off 3 n i fun j => hCells (holdMark k j)) := Lib.hid (HF.out.keep (hb2.block b (show b < _ by omega)))
      obtain ⟨⟨u0, d0⟩, f0⟩ := HF2.out.cells hin 0 (by omega)
      obtain ⟨⟨u1, d1⟩, f1⟩ := HF2.out.cells hin 1 (by omega)
      obtain ⟨⟨u2, d2⟩, f2⟩ := HF2.out.cells hin 2 (by omega)
      simp only [Nat.add_zero] at d0 f0
      have hz2 := hb2.size
      have HT2 : Hid (Turned lo hi w w2) := Lib.hid (HT.out.trans (Turned.of_below hb2))
      clear hb2
      go_wp2
      go_roundw
      case rel => exact ⟨i + 1, by omega, by go_num, val_int (by omega), Lib.hid (HF2.out.next hin (fun _ _ => rfl)), Lib.hid (((HT2.out.set _ _ h1 h2).set _ _ h1 h2).set _ _ h1 h2), by simp [World.setCell]; omega⟩
      case measure => simp [intOf] <;> omega
    · obtain rfl : i = n := by omega
      go_wp2
      go_ret
      refine ⟨rfl, ?_, HT.out⟩
      refine holds_mine (holdsMark_len k i).symm hc h1 h2 ⟨HF.out.room, fun j hj => ?_⟩
      rw [holdsMark_get k i j hj]
      exact HF.out.at_ j hj

set_option maxRecDepth 100000 in
set_option maxHeartbeats 1600000 in
theorem heldHoldsK_any (hi : Nat) (v : Value) (n : Nat) (k : Int) (w : World) (hn : n ≤ 2000000) (hk0 : 0 < k) (hk1 : k ≤ 100000000) (h : HoldsR.rd hi w [v] (holdsMark k n)) (hh : hi ≤ w.heap.size) :
    Calls Tryz.prog 68 #[v, .int .i64 k] w fun e w' => e = .returned (.int .i64 (k + 3 * (n : Int))) ∧ Below w.heap.size w w' := by
  obtain ⟨A, c, hv, hc, h'⟩ := holds_rd h
  rw [holdsMark_len] at hv hc
  have HR := Lib.hid h'
  clear h h'
  subst hv
  go_enter Tryz.func68, Tryz.ntmps68
  go_wp2
  go_loopw [1, 5] (fun kv iv wr => ∃ i : Nat, i ≤ n ∧ iv = .int .i64 i ∧ kv = .int .i64 (k + 3 * (i : Int)) ∧ Hid (Below w.heap.size w wr) ∧ w.heap.size ≤ wr.heap.size) (fun _ iv _ => n - (intOf iv).toNat)
  case atStart => exact ⟨0, Nat.zero_le _, rfl, val_int (by simp), Lib.hid (Below.refl _ _), Nat.le_refl _⟩
  case round =>
    obtain ⟨i, hi', rfl, rfl, HB, hz⟩ := hrel
    by_cases hin : i < n
    · obtain ⟨b, off, rfl, hb, c0, c1, c2⟩ := HR.out i _ (holdsMark_at k n i hin)
      have c0 := (HB.out.cell (p := ⟨b, _, none⟩) (show b < w.heap.size by omega)).trans c0
      have c1 := (HB.out.cell (p := ⟨b, _, none⟩) (show b < w.heap.size by omega)).trans c1
      have c2 := (HB.out.cell (p := ⟨b, _, none⟩) (show b < w.heap.size by omega)).trans c2
      simp only [holdMark] at c0 c1 c2
      have g1 : (i : Int) < (n : Int) := by omega
      have g2 : 0 ≤ (i : Int) := by omega
      have hml := markH_size (k + 3 * (i : Int)) (by omega)
      have HX : Hid (∀ w', Calls Tryz.prog 66 #[.int .i64 (k + 3 * (i : Int))] w' fun e w'' => e = .returned (.string ⟨(markOf (k + 3 * (i : Int))).toArray⟩) ∧ Below w'.heap.size w' w'') := Lib.hid fun w' => markText_any _ w' (by omega) (by omega)
      generalize markOf (k + 3 * (i : Int)) = mk at c0 hml HX
      go_wp2
      go_region_held3 (fun w' => w'.cell? ⟨b, off + i * 3, none⟩ = some (.string ⟨mk.toArray⟩)) (go_keep) ((go_at_call 66; refine (HX.out _).mono ?_; rintro e w2 ⟨rfl, hb2⟩; have q := (hb2.cell (p := ⟨b, off + i * 3, none⟩) (show b < wr.heap.size by omega)).trans c0))
      have c1 := (hb2.cell (p := ⟨b, off + i * 3 + 1, none⟩) (show b < wr.heap.size by omega)).trans c1
      have c2 := (hb2.cell (p := ⟨b, off + i * 3 + 2, none⟩) (show b < wr.heap.size by omega)).trans c2
      have hz2 : wr.heap.size ≤ w2.heap.size := hb2.size
      have HB2 : Hid (Below w.heap.size w w2) := Lib.hid ((HB.out.trans (below_drew _ _)).trans (hb2.mono hz))
      clear hb2
      go_wp2
      go_roundw
      case rel => exact ⟨i + 1, by omega, by go_num, val_int (by omega), HB2, by omega⟩
      case measure => simp [intOf] <;> omega
    · obtain rfl : i = n := by omega
      go_wp2
      go_ret
      exact ⟨rfl, HB.out⟩

set_option maxRecDepth 100000 in
set_option maxHeartbeats 4000000 in
theorem markAcctK_any (l1 h1 l2 h2 l3 h3 : Nat) (vh vc vs vl : Value) (a : AcctD) (k : Int) (hk0 : 0 < k) (hk1 : k ≤ 100000000) (w : World) (hz : acctSmall 1048576 a) (hk : kAcct a k ≤ 1000000000) (m1 : HoldsR.mine l1 h1 w [vh] (aH a)) (m2 : RingR.mine l2 h2 w [.int .i64 (aR a).1, .int .i64 (aR a).2.1, vc, vs] (aR a)) (m3 : SlotsR.mine l3 h3 w [vl] (aS a)) (x1 : h1 ≤ w.heap.size) (x2 : h2 ≤ w.heap.size) (x3 : h3 ≤ w.heap.size) (d1 : h1 ≤ l2 ∨ h2 ≤ l1) (d2 : h1 ≤ l3 ∨ h3 ≤ l1) (d3 : h2 ≤ l3 ∨ h3 ≤ l2) :
    Calls Tryz.prog 20 #[.agg #[.string (aId a), .int .i64 (aLim a), .int .i64 (aPos a), .int .i64 (aMost a), .int .i64 (aSum a), vh, .int .i64 (aR a).1, .int .i64 (aR a).2.1, vc, vs, vl], .int .i64 k] w fun e w' => e = .returned (.int .i64 (kAcct a k)) ∧ (∃ W w1 w2, Below w.heap.size w W ∧ Turned l1 h1 W w1 ∧ Turned l2 h2 w1 w2 ∧ Turned l3 h3 w2 w') ∧ HoldsR.mine l1 h1 w' [vh] (aH (acctMark a k)) ∧ RingR.mine l2 h2 w' [.int .i64 (aR a).1, .int .i64 (aR a).2.1, vc, vs] (aR (acctMark a k)) ∧ SlotsR.mine l3 h3 w' [vl] (aS (acctMark a k)) := by
  obtain ⟨id, lim, pos, most, sum, hs, ⟨sp, hd, cs, ss⟩, sl⟩ := a
  obtain ⟨z1, z2, z3, z4, -⟩ := hz
  simp only [acctMark, aId, aLim, aPos, aMost, aSum, aH, aR, aS] at m1 m2 m3 z1 z2 z3 z4 ⊢
  obtain ⟨AH, cH, rfl, -⟩ := Rep.slice_form m1.rd
  obtain ⟨AC, cC, rfl, -⟩ := (ring2 m2.rd).1.form
  obtain ⟨AS, cS, rfl, -⟩ := (ring2 m2.rd).2.form
  obtain ⟨AL, cL, rfl, -⟩ := Rep.slice_form m3.rd
  simp only at m1 m2 m3
  have HM1 := Lib.hid (fun W (m : HoldsR.mine l1 h1 W [.slice AH hs.length cH] hs) (hW : h1 ≤ W.heap.size) => markHoldsK_any l1 h1 _ hs k W (by omega) hk0 hk1 m hW)
  have HM2 := Lib.hid (fun W (m : RingR.mine l2 h2 W [.int .i64 sp, .int .i64 hd, .slice AC cs.length cC, .slice AS ss.length cS] (sp, hd, cs, ss)) (hW : h2 ≤ W.heap.size) => markRing_r (r := (sp, hd, cs, ss)) (k + 3 * (hs.length : Int)) (w := W) (by omega) (by omega) m hW (by simp only; omega) (by simp only; omega))
  have HM3 := Lib.hid (fun W (m : SlotsR.mine l3 h3 W [.slice AL sl.length cL] sl) (hW : h3 ≤ W.heap.size) => markSlots_any l3 h3 _ sl (kSl (id, lim, pos, most, sum, hs, (sp, hd, cs, ss), sl) k) W (by unfold kSl; simp only [aH]; omega) hk m hW)
  have HK : Hid (kAcct (id, lim, pos, most, sum, hs, (sp, hd, cs, ss), sl) k = kAt (kSl (id, lim, pos, most, sum, hs, (sp, hd, cs, ss), sl) k) (lensOf sl) sl.length) := Lib.hid rfl
  have HS : Hid (kSl (id, lim, pos, most, sum, hs, (sp, hd, cs, ss), sl) k = k + 3 * (hs.length : Int) + cs.length + ss.length) := Lib.hid rfl
  clear hk
  rw [HK.out]
  generalize kSl (id, lim, pos, most, sum, hs, (sp, hd, cs, ss), sl) k = K at HM3 HS ⊢
  obtain rfl : K = k + 3 * (hs.length : Int) + cs.length + ss.length := HS.out
  have HN := Lib.hid (And.intro m1 (And.intro m2 m3))
  clear m1 m2 m3 HS HK
  go_enter Tryz.func20, Tryz.ntmps20
  go_upto_region 1 with fail
  obtain ⟨W, hW⟩ : ∃ W, W = w.alloc (.cells #[.string id, .int .i64 lim, .int .i64 pos, .int .i64 most, .int .i64 sum, .slice AH hs.length cH, .int .i64 sp, .int .i64 hd, .slice AC cs.length cC, .slice AS ss.length cS, .slice AL sl.length cL] 50) := ⟨_, rfl⟩
  have b0 : bk W w.heap.size 50 [.string id, .int .i64 lim, .int .i64 pos, .int .i64 most, .int .i64 sum, .slice AH hs.length cH, .int .i64 sp, .int .i64 hd, .slice AC cs.length cC, .slice AS ss.length cS, .slice AL sl.length cL] := by rw [hW]; exact bk.new w _ _
  have HB0 : Hid (Below w.heap.size w W) := Lib.hid (by rw [hW]; exact (Below.refl _ _).alloc (Nat.le_refl _) _)
  rw [← hW]
  clear hW
  have y0 := b0.lt
  have H1 := Lib.hid (HN.out.1.below HB0.out (by omega))
  have H2 := Lib.hid (HN.out.2.1.below HB0.out (by omega))
  have H3 := Lib.hid (HN.out.2.2.below HB0.out (by omega))
  have HBW := HB0
  have B0 := Lib.hid b0
  clear b0 HN HB0
  obtain ⟨⟨p0, p1, p2, p3, p4, p5, p6, p7, p8, p9, p10⟩, -⟩ := B0.out.eleven
  go_wp2_with fail
  refine (HM1.out W H1.out (by omega)).mono ?_
  rintro e w1 ⟨rfl, hn1, ht1⟩
  have y1 := ht1.size
  replace B0 := Lib.hid (B0.out.under ht1 (by omega))
  replace H1 := Lib.hid hn1
  replace H2 := Lib.hid (H2.out.turned ht1 (by omega) (by omega))
  replace H3 := Lib.hid (H3.out.turned ht1 (by omega) (by omega))
  have HTa := Lib.hid ht1
  clear hn1 ht1 HM1 p0 p1 p2 p3 p4 p5 p6 p7 p8 p9 p10
  obtain ⟨⟨p0, p1, p2, p3, p4, p5, p6, p7, p8, p9, p10⟩, -⟩ := B0.out.eleven
  go_wp2_with fail
  refine (HM2.out w1 H2.out (by omega)).mono ?_
  rintro e w2 ⟨rfl, hn2, ht2⟩
  have y2 := ht2.size
  replace B0 := Lib.hid (B0.out.under ht2 (by omega))
  replace H1 := Lib.hid (H1.out.turned ht2 (by omega) (by omega))
  replace H2 := Lib.hid hn2
  replace H3 := Lib.hid (H3.out.turned ht2 (by omega) (by omega))
  have HTb := Lib.hid ht2
  clear hn2 ht2 HM2 p0 p1 p2 p3 p4 p5 p6 p7 p8 p9 p10
  obtain ⟨⟨p0, p1, p2, p3, p4, p5, p6, p7, p8, p9, p10⟩, -⟩ := B0.out.eleven
  go_wp2_with fail
  refine (HM3.out w2 H3.out (by omega)).mono ?_
  rintro e w3 ⟨rfl, hn3, ht3⟩
  have y3 := ht3.size
  replace H1 := Lib.hid (H1.out.turned ht3 (by omega) (by omega))
  replace H2 := Lib.hid (H2.out.turned ht3 (by omega) (by omega))
  replace H3 := Lib.hid hn3
  have HTc := Lib.hid ht3
  clear hn3 ht3 HM3 p0 p1 p2 p3 p4 p5 p6 p7 p8 p9 p10 B0
  go_wp2
  go_ret
  exact ⟨rfl, ⟨W, w1, w2, HBW.out, HTa.out, HTb.out, HTc.out⟩, H1.out, H2.out, H3.out⟩
end Go.Proofs.YthnimmagaocipaaGreatDoor
set_option linter.unusedVariables false
namespace Go.Proofs.YthnimmagaocipaaGreatDoor
open Go.ChangeShapes Go.WideShapes Go.ChangeAt Go.RowKit

/-- the number with which an element's slots' marks begin -/
def kElS (a : AcctD) (k : Int) : Int := k + 1 + 1 + 1 + 1 + 1 + 3 * ((aH a).length : Int) + 1 + 1 + (aR a).2.2.1.length + (aR a).2.2.2.length
/-- the number behind an element's last mark -/
def kEl (a : AcctD) (k : Int) : Int := kAt (kElS a k) (lensOf (aS a)) (aS a).length
def elMark (a : AcctD) (k : Int) : AcctD :=
  (⟨(markOf k).toArray⟩, k + 1, k + 1 + 1, k + 1 + 1 + 1, k + 1 + 1 + 1 + 1, holdsMark (k + 1 + 1 + 1 + 1 + 1) (aH a).length,
    (k + 1 + 1 + 1 + 1 + 1 + 3 * ((aH a).length : Int), k + 1 + 1 + 1 + 1 + 1 + 3 * ((aH a).length : Int) + 1,
      marksL (fun x => x) (k + 1 + 1 + 1 + 1 + 1 + 3 * ((aH a).length : Int) + 1 + 1) (aR a).2.2.1.length,
      marksL (fun x => x) (k + 1 + 1 + 1 + 1 + 1 + 3 * ((aH a).length : Int) + 1 + 1 + (aR a).2.2.1.length) (aR a).2.2.2.length),
    slotsMark (kElS a k) (lensOf (aS a)))
/-- the number behind the first i elements' marks -/
def kBk (l : BookD) (k : Int) : Int := l.foldl (fun k a => kEl a k) k
def bookMark : BookD → Int → BookD
  | [], _ => []
  | a :: l, k => elMark a k :: bookMark l (kEl a k)
set_option maxRecDepth 100000 in
theorem kEl_up (a : AcctD) (k : Int) : k + 7 + 3 * ((aH a).length : Int) + (aR a).2.2.1.length + (aR a).2.2.2.length + 2 * ((aS a).length : Int) ≤ kEl a k := by
  unfold kEl
  have := kAt_two (kElS a k) (lensOf (aS a))
  rw [lensOf_len] at this
  unfold kElS at this ⊢
  omega
set_option maxRecDepth 100000 in
theorem kBk_nil (k : Int) : kBk [] k = k := rfl
set_option maxRecDepth 100000 in
theorem kBk_cons (a : AcctD) (l : BookD) (k : Int) : kBk (a :: l) k = kBk l (kEl a k) := rfl
set_option maxRecDepth 100000 in
theorem kBk_up : ∀ (l : BookD) (k : Int), k ≤ kBk l k
  | [], k => Int.le_refl _
  | a :: l, k => by
    have h1 := kBk_up l (kEl a k)
    have h2 := kEl_up a k
    rw [kBk_cons]
    omega
set_option maxRecDepth 100000 in
theorem kBk_snoc {l : BookD} {i : Nat} {x : AcctD} (h : l[i]? = some x) (k : Int) : kBk (l.take (i + 1)) k = kEl x (kBk (l.take i) k) := by
  obtain ⟨hi, rfl⟩ := List.getElem?_eq_some_iff.1 h
  unfold kBk
  rw [List.take_succ_eq_append_getElem hi, List.foldl_append]
  rfl
set_option maxRecDepth 100000 in
theorem kBk_take (l : BookD) (i : Nat) (k : Int) : kBk (l.take i) k ≤ kBk l k := by
  have : kBk l k = kBk (l.drop i) (kBk (l.take i) k) := by
    conv => lhs; rw [← List.take_append_drop i l]
    unfold kBk
    rw [List.foldl_append]
  rw [this]
  exact kBk_up _ _
set_option maxRecDepth 100000 in
theorem bookMark_at : ∀ (l : BookD) (k : Int) (j : Nat) (x : AcctD), l[j]? = some x → (bookMark l k)[j]? = some (elMark x (kBk (l.take j) k))
  | [], k, j, x, h => by simp at h
  | a :: l, k, 0, x, h => by
    have : a = x := by simpa using h
    subst this
    rfl
  | a :: l, k, j + 1, x, h => by
    have := bookMark_at l (kEl a k) j x (by simpa using h)
    simpa [bookMark, kBk_cons] using this
set_option maxRecDepth 100000 in
theorem bookMark_len : ∀ (l : BookD) (k : Int), (bookMark l k).length = l.length
  | [], k => rfl
  | a :: l, k => by rw [bookMark, List.length_cons, bookMark_len l, List.length_cons]
/-- an element of a row and its parts, while it is edited -/
structure eW (b o P Q l1 h1 l2 h2 l3 h3 : Nat) (w0 w : World) (a : AcctD) (vh vc vs vl : Value) : Prop where
  at_ : atL w b o (aCells a vh vc vs vl)
  fr : freeL w b o 11
  m1 : HoldsR.mine l1 h1 w [vh] (aH a)
  m2 : nums .i64 l2 h2 w vc (aR a).2.2.1
  m3 : nums .i64 l2 h2 w vs (aR a).2.2.2
  ap : ∀ b, blk vc = some b → blk vs ≠ some b
  m4 : SlotsR.mine l3 h3 w [vl] (aS a)
  bd : (P ≤ l1 ∧ h1 ≤ Q) ∧ (P ≤ l2 ∧ h2 ≤ Q) ∧ (P ≤ l3 ∧ h3 ≤ Q) ∧ (h1 ≤ l2 ∨ h2 ≤ l1) ∧ (h1 ≤ l3 ∨ h3 ≤ l1) ∧ (h2 ≤ l3 ∨ h3 ≤ l2)
  out : b < P ∨ Q ≤ b
  sz : Q ≤ w0.heap.size ∧ b < w0.heap.size
  ed : Edit b o 11 P Q w0 w
section
variable {b o P Q l1 h1 l2 h2 l3 h3 : Nat} {w0 w w' : World} {a : AcctD} {vh vc vs vl : Value}
set_option maxRecDepth 100000 in
theorem eW.start (hat : atL w b o (aCells a vh vc vs vl)) (hf : freeL w b o 11) (hI : AcctI P Q w vh vc vs vl a) (hout : b < P ∨ Q ≤ b) (hQ : Q ≤ w.heap.size) (hb : b < w.heap.size) : ∃ l1 h1 l2 h2 l3 h3, eW b o P Q l1 h1 l2 h2 l3 h3 w w a vh vc vs vl := by
  obtain ⟨l1, h1, l2, h2, l3, h3, m1, m2, m3, hq, d1, d2, d3⟩ := hI
  exact ⟨l1, h1, l2, h2, l3, h3, hat, hf, m1, (ringOwn m2).1, (ringOwn m2).2.1, (ringOwn m2).2.2, m3, by omega, hout, ⟨hQ, hb⟩, Edit.refl _ _ _ _ _ _⟩
set_option maxRecDepth 100000 in
theorem eW.inside (h : eW b o P Q l1 h1 l2 h2 l3 h3 w0 w a vh vc vs vl) : AcctI P Q w vh vc vs vl a := by
  obtain ⟨ha, hf, m1, m2, m3, ap, m4, hd, -, -, -⟩ := h
  exact ⟨l1, h1, l2, h2, l3, h3, m1, ring_mine_of m2 m3 ap, m4, by omega, by omega, by omega, by omega⟩
set_option maxRecDepth 100000 in
theorem eW.below {B : Nat} (h : eW b o P Q l1 h1 l2 h2 l3 h3 w0 w a vh vc vs vl) (hb : Below B w w') (hB : w.heap.size ≤ B) : eW b o P Q l1 h1 l2 h2 l3 h3 w0 w' a vh vc vs vl := by
  obtain ⟨ha, hf, m1, m2, m3, ap, m4, hd, ho, hs, he⟩ := h
  have hz := he.size
  have hk := hb.block b (by omega)
  exact ⟨ha.keep hk, fun t ht => (frozen_keep hk).trans (hf t ht), m1.below hb (by omega), m2.below hb (by omega), m3.below hb (by omega), ap, m4.below hb (by omega), hd, ho, hs, he.below hb hB hs.2⟩
set_option maxRecDepth 100000 in
theorem Rep.mine.far {α : Type} {R : Rep α} {lo hi : Nat} {w : World} {cs : List Value} {x : α} (h : R.mine lo hi w cs x) {c t : Nat} (hc : c < lo ∨ hi ≤ c) (u : Value) : R.mine lo hi (w.setCell ⟨c, t, none⟩ u) cs x :=
  h.keep fun b h1 h2 => Below.heap_setCell _ _ _ _ (show b ≠ c by omega)
set_option maxRecDepth 100000 in
/-- one of the element's own cells is written -/
theorem eW.cell (h : eW b o P Q l1 h1 l2 h2 l3 h3 w0 w a vh vc vs vl) {a' : AcctD} (t : Nat) (x : Value) (ht : t < 11) (hc : aCells a' vh vc vs vl = (aCells a vh vc vs vl).set t x) (e1 : aH a' = aH a) (e2 : (aR a').2.2.1 = (aR a).2.2.1) (e3 : (aR a').2.2.2 = (aR a).2.2.2) (e4 : aS a' = aS a) : eW b o P Q l1 h1 l2 h2 l3 h3 w0 (w.setCell ⟨b, o + t, none⟩ x) a' vh vc vs vl := by
  obtain ⟨ha, hf, m1, m2, m3, ap, m4, hd, ho, hs, he⟩ := h
  have hlen : (aCells a vh vc vs vl).length = 11 := rfl
  have hz := he.size
  have hT := (Turned.refl b (b + 1) w).set (b := b) (o + t) x (Nat.le_refl _) (Nat.lt_succ_self _)
  refine ⟨fun s u hu => ?_, fun s hss => by have := hf s hss; simpa using this, by rw [e1]; exact m1.far (by omega) _, by rw [e2]; exact m2.turned hT (by omega) (by omega), by rw [e3]; exact m3.turned hT (by omega) (by omega), ap, by rw [e4]; exact m4.far (by omega) _, hd, ho, hs, he.set _ _ (by omega) (by omega)⟩
  rw [hc] at hu
  by_cases e : t = s
  · subst e
    rw [List.getElem?_set_self (by omega)] at hu
    cases hu
    exact World.cell?_setCell_same w ⟨b, o + t, none⟩ x (ha t _ (List.getElem?_eq_getElem (by omega)))
  · rw [List.getElem?_set_ne e] at hu
    exact (World.cell?_setCell_other _ _ _ _ (fun he => by have := congrArg Addr.off he; simp at this; omega)).trans (ha s u hu)
set_option maxRecDepth 100000 in
theorem eW.holds (h : eW b o P Q l1 h1 l2 h2 l3 h3 w0 w a vh vc vs vl) {a' : AcctD} (ht : Turned l1 h1 w w') (hm : HoldsR.mine l1 h1 w' [vh] (aH a')) (e : aCells a' vh vc vs vl = aCells a vh vc vs vl) (e2 : (aR a').2.2.1 = (aR a).2.2.1) (e3 : (aR a').2.2.2 = (aR a).2.2.2) (e4 : aS a' = aS a) : eW b o P Q l1 h1 l2 h2 l3 h3 w0 w' a' vh vc vs vl := by
  obtain ⟨ha, hf, m1, m2, m3, ap, m4, hd, ho, hs, he⟩ := h
  have hz := he.size
  have hk := ht.block b (by omega) (by omega)
  exact ⟨by rw [e]; exact ha.keep hk, fun t ht => (frozen_keep hk).trans (hf t ht), hm, by rw [e2]; exact m2.turned ht (by omega) (by omega), by rw [e3]; exact m3.turned ht (by omega) (by omega), ap, by rw [e4]; exact m4.turned ht (by omega) (by omega), hd, ho, hs, he.turned ht (by omega) (by omega) (by omega) hs.2⟩
set_option maxRecDepth 100000 in
theorem eW.slots (h : eW b o P Q l1 h1 l2 h2 l3 h3 w0 w a vh vc vs vl) {a' : AcctD} (ht : Turned l3 h3 w w') (hm : SlotsR.mine l3 h3 w' [vl] (aS a')) (e : aCells a' vh vc vs vl = aCells a vh vc vs vl) (e1 : aH a' = aH a) (e2 : (aR a').2.2.1 = (aR a).2.2.1) (e3 : (aR a').2.2.2 = (aR a).2.2.2) : eW b o P Q l1 h1 l2 h2 l3 h3 w0 w' a' vh vc vs vl := by
  obtain ⟨ha, hf, m1, m2, m3, ap, m4, hd, ho, hs, he⟩ := h
  have hz := he.size
  have hk := ht.block b (by omega) (by omega)
  exact ⟨by rw [e]; exact ha.keep hk, fun t ht => (frozen_keep hk).trans (hf t ht), by rw [e1]; exact m1.turned ht (by omega) (by omega), by rw [e2]; exact m2.turned ht (by omega) (by omega), by rw [e3]; exact m3.turned ht (by omega) (by omega), ap, hm, hd, ho, hs, he.turned ht (by omega) (by omega) (by omega) hs.2⟩
set_option maxRecDepth 100000 in
theorem eW.counts (h : eW b o P Q l1 h1 l2 h2 l3 h3 w0 w a vh vc vs vl) {a' : AcctD} (hg : w.grownBy w' (blk vc)) (hm : nums .i64 l2 h2 w' vc (aR a').2.2.1) (e : aCells a' vh vc vs vl = aCells a vh vc vs vl) (e1 : aH a' = aH a) (e3 : (aR a').2.2.2 = (aR a).2.2.2) (e4 : aS a' = aS a) : eW b o P Q l1 h1 l2 h2 l3 h3 w0 w' a' vh vc vs vl := by
  obtain ⟨ha, hf, m1, m2, m3, ap, m4, hd, ho, hs, he⟩ := h
  have hz := he.size
  have ht := Turned.of_grown (lo := l2) (hi := h2) hg m2.blk
  have hk := ht.block b (by omega) (by omega)
  exact ⟨by rw [e]; exact ha.keep hk, fun t ht => (frozen_keep hk).trans (hf t ht), by rw [e1]; exact m1.turned ht (by omega) (by omega), hm, by rw [e3]; exact m3.apart hg (by omega) (fun b hb e => ap b e hb), ap, by rw [e4]; exact m4.turned ht (by omega) (by omega), hd, ho, hs, he.turned ht (by omega) (by omega) (by omega) hs.2⟩
set_option maxRecDepth 100000 in
theorem eW.sums (h : eW b o P Q l1 h1 l2 h2 l3 h3 w0 w a vh vc vs vl) {a' : AcctD} (hg : w.grownBy w' (blk vs)) (hm : nums .i64 l2 h2 w' vs (aR a').2.2.2) (e : aCells a' vh vc vs vl = aCells a vh vc vs vl) (e1 : aH a' = aH a) (e2 : (aR a').2.2.1 = (aR a).2.2.1) (e4 : aS a' = aS a) : eW b o P Q l1 h1 l2 h2 l3 h3 w0 w' a' vh vc vs vl := by
  obtain ⟨ha, hf, m1, m2, m3, ap, m4, hd, ho, hs, he⟩ := h
  have hz := he.size
  have ht := Turned.of_grown (lo := l2) (hi := h2) hg m3.blk
  have hk := ht.block b (by omega) (by omega)
  exact ⟨by rw [e]; exact ha.keep hk, fun t ht => (frozen_keep hk).trans (hf t ht), by rw [e1]; exact m1.turned ht (by omega) (by omega), by rw [e2]; exact m2.apart hg (by omega) (fun b hb e => ap b hb e), hm, ap, by rw [e4]; exact m4.turned ht (by omega) (by omega), hd, ho, hs, he.turned ht (by omega) (by omega) (by omega) hs.2⟩
end
set_option maxRecDepth 100000 in
theorem kEl_fit (a : AcctD) (k : Int) : kEl a k ≤ k + 7 + 3 * (acctSz a : Int) := by
  unfold kEl kAt kElS acctSz
  have h1 : ((((lensOf (aS a)).take (aS a).length).map fun n => 2 + n).sum : Nat) ≤ 2 * (aS a).length + ((aS a).map slotSz).sum := by
    rw [List.take_of_length_le (by rw [lensOf_len]; exact Nat.le_refl _)]
    unfold lensOf
    generalize aS a = l
    induction l with
    | nil => simp
    | cons x l ih =>
      simp only [List.map_cons, List.sum_cons, List.length_cons, slotSz] at ih ⊢
      omega
  unfold slotsSz holdsSz
  omega
set_option maxRecDepth 100000 in
theorem kBk_most : ∀ (l : BookD) (k : Int), kBk l k ≤ k + 10 * (bookSz l : Int)
  | [], k => by rw [kBk_nil]; omega
  | a :: l, k => by
    have h1 := kBk_most l (kEl a k)
    have h2 := kEl_fit a k
    rw [kBk_cons]
    unfold bookSz at h1 ⊢
    simp only [List.length_cons, List.map_cons, List.sum_cons]
    omega
set_option maxRecDepth 100000 in
theorem kBk_fit {l : BookD} (h : bookSz l ≤ 1048576) : kBk l 1 ≤ 100000000 := by
  have := kBk_most l 1
  omega
end Go.Proofs.YthnimmagaocipaaGreatDoor
set_option linter.unusedVariables false
namespace Go.Proofs.YthnimmagaocipaaGreatDoor
open Go.ChangeShapes Go.WideShapes Go.ChangeAt Go.RowKit

/-- a block g holds a book that may be read; beside it a bool -/
def putIn (W : World) (l : BookD) (ok : Bool) (gv bv : Value) (wx : World) : Prop := ∃ g A c, gv = .pointer (some ⟨g, 0, none⟩) ∧ bv = .bool ok ∧ bk wx g 29 [.slice A l.length c] ∧ AcctsR.rd wx.heap.size wx [.slice A l.length c] l ∧ Below W.heap.size W wx ∧ W.heap.size ≤ g
set_option maxRecDepth 100000 in
theorem putIn.mk0 {W c : World} {l : BookD} {ok : Bool} {A : Option Addr} {cc lo : Nat} (hm : AcctsR.mine lo c.heap.size c [.slice A l.length cc] l) (hC : Below W.heap.size W c) : putIn W l ok (.pointer (some ⟨c.heap.size, 0, none⟩)) (.bool ok) (c.alloc (.cells #[.slice A l.length cc] 29)) :=
  ⟨c.heap.size, A, cc, rfl, rfl, bk.new c _ [.slice A l.length cc], AcctsR.rd_mono (Rep.below (R := AcctsR) hm.rd ((Below.refl c.heap.size c).alloc (Nat.le_refl _) (.cells #[.slice A l.length cc] 29)) (Nat.le_refl _)) (by simp), hC.alloc hC.size _, hC.size⟩
set_option maxRecDepth 100000 in
theorem putIn.mk1 {W c : World} {l : BookD} {ok : Bool} {A : Option Addr} {cc lo g : Nat} (hm : AcctsR.mine lo c.heap.size c [.slice A l.length cc] l) (hb : bk c g 29 [.slice none 0 0]) (hg : g < lo) (hW : W.heap.size ≤ g) (hC : Below W.heap.size W c) : putIn W l ok (.pointer (some ⟨g, 0, none⟩)) (.bool ok) (c.setCell ⟨g, 0, none⟩ (.slice A l.length cc)) := by
  have ht := (Turned.refl g (g + 1) c).set (b := g) 0 (.slice A l.length cc) (Nat.le_refl _) (by omega)
  exact ⟨g, A, cc, rfl, rfl, by simpa using hb.set 0 (.slice A l.length cc), AcctsR.rd_mono (hm.turned ht (.inr (by omega)) (Nat.le_refl _)).rd ht.size, hC.trans (ht.below hW hC.size), hW⟩
set_option maxRecDepth 100000 in
theorem markAcctKI_any (lo hi : Nat) (vh vc vs vl : Value) (a : AcctD) (k : Int) (hk0 : 0 < k) (hk1 : k ≤ 100000000) (w : World) (hz : acctSmall 1048576 a) (hk : kAcct a k ≤ 1000000000) (h : AcctI lo hi w vh vc vs vl a) (hh : hi ≤ w.heap.size) :
    Calls Tryz.prog 20 #[.agg #[.string (aId a), .int .i64 (aLim a), .int .i64 (aPos a), .int .i64 (aMost a), .int .i64 (aSum a), vh, .int .i64 (aR a).1, .int .i64 (aR a).2.1, vc, vs, vl], .int .i64 k] w fun e w' => e = .returned (.int .i64 (kAcct a k)) ∧ Turned lo hi w w' := by
  obtain ⟨l1, h1, l2, h2, l3, h3, m1, m2, m3, hq, d1, d2, d3⟩ := h
  refine (markAcctK_any l1 h1 l2 h2 l3 h3 vh vc vs vl a k hk0 hk1 w hz hk m1 m2 m3 (by omega) (by omega) (by omega) d1 d2 d3).mono ?_
  rintro e w' ⟨rfl, ⟨V, v1, v2, t0, t1, t2, t3⟩, -⟩
  exact ⟨rfl, (((Turned.of_below t0).trans (t1.mono (by omega) (by omega))).trans (t2.mono (by omega) (by omega))).trans (t3.mono (by omega) (by omega))⟩
set_option maxRecDepth 100000 in
theorem kAcct_el (a : AcctD) (k : Int) : k ≤ kAcct a k ∧ kAcct a k ≤ kEl a k := by
  have h1 := kAt_two (kSl a k) (lensOf (aS a))
  rw [lensOf_len] at h1
  have e : kAcct a k + 7 = kEl a k := by
    unfold kAcct kEl kAt kSl kElS
    omega
  have e2 : kAcct a k = kAt (kSl a k) (lensOf (aS a)) (aS a).length := rfl
  rw [← e2] at h1
  unfold kSl at h1
  constructor <;> omega
set_option maxRecDepth 100000 in
theorem sum_set_le (l : List Nat) (k v : Nat) : (l.set k v).sum ≤ l.sum + v := by
  induction l generalizing k with
  | nil => simp
  | cons x l ih =>
    cases k with
    | zero => simp only [List.set_cons_zero, List.sum_cons]; omega
    | succ k => have := ih k; simp only [List.set_cons_succ, List.sum_cons]; omega
set_option maxRecDepth 100000 in
theorem putBook_sz (l : BookD) (a : AcctD) : bookSz (putBook l a).1 ≤ bookSz l + acctSz a := by
  unfold putBook putAt
  split
  · unfold bookSz
    rw [List.length_set, List.map_set]
    have := sum_set_le (l.map acctSz) (findA l (aId a)).toNat (acctSz a)
    omega
  · exact Nat.zero_le _
end Go.Proofs.YthnimmagaocipaaGreatDoor
set_option linter.unusedVariables false
namespace Go.Proofs.YthnimmagaocipaaGreatDoor
open Go.ChangeShapes Go.WideShapes Go.ChangeAt Go.RowKit

set_option maxRecDepth 100000 in
set_option maxHeartbeats 16000000 in
theorem eqAccts_any (hi1 hi2 : Nat) (va vb : Value) (l : BookD) (w : World) (hs : bookSmall 1048576 l) (h1 : AcctsR.rd hi1 w [va] l) (h2 : AcctsR.rd hi2 w [vb] l) (hh1 : hi1 ≤ w.heap.size) (hh2 : hi2 ≤ w.heap.size) :
    Calls Tryz.prog 25 #[va, vb] w fun e w' => e = .returned (.bool true) ∧ Below w.heap.size w w' := by
  obtain ⟨A1, c1, rfl, -, h1⟩ := accts_rd h1
  obtain ⟨A2, c2, rfl, -, h2⟩ := accts_rd h2
  obtain ⟨hn, hs⟩ := hs
  have H1 := Lib.hid h1
  have H2 := Lib.hid h2
  have HS := Lib.hid hs
  clear h1 h2 hs
  go_enter Tryz.func25, Tryz.ntmps25
  go_wp2
  go_loopw [5] (fun iv wr => ∃ k : Nat, k ≤ l.length ∧ iv = .int .i64 k ∧ Hid (Below w.heap.size w wr) ∧ w.heap.size ≤ wr.heap.size) (fun iv _ => l.length - (intOf iv).toNat)
  case atStart => exact ⟨0, Nat.zero_le _, rfl, Lib.hid (Below.refl _ _), Nat.le_refl _⟩
  case round =>
    obtain ⟨k, hk, rfl, HB, hz⟩ := hrel
    by_cases hlt : k < l.length
    · obtain ⟨x, hx⟩ : ∃ x, l[k]? = some x := ⟨_, List.getElem?_eq_getElem hlt⟩
      obtain ⟨b1, o1, AH, cH, AC, cC, AS, cS, AL, cL, rfl, hb1, x1, r1⟩ := H1.out k x hx
      obtain ⟨b2, o2, BH, dH, BC, dC, BS, dS, BL, dL, rfl, hb2, x2, r2⟩ := H2.out k x hx
      have hxs := HS.out x (List.mem_of_getElem? hx)
      have HE := Lib.hid (fun W (hW : Below w.heap.size w W) => eqAcct_any hi1 hi2 _ _ _ _ _ _ _ _ x W hxs (Rep.below (R := AcctR) r1 hW hh1) (Rep.below (R := AcctR) r2 hW hh2) (Nat.le_trans hh1 hW.size) (Nat.le_trans hh2 hW.size))
      clear r1 r2
      have HX1 := Lib.hid (fun W (hW : Below w.heap.size w W) => (x1.below hW (show b1 < w.heap.size by omega)).eleven)
      have HX2 := Lib.hid (fun W (hW : Below w.heap.size w W) => (x2.below hW (show b2 < w.heap.size by omega)).eleven)
      clear x1 x2
      have g1 : (k : Int) < (l.length : Int) := by omega
      have g2 : 0 ≤ (k : Int) := by omega
      clear hx
      obtain ⟨p0, p1, p2, p3, p4, p5, p6, p7, p8, p9, p10⟩ := HX1.out _ HB.out
      obtain ⟨q0, q1, q2, q3, q4, q5, q6, q7, q8, q9, q10⟩ := HX2.out _ HB.out
      have hD : Below w.heap.size w wr.drew := HB.out.drew
      have hzd : w.heap.size ≤ wr.drew.heap.size := hz
      go_wp2
      go_region_held3 (fun w' => Below w.heap.size w w' ∧ (w'.cell? ⟨b1, o1 + k * 11, none⟩ = some (.string (aId x)) ∧ w'.cell? ⟨b1, o1 + k * 11 + 1, none⟩ = some (.int .i64 (aLim x)) ∧ w'.cell? ⟨b1, o1 + k * 11 + 2, none⟩ = some (.int .i64 (aPos x)) ∧ w'.cell? ⟨b1, o1 + k * 11 + 3, none⟩ = some (.int .i64 (aMost x)) ∧ w'.cell? ⟨b1, o1 + k * 11 + 4, none⟩ = some (.int .i64 (aSum x)) ∧ w'.cell? ⟨b1, o1 + k * 11 + 5, none⟩ = some (.slice AH (aH x).length cH) ∧ w'.cell? ⟨b1, o1 + k * 11 + 6, none⟩ = some (.int .i64 (aR x).1) ∧ w'.cell? ⟨b1, o1 + k * 11 + 7, none⟩ = some (.int .i64 (aR x).2.1) ∧ w'.cell? ⟨b1, o1 + k * 11 + 8, none⟩ = some (.slice AC (aR x).2.2.1.length cC) ∧ w'.cell? ⟨b1, o1 + k * 11 + 9, none⟩ = some (.slice AS (aR x).2.2.2.length cS) ∧ w'.cell? ⟨b1, o1 + k * 11 + 10, none⟩ = some (.slice AL (aS x).length cL)) ∧ (w'.cell? ⟨b2, o2 + k * 11, none⟩ = some (.string (aId x)) ∧ w'.cell? ⟨b2, o2 + k * 11 + 1, none⟩ = some (.int .i64 (aLim x)) ∧ w'.cell? ⟨b2, o2 + k * 11 + 2, none⟩ = some (.int .i64 (aPos x)) ∧ w'.cell? ⟨b2, o2 + k * 11 + 3, none⟩ = some (.int .i64 (aMost x)) ∧ w'.cell? ⟨b2, o2 + k * 11 + 4, none⟩ = some (.int .i64 (aSum x)) ∧ w'.cell? ⟨b2, o2 + k * 11 + 5, none⟩ = some (.slice BH (aH x).length dH) ∧ w'.cell? ⟨b2, o2 + k * 11 + 6, none⟩ = some (.int .i64 (aR x).1) ∧ w'.cell? ⟨b2, o2 + k * 11 + 7, none⟩ = some (.int .i64 (aR x).2.1) ∧ w'.cell? ⟨b2, o2 + k * 11 + 8, none⟩ = some (.slice BC (aR x).2.2.1.length dC) ∧ w'.cell? ⟨b2, o2 + k * 11 + 9, none⟩ = some (.slice BS (aR x).2.2.2.length dS) ∧ w'.cell? ⟨b2, o2 + k * 11 + 10, none⟩ = some (.slice BL (aS x).length dL))) (refine ⟨by assumption, HX1.out _ (by assumption), HX2.out _ (by assumption)⟩) ((go_at_call 19; refine (HE.out _ (by assumption)).mono ?_; rintro e w2 ⟨rfl, hb⟩; have hD2 : Below w.heap.size w w2 := hD.trans (hb.mono hzd)))
      have HB2 : Hid (Below w.heap.size w w2) := Lib.hid hD2
      have hz2 := hD2.size
      clear hb hD2 hD
      go_wp2
      go_roundw
      case rel => exact ⟨k + 1, by omega, by go_num, HB2, hz2⟩
      case measure => simp [intOf] <;> omega
    · go_wp2
      go_ret
      exact ⟨rfl, HB.out⟩
set_option maxRecDepth 100000 in
set_option maxHeartbeats 1600000 in
theorem szAccts_any (hi : Nat) (v : Value) (l : BookD) (left : Int) (w : World) (hs : bookBig l) (h : AcctsR.rd hi w [v] l) (hh : hi ≤ w.heap.size) (h0 : 0 ≤ left) (h1 : left ≤ 1048576) :
    Calls Tryz.prog 21 #[v, .int .i64 left] w (szRes left (bookSz l) w) := by
  obtain ⟨A, c, rfl, hc, h⟩ := accts_rd h
  obtain ⟨hn, hs⟩ := hs
  have HR := Lib.hid h
  have HS := Lib.hid hs
  clear h hs
  unfold maxLen at hn
  by_cases hbig : left - (l.length : Int) < 0
  · go_enter Tryz.func21, Tryz.ntmps21
    go_wp2
    go_ret
    exact ⟨_, rfl, .inl rfl, Below.refl _ _⟩
  have hge : 0 ≤ left - (l.length : Int) := by omega
  go_enter Tryz.func21, Tryz.ntmps21
  go_wp2
  go_loopw [1, 5] (fun nv iv wr => ∃ (i : Nat) (r : Int), i ≤ l.length ∧ iv = .int .i64 i ∧ nv = .int .i64 r ∧ 0 ≤ r ∧ r ≤ 1048576 ∧ Hid (r = left - (l.length : Int) - (sumTo acctSz l i : Nat)) ∧ Hid (Below w.heap.size w wr) ∧ w.heap.size ≤ wr.heap.size) (fun _ iv _ => l.length - (intOf iv).toNat)
  case atStart => exact ⟨0, _, Nat.zero_le _, rfl, rfl, by omega, by omega, Lib.hid (by simp [sumTo]), Lib.hid (Below.refl _ _), Nat.le_refl _⟩
  case round =>
    obtain ⟨i, r, hil, rfl, rfl, hr0, hr1, HV, HB, hz⟩ := hrel
    by_cases hin : i < l.length
    · obtain ⟨x, hx⟩ : ∃ x, l[i]? = some x := ⟨_, List.getElem?_eq_getElem hin⟩
      obtain ⟨b, off, AH, cH, AC, cC, AS, cS, AL, cL, rfl, hbl, hat, hrd⟩ := HR.out i x hx
      have hxs := HS.out x (List.mem_of_getElem? hx)
      have HN := Lib.hid (sumTo_next acctSz l i x hx)
      clear hx
      have hat := hat.below HB.out (show b < w.heap.size by omega)
      obtain ⟨d0, d1, d2, d3, d4, d5, d6, d7, d8, d9, d10⟩ := hat.eleven
      have HZ := Lib.hid (szAcct_any hi _ _ _ _ x r wr hxs (Rep.below (R := AcctR) hrd HB.out hh) (by omega) hr0 hr1)
      clear hrd hat hxs
      have g1 : (i : Int) < (l.length : Int) := by omega
      have g2 : 0 ≤ (i : Int) := by omega
      go_wp2_with fail
      refine HZ.out.mono ?_
      rintro e w2 ⟨r2, rfl, hr2, hb2⟩
      have hz2 := hb2.size
      have HB2 : Hid (Below w.heap.size w w2) := Lib.hid (HB.out.trans (hb2.mono (by omega)))
      clear hb2 d0 d1 d2 d3 d4 d5 d6 d7 d8 d9 d10
      rcases hr2 with rfl | ⟨hr2, hr3⟩
      · go_wp2
        go_ret
        exact ⟨_, rfl, .inl rfl, HB2.out⟩
      · have HR2 := Lib.hid hr2
        have hr4 : r2 ≤ 1048576 := by omega
        clear hr2
        go_wp2
        go_roundw
        case rel => exact ⟨i + 1, r2, by omega, by go_num, rfl, hr3, hr4, Lib.hid (by rw [HN.out, HR2.out, HV.out]; omega), HB2, by omega⟩
        case measure => simp [intOf] <;> omega
    · obtain rfl : i = l.length := by omega
      go_wp2
      go_ret
      exact ⟨r, rfl, .inr ⟨by rw [HV.out, sumTo_all]; unfold bookSz; omega, hr0⟩, HB.out⟩
set_option maxRecDepth 100000 in
set_option maxHeartbeats 1600000 in
theorem szBook_any (hi : Nat) (v : Value) (l : BookD) (left : Int) (w : World) (hs : bookBig l) (h : AcctsR.rd hi w [v] l) (hh : hi ≤ w.heap.size) (h0 : 0 ≤ left) (h1 : left ≤ 1048576) :
    Calls Tryz.prog 6 #[.agg #[v], .int .i64 left] w (szRes left (bookSz l) w) := by
  obtain ⟨A, c, rfl, hc⟩ := Rep.slice_form h
  have HQ := Lib.hid (fun W (hW : Below w.heap.size w W) => szAccts_any hi _ l left W hs (Rep.below (R := AcctsR) h hW hh) (Nat.le_trans hh hW.size) h0 h1)
  have HB0 : Hid (∀ o, Below w.heap.size w (w.alloc o)) := Lib.hid fun o => (Below.refl _ _).alloc (Nat.le_refl _) _
  clear h hs
  go_enter Tryz.func6, Tryz.ntmps6
  go_wp2_with fail
  refine (HQ.out _ (HB0.out _)).mono ?_
  rintro e w2 ⟨r2, rfl, hr2, hb2⟩
  have HB2 : Hid (Below w.heap.size w w2) := Lib.hid ((HB0.out _).trans (hb2.mono (by simp)))
  clear hb2
  rcases hr2 with rfl | ⟨hr2, hr3⟩
  · go_wp2
    go_ret
    exact ⟨_, rfl, .inl rfl, HB2.out⟩
  · have HR2 := Lib.hid hr2
    clear hr2
    go_wp2
    go_ret
    exact ⟨_, rfl, .inr ⟨HR2.out, hr3⟩, HB2.out⟩
set_option maxRecDepth 100000 in
set_option maxHeartbeats 1600000 in
theorem eqBook_any (hi1 hi2 : Nat) (va vb : Value) (l : BookD) (w : World) (hs : bookSmall 1048576 l) (h1 : AcctsR.rd hi1 w [va] l) (h2 : AcctsR.rd hi2 w [vb] l) (hh1 : hi1 ≤ w.heap.size) (hh2 : hi2 ≤ w.heap.size) :
    Calls Tryz.prog 10 #[.agg #[va], .agg #[vb]] w fun e w' => e = .returned (.bool true) ∧ Below w.heap.size w w' := by
  obtain ⟨A, c, rfl, hc⟩ := Rep.slice_form h1
  obtain ⟨A', c', rfl, hc'⟩ := Rep.slice_form h2
  have HQ := Lib.hid (fun W (hW : Below w.heap.size w W) => eqAccts_any hi1 hi2 _ _ l W hs (Rep.below (R := AcctsR) h1 hW hh1) (Rep.below (R := AcctsR) h2 hW hh2) (Nat.le_trans hh1 hW.size) (Nat.le_trans hh2 hW.size))
  have HB0 : Hid (∀ o o', Below w.heap.size w ((w.alloc o).alloc o')) := Lib.hid fun o o' => ((Below.refl _ _).alloc (Nat.le_refl _) _).alloc (by simp) _
  clear h1 h2 hs
  go_enter Tryz.func10, Tryz.ntmps10
  go_wp2_with fail
  refine (HQ.out _ (HB0.out _ _)).mono ?_
  rintro e w2 ⟨rfl, hb2⟩
  have HB2 : Hid (Below w.heap.size w w2) := Lib.hid ((HB0.out _ _).trans (hb2.mono (by simp; omega)))
  clear hb2
  go_wp2
  go_ret
  exact ⟨rfl, HB2.out⟩
set_option maxRecDepth 100000 in
theorem book_small {l : BookD} {N : Nat} (h : bookSz l ≤ N) : bookSmall N l := by
  unfold bookSz at h
  refine ⟨by omega, fun x hx => acct_small ?_⟩
  have := le_sum acctSz hx
  omega
end Go.Proofs.YthnimmagaocipaaGreatDoor
set_option linter.unusedVariables false
namespace Go.Proofs.YthnimmagaocipaaGreatDoor
open Go.ChangeShapes Go.WideShapes Go.ChangeAt Go.RowKit

set_option maxRecDepth 100000 in
set_option maxHeartbeats 16000000 in
theorem markAccts_any (lo hi : Nat) (v : Value) (l : BookD) (k : Int) (w : World) (hs : bookSmall 1048576 l) (hk0 : 0 < k) (hk1 : kBk l k ≤ 100000000) (h : AcctsIv.I lo hi w [v] l) (hh : hi ≤ w.heap.size) :
    Calls Tryz.prog 30 #[v, .int .i64 k] w fun e w' => e = .returned (.int .i64 (kBk l k)) ∧ AcctsIv.I lo hi w' [v] (bookMark l k) ∧ Turned lo hi w w' := by
  obtain ⟨A, c, hv, hc, hm⟩ := h
  simp only [List.cons.injEq, and_true] at hv
  subst hv
  have hkk := kBk_up l k
  rcases hm with rfl | ⟨b, off, xs, p, q, rfl, hxl, hr⟩
  · go_enter Tryz.func30, Tryz.ntmps30
    go_wp2
    go_loop [1, 5] (fun kv iv => iv = .int .i64 0 ∧ kv = .int .i64 k) (fun _ _ => 0)
    case atStart => exact ⟨rfl, rfl⟩
    case round =>
      obtain ⟨rfl, rfl⟩ := hrel
      go_wp2
      go_ret
      exact ⟨rfl, ⟨A, c, rfl, hc, .inl rfl⟩, Turned.refl _ _ _⟩
  obtain ⟨n, hn⟩ : ∃ n, n = l.length := ⟨_, rfl⟩
  have hxn : xs.length = n := by rw [hn, ← hxl, List.length_map]
  rw [← hn] at hc ⊢
  have HN := Lib.hid hn
  have HX0 : Hid (∀ (j : Nat) (y : List Value × AcctD), xs[j]? = some y → l[j]? = some y.2) := Lib.hid fun j y hy => by rw [← hxl, List.getElem?_map, hy]; rfl
  have HR := Lib.hid hr
  have HXN := Lib.hid hxn
  obtain ⟨bb1, bb2⟩ := hr.blk
  obtain ⟨hn6, hs⟩ := hs
  have HSM := Lib.hid hs
  have HKT : Hid (∀ i, kBk (l.take i) k ≤ kBk l k) := Lib.hid fun i => kBk_take l i k
  have HKU : Hid (∀ i, k ≤ kBk (l.take i) k) := Lib.hid fun i => kBk_up _ k
  have HKS : Hid (∀ i x, l[i]? = some x → kBk (l.take (i + 1)) k = kEl x (kBk (l.take i) k)) := Lib.hid fun i x hx => kBk_snoc hx k
  have HKE : Hid (kBk (l.take n) k = kBk l k) := Lib.hid (by rw [hn, List.take_length])
  have HMA : Hid (∀ j x, l[j]? = some x → (bookMark l k)[j]? = some (elMark x (kBk (l.take j) k))) := Lib.hid fun j x hx => bookMark_at l k j x hx
  have HML : Hid ((bookMark l k).length = n) := Lib.hid (by rw [bookMark_len, hn])
  generalize kBk l k = KE at hk1 hkk HKT HKE ⊢
  generalize bookMark l k = ML at HMA HML ⊢
  rw [hn] at hxn
  have hn8 : n ≤ 1048576 := by omega
  clear hr hxl hxn hs hn hn6 hkk
  go_enter Tryz.func30, Tryz.ntmps30
  go_wp2
  go_loopw [1, 5] (fun kv iv wr => ∃ (i : Nat) (K : Int) (ys : List (List Value × AcctD)), i ≤ n ∧ iv = .int .i64 i ∧ kv = .int .i64 K ∧ Hid (K = kBk (l.take i) k) ∧ Hid (ys.length = n) ∧ Hid (∀ (j : Nat) (y : List Value × AcctD), ys[j]? = some y → (j < i → ML[j]? = some y.2) ∧ (i ≤ j → l[j]? = some y.2)) ∧ Hid (RowI AcctIv lo hi wr b off ys p q) ∧ Hid (Turned lo hi w wr) ∧ w.heap.size ≤ wr.heap.size) (fun _ iv _ => n - (intOf iv).toNat)
  case atStart => exact ⟨0, k, xs, Nat.zero_le _, rfl, rfl, Lib.hid rfl, HXN, Lib.hid fun j y hy => ⟨fun h => absurd h (by omega), fun _ => HX0.out j y hy⟩, HR, Lib.hid (Turned.refl _ _ _), Nat.le_refl _⟩
  case round =>
    obtain ⟨i, K, ys, hil, rfl, rfl, HK, HYL, HQ, HRR, HT, hz⟩ := hrel
    by_cases hin : i < n
    · obtain ⟨⟨cs0, a⟩, hy⟩ : ∃ y, ys[i]? = some y := ⟨_, List.getElem?_eq_getElem (by rw [HYL.out]; exact hin)⟩
      have hla := (HQ.out i _ hy).2 (Nat.le_refl _)
      simp only at hla
      have hki := HKT.out (i + 1)
      have hkj := HKU.out i
      rw [HKS.out i a hla, ← HK.out] at hki
      rw [← HK.out] at hkj
      have hku := kEl_up a K
      have HKN : Hid (kBk (l.take (i + 1)) k = kEl a K) := Lib.hid (by rw [HKS.out i a hla, ← HK.out])
      have HMI : Hid (ML[i]? = some (elMark a K)) := Lib.hid (by rw [HMA.out i a hla, ← HK.out])
      have has := HSM.out a (List.mem_of_getElem? hla)
      obtain ⟨vh, vc, vs, vl, hcs, hI⟩ := HRR.out.one i _ hy
      simp only at hcs hI
      subst hcs
      obtain ⟨AH, cH, AC, cC, AS, cS, AL, cL, hf⟩ := acct_forms hI.mine.rd
      simp only [aCells, List.cons.injEq, and_true, true_and] at hf
      obtain ⟨rfl, rfl, rfl, rfl⟩ := hf
      have hat := (HRR.out.at_ i _ hy).2
      have hfr := HRR.out.free i (by rw [HYL.out]; exact hin)
      obtain ⟨i1, i2, i3⟩ := HRR.out.in_ i (by rw [HYL.out]; exact hin)
      rw [show AcctR.k = 11 from rfl] at hat hfr
      obtain ⟨l1, h1, l2, h2, l3, h3, hE⟩ := eW.start hat hfr hI i3 (by omega) (by omega)
      have HE := Lib.hid hE
      have HSZ : Hid (bookSmall 1 [] → True) := Lib.hid fun _ => trivial
      clear hat hfr hI hE hy hla HSZ
      obtain ⟨id, lim, pos, most, sum, hs, ⟨sp, hd, cs, ss⟩, sl⟩ := a
      obtain ⟨z1, z2, z3, z4, -⟩ := has
      simp only [aH, aS] at hku z1 z2 z3 z4
      have HKV : Hid (kElS (id, lim, pos, most, sum, hs, (sp, hd, cs, ss), sl) K = K + 1 + 1 + 1 + 1 + 1 + 3 * (hs.length : Int) + 1 + 1 + cs.length + ss.length) := Lib.hid rfl
      have HKF : Hid (kEl (id, lim, pos, most, sum, hs, (sp, hd, cs, ss), sl) K = kAt (kElS (id, lim, pos, most, sum, hs, (sp, hd, cs, ss), sl) K) (lensOf sl) sl.length) := Lib.hid rfl
      generalize kEl (id, lim, pos, most, sum, hs, (sp, hd, cs, ss), sl) K = K9 at hki hku HKN HKF
      generalize kElS (id, lim, pos, most, sum, hs, (sp, hd, cs, ss), sl) K = K8 at HKV HKF
      obtain rfl : K8 = _ := HKV.out
      have HK9 := Lib.hid (And.intro hki hku)
      have k0 : 0 < K := by omega
      have k1 : K + 7 + 3 * (hs.length : Int) + cs.length + ss.length ≤ 100000000 := by omega
      clear hki hku hkj HKV
      have g1 : (i : Int) < (n : Int) := by omega
      have g2 : 0 ≤ (i : Int) := by omega
      go_wp2_with fail
      refine (markText_any K _ (by omega) (by omega)).mono ?_
      rintro e w2 ⟨rfl, hb2⟩
      have z2 := hb2.size
      have hE2 := HE.out.below hb2 (Nat.le_refl _)
      obtain ⟨c0, c1, c2, c3, c4, c5, c6, c7, c8, c9, c10⟩ := hE2.at_.eleven
      have f0 := hE2.fr 0 (by decide)
      rw [Nat.add_zero] at f0
      have f1 := hE2.fr 1 (by decide)
      have f2 := hE2.fr 2 (by decide)
      have f3 := hE2.fr 3 (by decide)
      have f4 := hE2.fr 4 (by decide)
      have hE3 := (((((hE2.cell (a' := (⟨(markOf K).toArray⟩, lim, pos, most, sum, hs, (sp, hd, cs, ss), sl)) 0 (.string ⟨(markOf K).toArray⟩) (by decide) rfl rfl rfl rfl rfl).cell (a' := (⟨(markOf K).toArray⟩, K + 1, pos, most, sum, hs, (sp, hd, cs, ss), sl)) 1 (.int .i64 (K + 1)) (by decide) rfl rfl rfl rfl rfl).cell (a' := (⟨(markOf K).toArray⟩, K + 1, K + 1 + 1, most, sum, hs, (sp, hd, cs, ss), sl)) 2 (.int .i64 (K + 1 + 1)) (by decide) rfl rfl rfl rfl rfl).cell (a' := (⟨(markOf K).toArray⟩, K + 1, K + 1 + 1, K + 1 + 1 + 1, sum, hs, (sp, hd, cs, ss), sl)) 3 (.int .i64 (K + 1 + 1 + 1)) (by decide) rfl rfl rfl rfl rfl).cell (a' := (⟨(markOf K).toArray⟩, K + 1, K + 1 + 1, K + 1 + 1 + 1, K + 1 + 1 + 1 + 1, hs, (sp, hd, cs, ss), sl)) 4 (.int .i64 (K + 1 + 1 + 1 + 1)) (by decide) rfl rfl rfl rfl rfl)
      clear HE hb2
      go_upto_region 14 with fail
      obtain ⟨W3, hW3⟩ : ∃ W3, W3 = (((((w2.setCell ⟨b, off + i * 11, none⟩ (.string ⟨(markOf K).toArray⟩)).setCell ⟨b, off + i * 11 + 1, none⟩ (.int .i64 (K + 1))).setCell ⟨b, off + i * 11 + 2, none⟩ (.int .i64 (K + 1 + 1))).setCell ⟨b, off + i * 11 + 3, none⟩ (.int .i64 (K + 1 + 1 + 1))).setCell ⟨b, off + i * 11 + 4, none⟩ (.int .i64 (K + 1 + 1 + 1 + 1))) := ⟨_, rfl⟩
      rw [← hW3]
      have HE3 : Hid (eW b (off + i * 11) (p i) (q i) l1 h1 l2 h2 l3 h3 wr W3 (⟨(markOf K).toArray⟩, K + 1, K + 1 + 1, K + 1 + 1 + 1, K + 1 + 1 + 1 + 1, hs, (sp, hd, cs, ss), sl) (.slice AH hs.length cH) (.slice AC cs.length cC) (.slice AS ss.length cS) (.slice AL sl.length cL)) := Lib.hid (by rw [hW3]; exact hE3)
      clear hW3 hE3 hE2 c0 c1 c2 c3 c4 c5 c6 c7 c8 c9 c10 f0 f1 f2 f3 f4
      obtain ⟨c0, c1, c2, c3, c4, c5, c6, c7, c8, c9, c10⟩ := HE3.out.at_.eleven
      obtain ⟨⟨-, y1⟩, ⟨-, y2⟩, ⟨-, y3⟩, -⟩ := HE3.out.bd
      obtain ⟨s1, s2⟩ := HE3.out.sz
      have s3 := HE3.out.ed.size
      go_wp2_with fail
      refine (markHoldsK_any l1 h1 _ hs (K + 1 + 1 + 1 + 1 + 1) W3 (by omega) (by omega) (by omega) HE3.out.m1 (by omega)).mono ?_
      rintro e w4 ⟨rfl, hm4, ht4⟩
      have hE4 := HE3.out.holds (a' := (⟨(markOf K).toArray⟩, K + 1, K + 1 + 1, K + 1 + 1 + 1, K + 1 + 1 + 1 + 1, (holdsMark (K + 1 + 1 + 1 + 1 + 1) hs.length), (sp, hd, cs, ss), sl)) ht4 hm4 rfl rfl rfl rfl
      clear hm4 ht4 HE3 c0 c1 c2 c3 c4 c5 c6 c7 c8 c9 c10 s3
      obtain ⟨c0, c1, c2, c3, c4, c5, c6, c7, c8, c9, c10⟩ := hE4.at_.eleven
      have f6 := hE4.fr 6 (by decide)
      have f7 := hE4.fr 7 (by decide)
      have hE5 := ((hE4.cell (a' := (⟨(markOf K).toArray⟩, K + 1, K + 1 + 1, K + 1 + 1 + 1, K + 1 + 1 + 1 + 1, (holdsMark (K + 1 + 1 + 1 + 1 + 1) hs.length), (K + 1 + 1 + 1 + 1 + 1 + 3 * (hs.length : Int), hd, cs, ss), sl)) 6 (.int .i64 (K + 1 + 1 + 1 + 1 + 1 + 3 * (hs.length : Int))) (by decide) rfl rfl rfl rfl rfl).cell (a' := (⟨(markOf K).toArray⟩, K + 1, K + 1 + 1, K + 1 + 1 + 1, K + 1 + 1 + 1 + 1, (holdsMark (K + 1 + 1 + 1 + 1 + 1) hs.length), (K + 1 + 1 + 1 + 1 + 1 + 3 * (hs.length : Int), K + 1 + 1 + 1 + 1 + 1 + 3 * (hs.length : Int) + 1, cs, ss), sl)) 7 (.int .i64 (K + 1 + 1 + 1 + 1 + 1 + 3 * (hs.length : Int) + 1)) (by decide) rfl rfl rfl rfl rfl)
      go_upto_region 19 with fail
      obtain ⟨W5, hW5⟩ : ∃ W5, W5 = ((w4.setCell ⟨b, off + i * 11 + 6, none⟩ (.int .i64 (K + 1 + 1 + 1 + 1 + 1 + 3 * (hs.length : Int)))).setCell ⟨b, off + i * 11 + 7, none⟩ (.int .i64 (K + 1 + 1 + 1 + 1 + 1 + 3 * (hs.length : Int) + 1))) := ⟨_, rfl⟩
      rw [← hW5]
      have HE5 : Hid (eW b (off + i * 11) (p i) (q i) l1 h1 l2 h2 l3 h3 wr W5 (⟨(markOf K).toArray⟩, K + 1, K + 1 + 1, K + 1 + 1 + 1, K + 1 + 1 + 1 + 1, (holdsMark (K + 1 + 1 + 1 + 1 + 1) hs.length), (K + 1 + 1 + 1 + 1 + 1 + 3 * (hs.length : Int), K + 1 + 1 + 1 + 1 + 1 + 3 * (hs.length : Int) + 1, cs, ss), sl) (.slice AH hs.length cH) (.slice AC cs.length cC) (.slice AS ss.length cS) (.slice AL sl.length cL)) := Lib.hid (by rw [hW5]; exact hE5)
      clear hW5 hE5 hE4 c0 c1 c2 c3 c4 c5 c6 c7 c8 c9 c10 f6 f7
      obtain ⟨c0, c1, c2, c3, c4, c5, c6, c7, c8, c9, c10⟩ := HE5.out.at_.eleven
      have s3 := HE5.out.ed.size
      go_wp2_with fail
      refine (markInts_any l2 h2 _ cs (K + 1 + 1 + 1 + 1 + 1 + 3 * (hs.length : Int) + 1 + 1) W5 (by omega) (by omega) (by omega) HE5.out.m2).mono ?_
      rintro e w6 ⟨rfl, hm6, hg6⟩
      have HE6 := Lib.hid (HE5.out.counts (a' := (⟨(markOf K).toArray⟩, K + 1, K + 1 + 1, K + 1 + 1 + 1, K + 1 + 1 + 1 + 1, (holdsMark (K + 1 + 1 + 1 + 1 + 1) hs.length), (K + 1 + 1 + 1 + 1 + 1 + 3 * (hs.length : Int), K + 1 + 1 + 1 + 1 + 1 + 3 * (hs.length : Int) + 1, (marksL (fun x => x) (K + 1 + 1 + 1 + 1 + 1 + 3 * (hs.length : Int) + 1 + 1) cs.length), ss), sl)) hg6 hm6 rfl rfl rfl rfl)
      clear hm6 hg6 HE5 c0 c1 c2 c3 c4 c5 c6 c7 c8 c9 c10 s3
      obtain ⟨c0, c1, c2, c3, c4, c5, c6, c7, c8, c9, c10⟩ := HE6.out.at_.eleven
      have s3 := HE6.out.ed.size
      go_wp2_with fail
      refine (markInts_any l2 h2 _ ss (K + 1 + 1 + 1 + 1 + 1 + 3 * (hs.length : Int) + 1 + 1 + cs.length) w6 (by omega) (by omega) (by omega) HE6.out.m3).mono ?_
      rintro e w7 ⟨rfl, hm7, hg7⟩
      have HE7 := Lib.hid (HE6.out.sums (a' := (⟨(markOf K).toArray⟩, K + 1, K + 1 + 1, K + 1 + 1 + 1, K + 1 + 1 + 1 + 1, (holdsMark (K + 1 + 1 + 1 + 1 + 1) hs.length), (K + 1 + 1 + 1 + 1 + 1 + 3 * (hs.length : Int), K + 1 + 1 + 1 + 1 + 1 + 3 * (hs.length : Int) + 1, (marksL (fun x => x) (K + 1 + 1 + 1 + 1 + 1 + 3 * (hs.length : Int) + 1 + 1) cs.length), (marksL (fun x => x) (K + 1 + 1 + 1 + 1 + 1 + 3 * (hs.length : Int) + 1 + 1 + cs.length) ss.length)), sl)) hg7 hm7 rfl rfl rfl rfl)
      clear hm7 hg7 HE6 c0 c1 c2 c3 c4 c5 c6 c7 c8 c9 c10 s3
      obtain ⟨c0, c1, c2, c3, c4, c5, c6, c7, c8, c9, c10⟩ := HE7.out.at_.eleven
      have s3 := HE7.out.ed.size
      have HKF' := HKF.out
      go_wp2_with fail
      refine (markSlots_any l3 h3 _ sl (K + 1 + 1 + 1 + 1 + 1 + 3 * (hs.length : Int) + 1 + 1 + cs.length + ss.length) w7 (by omega) (by rw [← HKF']; have := HK9.out.1; omega) HE7.out.m4 (by omega)).mono ?_
      rintro e w8 ⟨rfl, hm8, ht8⟩
      rw [← HKF']
      have hE8 := HE7.out.slots (a' := (⟨(markOf K).toArray⟩, K + 1, K + 1 + 1, K + 1 + 1 + 1, K + 1 + 1 + 1 + 1, (holdsMark (K + 1 + 1 + 1 + 1 + 1) hs.length), (K + 1 + 1 + 1 + 1 + 1 + 3 * (hs.length : Int), K + 1 + 1 + 1 + 1 + 1 + 3 * (hs.length : Int) + 1, (marksL (fun x => x) (K + 1 + 1 + 1 + 1 + 1 + 3 * (hs.length : Int) + 1 + 1) cs.length), (marksL (fun x => x) (K + 1 + 1 + 1 + 1 + 1 + 3 * (hs.length : Int) + 1 + 1 + cs.length) ss.length)), (slotsMark (K + 1 + 1 + 1 + 1 + 1 + 3 * (hs.length : Int) + 1 + 1 + cs.length + ss.length) (lensOf sl)))) ht8 hm8 rfl rfl rfl rfl
      have HRR8 := Lib.hid (HRR.out.edit (y := (_, _)) (by rw [HYL.out]; exact hin) hE8.ed rfl hE8.at_ ⟨_, _, _, _, rfl, hE8.inside⟩ (by omega))
      have HT8 := Lib.hid (HT.out.trans (hE8.ed.toTurned bb1 bb2 i1 i2))
      have s8 := hE8.ed.size
      clear hm8 ht8 HE7 c0 c1 c2 c3 c4 c5 c6 c7 c8 c9 c10 s3 hE8 HKF'
      go_wp2
      go_roundw
      case rel =>
        refine ⟨i + 1, K9, _, by omega, by go_num, rfl, Lib.hid HKN.out.symm, Lib.hid (by rw [List.length_set]; exact HYL.out), Lib.hid fun j y hy => ?_, HRR8, HT8, by omega⟩
        by_cases e : i = j
        · subst e
          rw [List.getElem?_set_self (by rw [HYL.out]; exact hin)] at hy
          cases hy
          exact ⟨fun _ => HMI.out, fun h => absurd h (by omega)⟩
        · rw [List.getElem?_set_ne e] at hy
          obtain ⟨r1, r2⟩ := HQ.out j y hy
          exact ⟨fun h => r1 (by omega), fun h => r2 (by omega)⟩
      case measure => simp [intOf] <;> omega
    · obtain rfl : i = n := by omega
      have HK' := HK.out.trans HKE.out
      have hys : ys.map (·.2) = ML := by
        apply List.ext_getElem?
        intro j
        by_cases hj : j < i
        · rw [List.getElem?_map, List.getElem?_eq_getElem (by rw [HYL.out]; exact hj), Option.map_some, ← (HQ.out j _ (List.getElem?_eq_getElem (by rw [HYL.out]; exact hj))).1 hj]
        · rw [List.getElem?_eq_none (by rw [List.length_map, HYL.out]; omega), List.getElem?_eq_none (by rw [HML.out]; omega)]
      have HYS := Lib.hid hys
      have HK2 := Lib.hid HK'
      clear hys HK'
      go_wp2
      go_ret
      exact ⟨by rw [HK2.out]; rfl, ⟨_, c, by rw [HML.out], by rw [HML.out]; exact hc, .inr ⟨b, off, ys, p, q, rfl, HYS.out, HRR.out⟩⟩, HT.out⟩
set_option maxRecDepth 100000 in
set_option maxHeartbeats 1600000 in
theorem markBook_any (lo hi : Nat) (v : Value) (l : BookD) (k : Int) (w : World) (hs : bookSmall 1048576 l) (hk0 : 0 < k) (hk1 : kBk l k ≤ 100000000) (h : AcctsIv.I lo hi w [v] l) (hh : hi ≤ w.heap.size) :
    Calls Tryz.prog 13 #[.agg #[v], .int .i64 k] w fun e w' => e = .returned (.int .i64 (kBk l k)) ∧ AcctsIv.I lo hi w' [v] (bookMark l k) ∧ Turned lo hi w w' := by
  obtain ⟨A, c, rfl, hc⟩ := Rep.slice_form (AcctsIv.rd h)
  have HQ := Lib.hid (fun W (hW : Below w.heap.size w W) => markAccts_any lo hi _ l k W hs hk0 hk1 (AcctsIv.below h hW hh) (Nat.le_trans hh hW.size))
  have HB0 : Hid (∀ o, Below w.heap.size w (w.alloc o)) := Lib.hid fun o => (Below.refl _ _).alloc (Nat.le_refl _) _
  clear h hs
  go_enter Tryz.func13, Tryz.ntmps13
  go_wp2_with fail
  refine (HQ.out _ (HB0.out _)).mono ?_
  rintro e w2 ⟨rfl, hm, ht⟩
  have HT2 : Hid (Turned lo hi w w2) := Lib.hid ((Turned.of_below (HB0.out _)).trans ht)
  have HM2 := Lib.hid hm
  clear ht hm
  go_wp2
  go_ret
  exact ⟨rfl, HM2.out, HT2.out⟩
end Go.Proofs.YthnimmagaocipaaGreatDoor
set_option linter.unusedVariables false
namespace Go.Proofs.YthnimmagaocipaaGreatDoor
open Go.ChangeShapes Go.WideShapes Go.ChangeAt Go.RowKit

set_option maxRecDepth 100000 in
set_option maxHeartbeats 16000000 in
theorem heldAccts_any (hi : Nat) (v : Value) (l : BookD) (k : Int) (w : World) (hs : bookSmall 1048576 l) (hk0 : 0 < k) (hk1 : kBk l k ≤ 100000000) (h : AcctsR.rd hi w [v] (bookMark l k)) (hh : hi ≤ w.heap.size) :
    Calls Tryz.prog 31 #[v, .int .i64 k] w fun e w' => e = .returned (.int .i64 (kBk l k)) ∧ Below w.heap.size w w' := by
  obtain ⟨A, c, rfl, hc, hrd⟩ := accts_rd h
  have hkk := kBk_up l k
  obtain ⟨n, hn⟩ : ∃ n, n = l.length := ⟨_, rfl⟩
  rw [bookMark_len, ← hn] at hc ⊢
  obtain ⟨hn6, hs⟩ := hs
  have HSM := Lib.hid hs
  have HR := Lib.hid hrd
  have HKT : Hid (∀ i, kBk (l.take i) k ≤ kBk l k) := Lib.hid fun i => kBk_take l i k
  have HKU : Hid (∀ i, k ≤ kBk (l.take i) k) := Lib.hid fun i => kBk_up _ k
  have HKS : Hid (∀ i x, l[i]? = some x → kBk (l.take (i + 1)) k = kEl x (kBk (l.take i) k)) := Lib.hid fun i x hx => kBk_snoc hx k
  have HKE : Hid (kBk (l.take n) k = kBk l k) := Lib.hid (by rw [hn, List.take_length])
  have HMA : Hid (∀ j x, l[j]? = some x → (bookMark l k)[j]? = some (elMark x (kBk (l.take j) k))) := Lib.hid fun j x hx => bookMark_at l k j x hx
  have HLA : Hid (∀ j, j < n → ∃ x, l[j]? = some x) := Lib.hid fun j hj => ⟨_, List.getElem?_eq_getElem (by omega)⟩
  generalize kBk l k = KE at hk1 hkk HKT HKE ⊢
  generalize bookMark l k = ML at HMA HR ⊢
  have hn8 : n ≤ 1048576 := by omega
  clear hrd hs hn hn6 hkk h
  go_enter Tryz.func31, Tryz.ntmps31
  go_wp2
  go_loopw [1, 5] (fun kv iv wr => ∃ (i : Nat) (K : Int), i ≤ n ∧ iv = .int .i64 i ∧ kv = .int .i64 K ∧ Hid (K = kBk (l.take i) k) ∧ Hid (Below w.heap.size w wr) ∧ w.heap.size ≤ wr.heap.size) (fun _ iv _ => n - (intOf iv).toNat)
  case atStart => exact ⟨0, k, Nat.zero_le _, rfl, rfl, Lib.hid rfl, Lib.hid (Below.refl _ _), Nat.le_refl _⟩
  case round =>
    obtain ⟨i, K, hil, rfl, rfl, HK, HB, hz⟩ := hrel
    by_cases hin : i < n
    · obtain ⟨a, hla⟩ := HLA.out i hin
      have hki := HKT.out (i + 1)
      have hkj := HKU.out i
      rw [HKS.out i a hla, ← HK.out] at hki
      rw [← HK.out] at hkj
      have hku := kEl_up a K
      have HKN : Hid (kBk (l.take (i + 1)) k = kEl a K) := Lib.hid (by rw [HKS.out i a hla, ← HK.out])
      have hma := HMA.out i a hla
      rw [← HK.out] at hma
      have has := HSM.out a (List.mem_of_getElem? hla)
      obtain ⟨b, off, AH, cH, AC, cC, AS, cS, AL, cL, rfl, hbl, hat, hrd⟩ := HR.out i _ hma
      have hat := hat.below HB.out (show b < w.heap.size by omega)
      have hrd := Rep.below (R := AcctR) hrd HB.out hh
      obtain ⟨vh, vc, vs, vl, hcs, r1, r2, r3, r4⟩ := acct_rd hrd
      simp only [aCells, List.cons.injEq, and_true, true_and] at hcs
      obtain ⟨rfl, rfl, rfl, rfl⟩ := hcs
      obtain ⟨id, lim, pos, most, sum, hs, ⟨sp, hd, cs, ss⟩, sl⟩ := a
      obtain ⟨z1, z2, z3, z4, -⟩ := has
      simp only [aH, aS] at hku z1 z2 z3 z4
      simp only [elMark, aH, aR, aS] at r1 r2 r3 r4
      have HM1 := Lib.hid (fun W (hW : Below wr.heap.size wr W) => heldHoldsK_any hi _ hs.length (K + 1 + 1 + 1 + 1 + 1) W (by omega) (by omega) (by omega) (Rep.below (R := HoldsR) r1 hW (by omega)) (Nat.le_trans (show hi ≤ wr.heap.size by omega) hW.size))
      have HM2 := Lib.hid (fun W (hW : Below wr.heap.size wr W) => heldInts_any hi _ cs.length (K + 1 + 1 + 1 + 1 + 1 + 3 * (hs.length : Int) + 1 + 1) W (by omega) (by omega) (by omega) (r2.below hW (by omega)))
      have HM3 := Lib.hid (fun W (hW : Below wr.heap.size wr W) => heldInts_any hi _ ss.length (K + 1 + 1 + 1 + 1 + 1 + 3 * (hs.length : Int) + 1 + 1 + cs.length) W (by omega) (by omega) (by omega) (r3.below hW (by omega)))
      have HKV : Hid (kElS (id, lim, pos, most, sum, hs, (sp, hd, cs, ss), sl) K = K + 1 + 1 + 1 + 1 + 1 + 3 * (hs.length : Int) + 1 + 1 + cs.length + ss.length) := Lib.hid rfl
      have HKF : Hid (kEl (id, lim, pos, most, sum, hs, (sp, hd, cs, ss), sl) K = kAt (kElS (id, lim, pos, most, sum, hs, (sp, hd, cs, ss), sl) K) (lensOf sl) (lensOf sl).length) := Lib.hid (by rw [lensOf_len]; rfl)
      generalize kEl (id, lim, pos, most, sum, hs, (sp, hd, cs, ss), sl) K = K9 at hki hku HKN HKF
      generalize kElS (id, lim, pos, most, sum, hs, (sp, hd, cs, ss), sl) K = K8 at HKV HKF r4 hat
      obtain rfl : K8 = _ := HKV.out
      have HM4 := Lib.hid (fun W (hW : Below wr.heap.size wr W) => heldSlots_any hi _ (lensOf sl) (K + 1 + 1 + 1 + 1 + 1 + 3 * (hs.length : Int) + 1 + 1 + cs.length + ss.length) W (by omega) (by rw [← HKF.out]; omega) (Rep.below (R := SlotsR) r4 hW (by omega)) (Nat.le_trans (show hi ≤ wr.heap.size by omega) hW.size))
      rw [← HKF.out] at HM4
      simp only [aCells, elMark, aH, aR, aS, aId, aLim, aPos, aMost, aSum] at hat
      rw [holdsMark_len] at HM1 hat
      rw [marks_length] at HM2 hat
      rw [marks_length] at HM3 hat
      rw [slotsMark_len] at HM4 hat
      have k0 : 0 < K := by omega
      have k1 : K + 7 + 3 * (hs.length : Int) + cs.length + ss.length ≤ 100000000 := by omega
      have k9 : ¬ K9 < 0 := by omega
      have HX := Lib.hid (fun W (hW : Below wr.heap.size wr W) => (hat.below hW (show b < wr.heap.size by omega)).eleven)
      have HKI := Lib.hid hki
      clear hku hkj HKV hat hrd r1 r2 r3 r4 hma hla hki
      have g1 : (i : Int) < (n : Int) := by omega
      have g2 : 0 ≤ (i : Int) := by omega
      have hml := markH_size K (by omega)
      have HMK : Hid (∀ w', Calls Tryz.prog 66 #[.int .i64 K] w' fun e w'' => e = .returned (.string ⟨(markOf K).toArray⟩) ∧ Below w'.heap.size w' w'') := Lib.hid fun w' => markText_any _ w' (by omega) (by omega)
      generalize markOf K = mk at hml HX HMK
      obtain ⟨c0, c1, c2, c3, c4, c5, c6, c7, c8, c9, c10⟩ := HX.out _ (Below.refl _ _)
      have hD : Below wr.heap.size wr wr.drew := below_drew _ _
      go_wp2
      go_region_held3 (fun w' => w'.cell? ⟨b, off + i * 11, none⟩ = some (.string ⟨mk.toArray⟩)) (go_keep) ((go_at_call 66; refine (HMK.out _).mono ?_; rintro e w2 ⟨rfl, hb2⟩; have q := (HX.out _ (hD.trans hb2)).1))
      have HB2 : Hid (Below wr.heap.size wr w2) := Lib.hid (hD.trans hb2)
      clear hb2 hD c0 c1 c2 c3 c4 c5 c6 c7 c8 c9 c10
      obtain ⟨c0, c1, c2, c3, c4, c5, c6, c7, c8, c9, c10⟩ := HX.out _ HB2.out
      go_wp2_with fail
      refine (HM1.out _ HB2.out).mono ?_
      rintro e w3 ⟨rfl, hb3⟩
      have z2 := HB2.out.size
      have HB3 : Hid (Below wr.heap.size wr w3) := Lib.hid (HB2.out.trans (hb3.mono z2))
      clear hb3 HM1 HB2 c0 c1 c2 c3 c4 c5 c6 c7 c8 c9 c10
      obtain ⟨c0, c1, c2, c3, c4, c5, c6, c7, c8, c9, c10⟩ := HX.out _ HB3.out
      have kk1 : ¬ (K + 1 + 1 + 1 + 1 + 1 + 3 * (hs.length : Int) < 0) := by omega
      go_wp2_with fail
      refine (HM2.out _ HB3.out).mono ?_
      rintro e w4 ⟨rfl, hb4⟩
      have z3 := HB3.out.size
      have HB4 : Hid (Below wr.heap.size wr w4) := Lib.hid (HB3.out.trans (hb4.mono z3))
      clear hb4 HM2 HB3 c0 c1 c2 c3 c4 c5 c6 c7 c8 c9 c10
      obtain ⟨c0, c1, c2, c3, c4, c5, c6, c7, c8, c9, c10⟩ := HX.out _ HB4.out
      have kk2 : ¬ (K + 1 + 1 + 1 + 1 + 1 + 3 * (hs.length : Int) + 1 + 1 + cs.length < 0) := by omega
      go_wp2_with fail
      refine (HM3.out _ HB4.out).mono ?_
      rintro e w5 ⟨rfl, hb5⟩
      have z4 := HB4.out.size
      have HB5 : Hid (Below wr.heap.size wr w5) := Lib.hid (HB4.out.trans (hb5.mono z4))
      clear hb5 HM3 HB4 c0 c1 c2 c3 c4 c5 c6 c7 c8 c9 c10
      obtain ⟨c0, c1, c2, c3, c4, c5, c6, c7, c8, c9, c10⟩ := HX.out _ HB5.out
      have kk3 : ¬ (K + 1 + 1 + 1 + 1 + 1 + 3 * (hs.length : Int) + 1 + 1 + cs.length + ss.length < 0) := by omega
      go_wp2_with fail
      refine (HM4.out _ HB5.out).mono ?_
      rintro e w6 ⟨rfl, hb6⟩
      have z5 := HB5.out.size
      have HB6 : Hid (Below wr.heap.size wr w6) := Lib.hid (HB5.out.trans (hb6.mono z5))
      have z6 := HB6.out.size
      clear hb6 HM4 HB5 c0 c1 c2 c3 c4 c5 c6 c7 c8 c9 c10
      have HB7 : Hid (Below w.heap.size w w6) := Lib.hid (HB.out.trans (HB6.out.mono hz))
      go_wp2
      go_roundw
      case rel => exact ⟨i + 1, K9, by omega, by go_num, rfl, Lib.hid HKN.out.symm, HB7, by omega⟩
      case measure => simp [intOf] <;> omega
    · obtain rfl : i = n := by omega
      have HK2 := Lib.hid (HK.out.trans HKE.out)
      go_wp2
      go_ret
      exact ⟨by rw [HK2.out]; rfl, HB.out⟩
set_option maxRecDepth 100000 in
set_option maxHeartbeats 1600000 in
theorem heldBook_any (hi : Nat) (v : Value) (l : BookD) (k : Int) (w : World) (hs : bookSmall 1048576 l) (hk0 : 0 < k) (hk1 : kBk l k ≤ 100000000) (h : AcctsR.rd hi w [v] (bookMark l k)) (hh : hi ≤ w.heap.size) :
    Calls Tryz.prog 14 #[.agg #[v], .int .i64 k] w fun e w' => e = .returned (.int .i64 (kBk l k)) ∧ Below w.heap.size w w' := by
  obtain ⟨A, c, rfl, hc⟩ := Rep.slice_form h
  have HQ := Lib.hid (fun W (hW : Below w.heap.size w W) => heldAccts_any hi _ l k W hs hk0 hk1 (Rep.below (R := AcctsR) h hW hh) (Nat.le_trans hh hW.size))
  have HB0 : Hid (∀ o, Below w.heap.size w (w.alloc o)) := Lib.hid fun o => (Below.refl _ _).alloc (Nat.le_refl _) _
  have hkk := kBk_up l k
  have hkn : ¬ kBk l k < 0 := by omega
  generalize kBk l k = KE at HQ hkk hk1 hkn ⊢
  clear h hs
  go_enter Tryz.func14, Tryz.ntmps14
  go_wp2_with fail
  refine (HQ.out _ (HB0.out _)).mono ?_
  rintro e w2 ⟨rfl, hb⟩
  have HB2 : Hid (Below w.heap.size w w2) := Lib.hid ((HB0.out _).trans (hb.mono (by simp)))
  clear hb
  go_wp2
  go_ret
  exact ⟨rfl, HB2.out⟩
end Go.Proofs.YthnimmagaocipaaGreatDoor
set_option linter.unusedVariables false
namespace Go.Proofs.YthnimmagaocipaaGreatDoor
end Go.Proofs.YthnimmagaocipaaGreatDoor
