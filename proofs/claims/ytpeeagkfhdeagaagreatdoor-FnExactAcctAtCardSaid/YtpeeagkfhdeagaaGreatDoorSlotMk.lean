/- Marks in slices of slots, and looks at them; no conditions. -/
import Derived.Test.YtpeeagkfhdeagaaGreatDoorSlotM
import Derived.Test.YtpeeagkfhdeagaaGreatDoorFieldM
set_option linter.unusedVariables false
namespace Go.Proofs.YtpeeagkfhdeagaaGreatDoor
open Go.ChangeShapes Go.WideShapes Go.ChangeAt Go.RowKit

/-- a slot that bears the marks from k on -/
def slotMk (k : Int) (n : Nat) : SlotD := (⟨(markOf k).toArray⟩, ⟨(markOf (k + 1)).toArray⟩, marksL (· % 256) (k + 1 + 1) n)
/-- the mark that element j's begin with -/
def kAt (k : Int) (ns : List Nat) (j : Nat) : Int := k + (((ns.take j).map fun n => 2 + n).sum : Nat)
def slotsMark (k : Int) (ns : List Nat) : List SlotD := (List.range ns.length).map fun j => slotMk (kAt k ns j) (ns.getD j 0)
def lensOf (l : List SlotD) : List Nat := l.map (·.2.2.length)
set_option maxRecDepth 100000 in
theorem lensOf_len (l : List SlotD) : (lensOf l).length = l.length := List.length_map ..
set_option maxRecDepth 100000 in
theorem slotsMark_len (k : Int) (ns : List Nat) : (slotsMark k ns).length = ns.length := by simp [slotsMark]
set_option maxRecDepth 100000 in
theorem slotsMark_at {k : Int} {ns : List Nat} {j : Nat} (h : j < ns.length) : (slotsMark k ns)[j]? = some (slotMk (kAt k ns j) (ns.getD j 0)) := by simp [slotsMark, h]
set_option maxRecDepth 100000 in
theorem kAt_zero (k : Int) (ns : List Nat) : kAt k ns 0 = k := by simp [kAt]
set_option maxRecDepth 100000 in
theorem kAt_next {k : Int} {ns : List Nat} {j : Nat} (h : j < ns.length) : kAt k ns (j + 1) = kAt k ns j + 1 + 1 + (ns.getD j 0 : Nat) := by
  unfold kAt
  rw [List.take_succ_eq_append_getElem h, List.map_append, List.sum_append, List.getD_eq_getElem?_getD, List.getElem?_eq_getElem h]
  simp only [List.map_cons, List.map_nil, List.sum_cons, List.sum_nil, Option.getD_some]
  omega
set_option maxRecDepth 100000 in
theorem sum_take_le : ∀ (l : List Nat) (j : Nat), (l.take j).sum ≤ l.sum
  | [], j => by simp
  | x :: l, 0 => by simp
  | x :: l, j + 1 => by have := sum_take_le l j; simp only [List.take_succ_cons, List.sum_cons]; omega
set_option maxRecDepth 100000 in
theorem kAt_le (k : Int) (ns : List Nat) (j : Nat) : k ≤ kAt k ns j ∧ kAt k ns j ≤ kAt k ns ns.length := by
  unfold kAt
  have h := sum_take_le (ns.map fun n => 2 + n) j
  rw [List.take_length, List.map_take]
  omega
set_option maxRecDepth 100000 in
theorem two_sum : ∀ l : List Nat, 2 * l.length ≤ (l.map fun n => 2 + n).sum
  | [] => by simp
  | x :: l => by have := two_sum l; simp only [List.map_cons, List.sum_cons, List.length_cons]; omega
set_option maxRecDepth 100000 in
theorem kAt_two (k : Int) (ns : List Nat) : k + 2 * (ns.length : Int) ≤ kAt k ns ns.length := by
  unfold kAt
  rw [List.take_length]
  have := two_sum ns
  omega
set_option maxRecDepth 100000 in
theorem slotMk_len (k : Int) (n : Nat) : (slotMk k n).2.2.length = n := marks_length (· % 256) (k + 1 + 1) n
set_option maxRecDepth 100000 in
theorem lensOf_mark (k : Int) (ns : List Nat) : lensOf (slotsMark k ns) = ns := by
  apply List.ext_getElem?
  intro j
  unfold lensOf
  rw [List.getElem?_map]
  by_cases h : j < ns.length
  · rw [slotsMark_at h, Option.map_some, slotMk_len, List.getD_eq_getElem?_getD, List.getElem?_eq_getElem h]; rfl
  · rw [List.getElem?_eq_none (by rw [slotsMark_len]; omega), List.getElem?_eq_none (by omega)]; rfl

set_option maxRecDepth 100000 in
set_option maxHeartbeats 4000000 in
theorem markSlots_any (lo hi : Nat) (v : Value) (l : List SlotD) (k : Int) (w : World) (hk0 : 0 < k) (hk1 : kAt k (lensOf l) l.length ≤ 1000000000) (h : SlotsR.mine lo hi w [v] l) (hh : hi ≤ w.heap.size) :
    Calls Tryz.prog 39 #[v, .int .i64 k] w fun e w' => e = .returned (.int .i64 (kAt k (lensOf l) l.length)) ∧ SlotsR.mine lo hi w' [v] (slotsMark k (lensOf l)) ∧ Turned lo hi w w' := by
  obtain ⟨A, c, rfl, hc, hm⟩ := slots_mem h
  clear h
  rcases hm with rfl | ⟨b, off, ps, rfl, rfl, hm⟩
  · go_enter Tryz.func39, Tryz.ntmps39
    go_wp2
    go_loop [1, 5] (fun kv iv => iv = .int .i64 0 ∧ kv = .int .i64 k) (fun _ _ => 0)
    case atStart => exact ⟨rfl, rfl⟩
    case round =>
      obtain ⟨rfl, rfl⟩ := hrel
      go_wp2
      go_ret
      exact ⟨by simp [kAt], ⟨[], ⟨A, c, rfl, hc, .inl ⟨rfl, rfl⟩⟩, List.nodup_nil, by simp⟩, Turned.refl _ _ _⟩
  rw [List.length_map] at hc hk1 ⊢
  obtain ⟨ns, hns⟩ : ∃ ns, ns = lensOf (ps.map (·.1)) := ⟨_, rfl⟩
  have hnl : ns.length = ps.length := by rw [hns, lensOf_len, List.length_map]
  have HNA : Hid (∀ (j : Nat) (x : SlotV), ps[j]? = some x → x.1.2.2.length = ns.getD j 0) := Lib.hid fun j x hx => by
    rw [hns]
    unfold lensOf
    rw [List.map_map, List.getD_eq_getElem?_getD, List.getElem?_map, hx]; rfl
  rw [← hns] at hk1 ⊢
  obtain ⟨n, hn⟩ : ∃ n, n = ps.length := ⟨_, rfl⟩
  rw [← hn] at hc hk1 hnl ⊢
  have HNL := Lib.hid hnl
  have HKL : Hid (∀ j, k ≤ kAt k ns j ∧ kAt k ns j ≤ kAt k ns n) := Lib.hid fun j => by have := kAt_le k ns j; rwa [hnl] at this
  have HKN : Hid (∀ j, j < n → kAt k ns (j + 1) = kAt k ns j + 1 + 1 + (ns.getD j 0 : Nat)) := Lib.hid fun j hj => kAt_next (by omega)
  have hn9 : (n : Int) ≤ 1000000000 := by have := kAt_two k ns; rw [hnl] at this; omega
  have HM := Lib.hid hm
  have HPN := Lib.hid hn.symm
  obtain ⟨h1, h2⟩ := hm.bnd
  clear hm hn hns hnl
  have HK0 := Lib.hid (kAt_zero k ns)
  go_enter Tryz.func39, Tryz.ntmps39
  go_wp2
  go_loopw [1, 5] (fun kv iv wr => ∃ (i : Nat) (K : Int) (qs : List SlotV), i ≤ n ∧ iv = .int .i64 i ∧ kv = .int .i64 K ∧ Hid (K = kAt k ns i) ∧ qs.length = n ∧ Hid (∀ (j : Nat) (x : SlotV), qs[j]? = some x → x.1.2.2.length = ns.getD j 0 ∧ (j < i → x.1 = slotMk (kAt k ns j) (ns.getD j 0))) ∧ Hid (SlotsM lo hi wr b off qs) ∧ Hid (Turned lo hi w wr) ∧ w.heap.size ≤ wr.heap.size) (fun _ iv _ => n - (intOf iv).toNat)
  case atStart => exact ⟨0, k, ps, Nat.zero_le _, rfl, rfl, Lib.hid HK0.out.symm, HPN.out, Lib.hid fun j x hx => ⟨HNA.out j x hx, fun hj => absurd hj (by omega)⟩, HM, Lib.hid (Turned.refl _ _ _), Nat.le_refl _⟩
  case round =>
    obtain ⟨i, K, qs, hi', rfl, rfl, HK, hql, HQ, HS, HT, hz⟩ := hrel
    by_cases hin : i < n
    · obtain ⟨x, hx⟩ : ∃ x, qs[i]? = some x := ⟨_, List.getElem?_eq_getElem (by omega)⟩
      have hlx := (HQ.out i x hx).1
      have hkb := HKL.out i
      have hkc := HKL.out (i + 1)
      have hkn := HKN.out i hin
      rw [← HK.out, ← hlx] at hkn
      rw [hkn] at hkc
      rw [← HK.out] at hkb
      have k0 : 0 < K := by omega
      have k1 : K + 1 + 1 + (x.1.2.2.length : Int) ≤ 1000000000 := by omega
      have HKN' := Lib.hid hkn
      have HLX := Lib.hid hlx
      clear hkb hkc hkn hlx
      have hat := HS.out.cells i x hx
      have d0 := hat 0 _ rfl
      have d1 := hat 1 _ rfl
      have d2 := hat 2 _ rfl
      have f0 := HS.out.free i 0 (by omega) (by decide)
      have f1 := HS.out.free i 1 (by omega) (by decide)
      have HX := Lib.hid hx
      clear hat hx
      rw [Nat.add_zero] at d0 f0
      have g1 : (i : Int) < (n : Int) := by omega
      have g2 : 0 ≤ (i : Int) := by omega
      go_wp2_with fail
      refine (markText_any K _ (by omega) (by omega)).mono ?_
      rintro e w2 ⟨rfl, hb2⟩
      have z2 := hb2.size
      have hs2 := HS.out.below hb2 (by omega)
      have HT2 := Lib.hid (HT.out.trans (Turned.of_below hb2))
      have hat := hs2.cells i x HX.out
      have d0 := hat 0 _ rfl
      have d1 := hat 1 _ rfl
      have d2 := hat 2 _ rfl
      have f0 := hs2.free i 0 (by omega) (by decide)
      rw [Nat.add_zero] at d0 f0
      have HS3 : Hid (SlotsM lo hi (w2.setCell ⟨b, off + i * 3, none⟩ (.string ⟨(markOf K).toArray⟩)) b off (qs.set i ((⟨(markOf K).toArray⟩, x.1.2), x.2))) := Lib.hid (hs2.setCell (t := 0) (y := ((⟨(markOf K).toArray⟩, x.1.2), x.2)) HX.out rfl rfl (by decide) rfl)
      have HT3 := Lib.hid (HT2.out.set (b := b) (off + i * 3) (.string ⟨(markOf K).toArray⟩) h1 h2)
      have HX3 : Hid ((qs.set i ((⟨(markOf K).toArray⟩, x.1.2), x.2))[i]? = some ((⟨(markOf K).toArray⟩, x.1.2), x.2)) := Lib.hid (List.getElem?_set_self (by omega))
      clear hat hs2 hb2
      go_wp2_with fail
      refine (markText_any (K + 1) _ (by omega) (by omega)).mono ?_
      rintro e w4 ⟨rfl, hb4⟩
      have z4 : w2.heap.size ≤ w4.heap.size := by have := hb4.size; simpa [World.setCell] using this
      have hs4 := HS3.out.below hb4 (by simp [World.setCell]; omega)
      have HT4 := Lib.hid (HT3.out.trans (Turned.of_below hb4))
      have hat := hs4.cells i _ HX3.out
      have d1 := hat 1 _ rfl
      have d2 := hat 2 _ rfl
      have f1 := hs4.free i 1 (by rw [List.length_set]; omega) (by decide)
      have hs5 := hs4.setCell (t := 1) (y := ((⟨(markOf K).toArray⟩, ⟨(markOf (K + 1)).toArray⟩, x.1.2.2), x.2)) HX3.out rfl rfl (by decide) rfl
      rw [List.set_set] at hs5
      have HS5 := Lib.hid hs5
      have HT5 := Lib.hid (HT4.out.set (b := b) (off + i * 3 + 1) (.string ⟨(markOf (K + 1)).toArray⟩) h1 h2)
      have HX5 : Hid ((qs.set i ((⟨(markOf K).toArray⟩, ⟨(markOf (K + 1)).toArray⟩, x.1.2.2), x.2))[i]? = some ((⟨(markOf K).toArray⟩, ⟨(markOf (K + 1)).toArray⟩, x.1.2.2), x.2)) := Lib.hid (List.getElem?_set_self (by omega))
      have HB4 := Lib.hid hb4
      clear hat hs4 hs5 hb4
      go_wp2_with fail
      have ho5 := HS5.out.own i _ HX5.out
      refine (markBytes_any lo hi (sv (((⟨(markOf K).toArray⟩, ⟨(markOf (K + 1)).toArray⟩, x.1.2.2), x.2) : SlotV)) x.1.2.2 (K + 1 + 1) _ (by omega) (by omega) (by omega) ho5).mono ?_
      rintro e w6 ⟨rfl, hn6, hg6⟩
      have z6 : w4.heap.size ≤ w6.heap.size := by have := hg6.size; simpa [World.setCell] using this
      have hs6 := HS5.out.reply HX5.out (marks_length _ _ _) hg6 (by simp [World.setCell]; omega) hn6
      rw [List.set_set] at hs6
      have HT6 := Lib.hid (HT5.out.trans (Turned.of_grown hg6 fun g hg => (ho5).blk g hg))
      have HS6 := Lib.hid hs6
      clear hs6 hn6 hg6 ho5
      go_wp2
      go_roundw
      case rel =>
        refine ⟨i + 1, K + 1 + 1 + (x.1.2.2.length : Int), _, by omega, by go_num, by go_num, Lib.hid HKN'.out.symm, by rw [List.length_set]; exact hql, Lib.hid fun j y hy => ?_, HS6, HT6, by omega⟩
        by_cases e : i = j
        · subst e
          rw [List.getElem?_set_self (by omega)] at hy
          cases hy
          refine ⟨by rw [← HLX.out]; exact marks_length (· % 256) (K + 1 + 1) _, fun _ => ?_⟩
          rw [← HLX.out, ← HK.out]
          rfl
        · rw [List.getElem?_set_ne e] at hy
          obtain ⟨q1, q2⟩ := HQ.out j y hy
          exact ⟨q1, fun h => q2 (by omega)⟩
      case measure => simp [intOf] <;> omega
    · obtain rfl : i = n := by omega
      have HKE := Lib.hid HK.out
      have HSL : Hid (qs.map (·.1) = slotsMark k ns) := Lib.hid (by
        apply List.ext_getElem?
        intro j
        by_cases hj : j < i
        · rw [slotsMark_at (by rw [HNL.out]; exact hj), List.getElem?_map, List.getElem?_eq_getElem (by omega : j < qs.length), Option.map_some, (HQ.out j _ (List.getElem?_eq_getElem (by omega))).2 hj]
        · rw [List.getElem?_eq_none (by rw [List.length_map]; omega), List.getElem?_eq_none (by rw [slotsMark_len, HNL.out]; omega)])
      go_wp2
      go_ret
      refine ⟨by rw [← HKE.out]; rfl, ?_, HT.out⟩
      have := HS.out.mine (c := c) (by omega)
      rw [HSL.out, hql] at this
      exact this
set_option maxRecDepth 100000 in
set_option maxHeartbeats 4000000 in
theorem heldSlots_any (hi : Nat) (v : Value) (ns : List Nat) (k : Int) (w : World) (hk0 : 0 < k) (hk1 : kAt k ns ns.length ≤ 1000000000) (h : SlotsR.rd hi w [v] (slotsMark k ns)) (hh : hi ≤ w.heap.size) :
    Calls Tryz.prog 42 #[v, .int .i64 k] w fun e w' => e = .returned (.int .i64 (kAt k ns ns.length)) ∧ Below w.heap.size w w' := by
  obtain ⟨A, c, hv, hc, h'⟩ := slots_rd h
  rw [slotsMark_len] at hv hc
  have HR := Lib.hid h'
  clear h h'
  subst hv
  obtain ⟨n, hn⟩ : ∃ n, n = ns.length := ⟨_, rfl⟩
  rw [← hn] at hc hk1 ⊢
  have HKL : Hid (∀ j, k ≤ kAt k ns j ∧ kAt k ns j ≤ kAt k ns n) := Lib.hid fun j => by have := kAt_le k ns j; rwa [← hn] at this
  have HKN : Hid (∀ j, j < n → kAt k ns (j + 1) = kAt k ns j + 1 + 1 + (ns.getD j 0 : Nat)) := Lib.hid fun j hj => kAt_next (by omega)
  have HK0 := Lib.hid (kAt_zero k ns)
  have hn9 : (n : Int) ≤ 1000000000 := by have := kAt_two k ns; rw [← hn] at this; omega
  have HNE := Lib.hid hn
  clear hn
  go_enter Tryz.func42, Tryz.ntmps42
  go_wp2
  go_loopw [1, 5] (fun kv iv wr => ∃ (i : Nat) (K : Int), i ≤ n ∧ iv = .int .i64 i ∧ kv = .int .i64 K ∧ Hid (K = kAt k ns i) ∧ Hid (Below w.heap.size w wr) ∧ w.heap.size ≤ wr.heap.size) (fun _ iv _ => n - (intOf iv).toNat)
  case atStart => exact ⟨0, k, Nat.zero_le _, rfl, rfl, Lib.hid HK0.out.symm, Lib.hid (Below.refl _ _), Nat.le_refl _⟩
  case round =>
    obtain ⟨i, K, hi', rfl, rfl, HK, HB, hz⟩ := hrel
    by_cases hin : i < n
    · obtain ⟨b, off, A', c', rfl, hb, c0, c1, c2, hrd⟩ := HR.out i _ (slotsMark_at (by rw [← HNE.out]; exact hin))
      have hkb := HKL.out i
      have hkc := HKL.out (i + 1)
      have hkn := HKN.out i hin
      rw [← HK.out] at hkn c0 c1 c2 hrd hkb
      obtain ⟨m, hm⟩ : ∃ m, m = ns.getD i 0 := ⟨_, rfl⟩
      rw [← hm] at hkn c0 c1 c2 hrd
      rw [hkn] at hkc
      have k0 : 0 < K := by omega
      have k1 : K + 1 + 1 + (m : Int) ≤ 1000000000 := by omega
      have HKN' := Lib.hid hkn
      simp only [slotMk, marks_length] at c0 c1 c2 hrd
      clear hkb hkc hkn hm
      have c0 := (HB.out.cell (p := ⟨b, _, none⟩) (show b < w.heap.size by omega)).trans c0
      have c1 := (HB.out.cell (p := ⟨b, _, none⟩) (show b < w.heap.size by omega)).trans c1
      have c2 := (HB.out.cell (p := ⟨b, _, none⟩) (show b < w.heap.size by omega)).trans c2
      have HRD := Lib.hid (hrd.below HB.out hh)
      clear hrd
      have g1 : (i : Int) < (n : Int) := by omega
      have g2 : 0 ≤ (i : Int) := by omega
      have hml0 := markOf_size K (by omega)
      have hml1 := markOf_size (K + 1) (by omega)
      have HX0 : Hid (∀ w', Calls Tryz.prog 75 #[.int .i64 K] w' fun e w'' => e = .returned (.string ⟨(markOf K).toArray⟩) ∧ Below w'.heap.size w' w'') := Lib.hid fun w' => markText_any _ w' (by omega) (by omega)
      have HX1 : Hid (∀ w', Calls Tryz.prog 75 #[.int .i64 (K + 1)] w' fun e w'' => e = .returned (.string ⟨(markOf (K + 1)).toArray⟩) ∧ Below w'.heap.size w' w'') := Lib.hid fun w' => markText_any _ w' (by omega) (by omega)
      generalize markOf K = mk0 at c0 hml0 HX0
      generalize markOf (K + 1) = mk1 at c1 hml1 HX1
      go_wp2
      go_region_held3 (fun w' => w'.cell? ⟨b, off + i * 3, none⟩ = some (.string ⟨mk0.toArray⟩)) (go_keep) (first | (go_at_call 75; refine (HX0.out _).mono ?_; rintro e w2 ⟨rfl, hb2⟩; have q := (hb2.cell (p := ⟨b, off + i * 3, none⟩) (show b < wr.heap.size by omega)).trans c0))
      have c1 := (hb2.cell (p := ⟨b, off + i * 3 + 1, none⟩) (show b < wr.heap.size by omega)).trans c1
      have c2 := (hb2.cell (p := ⟨b, off + i * 3 + 2, none⟩) (show b < wr.heap.size by omega)).trans c2
      have hz2 : wr.heap.size ≤ w2.heap.size := hb2.size
      have hb2' := (Below.refl wr.heap.size wr).drew.trans hb2
      have HRD2 := Lib.hid (HRD.out.below hb2' (by omega))
      have HB2 : Hid (Below w.heap.size w w2) := Lib.hid (HB.out.trans (hb2'.mono hz))
      clear hb2 hb2' q c0
      go_wp2
      go_region_held3 (fun w' => w'.cell? ⟨b, off + i * 3 + 1, none⟩ = some (.string ⟨mk1.toArray⟩)) (go_keep) (first | (go_at_call 75; refine (HX1.out _).mono ?_; rintro e w4 ⟨rfl, hb4⟩; have q := (hb4.cell (p := ⟨b, off + i * 3 + 1, none⟩) (show b < w2.heap.size by omega)).trans c1))
      have c2 := (hb4.cell (p := ⟨b, off + i * 3 + 2, none⟩) (show b < w2.heap.size by omega)).trans c2
      have hz4 : w2.heap.size ≤ w4.heap.size := hb4.size
      have hb4' := (Below.refl w2.heap.size w2).drew.trans hb4
      have HRD4 := Lib.hid (HRD2.out.below hb4' (by omega))
      have HB4 : Hid (Below w.heap.size w w4) := Lib.hid (HB2.out.trans (hb4'.mono (by omega)))
      clear hb4 hb4' q c1
      go_wp2_with fail
      refine (heldBytes_any hi _ m (K + 1 + 1) w4 (by omega) (by omega) (by omega) HRD4.out).mono ?_
      rintro e w6 ⟨rfl, hb6⟩
      have hz6 := hb6.size
      have HB6 : Hid (Below w.heap.size w w6) := Lib.hid (HB4.out.trans (hb6.mono (by omega)))
      have kn : ¬ (K + 1 + 1 + (m : Int) < 0) := by omega
      clear hb6 c2
      go_wp2
      go_roundw
      case rel => exact ⟨i + 1, K + 1 + 1 + (m : Int), by omega, by go_num, by go_num, Lib.hid HKN'.out.symm, HB6, by omega⟩
      case measure => simp [intOf] <;> omega
    · obtain rfl : i = n := by omega
      go_wp2
      go_ret
      exact ⟨by rw [HK.out]; rfl, HB.out⟩
end Go.Proofs.YtpeeagkfhdeagaaGreatDoor
