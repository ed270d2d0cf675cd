/- HoldPut of the program; no conditions. -/
import Derived.Test.YtnjpcbmonipaoaaHoldIA
import Derived.Test.YtnjpcbmonipaoaaHoldIK
import Derived.Test.YtnjpcbmonipaoaaHoldID
import Derived.Test.YtnjpcbmonipaoaaHoldU
import Derived.Test.YtnjpcbmonipaoaaAppFull
import Derived.Deep.RegionLaw
set_option linter.unusedVariables false
namespace Go.Proofs.Ytnjpcbmonipaoaa
open Go.ChangeShapes Go.WideShapes Go.ChangeAt Go.RowKit

set_option maxRecDepth 100000 in
theorem drop_at {l : List HoldD} {p j : Nat} {y : HoldD} (h : (l.drop p)[j]? = some y) : l[p + j]? = some y := by rwa [List.getElem?_drop] at h
set_option maxRecDepth 100000 in
theorem take_at {l : List HoldD} {p j : Nat} {y : HoldD} (h : (l.take p)[j]? = some y) : l[j]? = some y := by
  rw [List.getElem?_take] at h
  split at h
  · exact h
  · cases h
set_option maxRecDepth 100000 in
set_option maxHeartbeats 6400000 in
theorem implHoldPut_any (hi : Nat) (v : Value) (l : List HoldD) (h : HoldD) (w : World) (hn : l.length ≤ 1048576) (hs : ∀ x ∈ l, x.1.size ≤ maxLen) (hhs : h.1.size ≤ maxLen) (hr : HoldsR.rd hi w [v] l) (hh : hi ≤ w.heap.size) :
    Calls Try.prog 27 #[v, .agg #[.string h.1, .int .i64 h.2.1, .int .i64 h.2.2]] w (holdsRes (putH l h).1 (putH l h).2 w) := by
  have HOK := Lib.hid (fun W (hW : Below w.heap.size w W) => implHoldsOk_any hi v l W hn hs (Rep.below (R := HoldsR) hr hW hh) (Nat.le_trans hh hW.size))
  have HSR := Lib.hid (fun W (hW : Below w.heap.size w W) => implSearch_any hi v l h.1 W hn (Rep.below (R := HoldsR) hr hW hh) (Nat.le_trans hh hW.size))
  obtain ⟨A, c, rfl, hc, -⟩ := holds_rd hr
  have hS := holds_at hr
  have HS := Lib.hid (fun V (hV : Below w.heap.size w V) (j : Nat) (y : HoldD) (hy : l[j]? = some y) => show ∃ b off, A = some ⟨b, off, none⟩ ∧ b < w.heap.size ∧ atL V b (off + j * 3) (hCells y) from by
    obtain ⟨b, off, e, hb, ha⟩ := hS j y hy
    exact ⟨b, off, e, by omega, fun t u hu => (hV.cell (p := ⟨b, _, none⟩) (show b < w.heap.size by omega)).trans (ha t u hu)⟩)
  have HSZ := Lib.hid hs
  have HHS := Lib.hid hhs
  have HNO : Hid (holdsOk l = false → putH l h = ([], false)) := Lib.hid putH_no
  have HYES := Lib.hid (fun h1 => @putH_yes l h h1)
  have HNOT := Lib.hid (@putH_not l h)
  have HIS := Lib.hid (fun hk => @insL_search l h hk)
  have HL4 : Hid (holdsOk l = true → l.length ≤ 4) := Lib.hid (fun h1 => by unfold holdsOk at h1; simp only [Bool.and_eq_true, decide_eq_true_eq] at h1; exact h1.2)
  have hple := searchH_le l h.1
  have hplt := searchH_lt l h.1
  clear hr hs hS
  generalize holdsOk l = ok at HOK HNO HYES HL4 HIS
  generalize searchH l h.1 = q at HSR HIS hple hplt
  obtain ⟨p, fd⟩ := q
  unfold searchV at HSR
  simp only at hple hplt HSR HIS
  have HLT := Lib.hid hplt
  clear hplt
  go_enter Try.func27, Try.ntmps27
  go_upto_region 1 with fail
  obtain ⟨W, hW⟩ : ∃ W, W = w.alloc (.cells #[.string h.1, .int .i64 h.2.1, .int .i64 h.2.2] 27) := ⟨_, rfl⟩
  have b0 : bk W w.heap.size 27 [.string h.1, .int .i64 h.2.1, .int .i64 h.2.2] := by rw [hW]; exact bk.new w _ _
  have HB0 : Hid (Below w.heap.size w W) := Lib.hid (by rw [hW]; exact (Below.refl _ _).alloc (Nat.le_refl _) _)
  rw [← hW]
  clear hW
  have z0 := b0.lt
  go_wp2_with fail
  refine (HOK.out W HB0.out).mono ?_
  rintro e w1 ⟨rfl, hb1⟩
  have HB1 : Hid (Below w.heap.size w w1) := Lib.hid (HB0.out.trans (hb1.mono (by omega)))
  have z1 := hb1.size
  replace b0 := b0.below hb1 z0
  clear hb1 HB0
  cases ok
  · have HPN := Lib.hid (HNO.out rfl)
    go_wp2
    refine bodyPost_ret (v := .tuple #[.slice none 0 0, .bool false]) (by simp [results, Try.results27, go_sem]) rfl ?_
    rw [HPN.out]
    exact ⟨_, rfl, holds_none _ _ _, HB1.out⟩
  have hl4 := HL4.out rfl
  have HIL := Lib.hid (HIS.out rfl)
  have HY := Lib.hid (HYES.out rfl)
  clear HL4 HIS HYES HNO HOK
  obtain ⟨p0, p1, p2⟩ := b0.cells3
  go_wp2_with fail
  refine (HSR.out w1 HB1.out).mono ?_
  rintro e w2 ⟨rfl, hb2⟩
  have HB2 : Hid (Below w.heap.size w w2) := Lib.hid (HB1.out.trans (hb2.mono (by omega)))
  have z2 := hb2.size
  replace b0 := b0.below hb2 (by omega)
  clear hb2 HB1 p0 p1 p2
  obtain ⟨p0, p1, p2⟩ := b0.cells3
  clear b0
  have hpc : p ≤ c := by omega
  have g1 : (p : Int) ≤ (l.length : Int) := by omega
  have g2 : 0 ≤ (p : Int) := by omega
  obtain ⟨l1, hl1⟩ : ∃ l1, l1 = l.take p := ⟨_, rfl⟩
  have hp1 : p = l1.length := by rw [hl1, List.length_take]; omega
  have hl14 : l1.length ≤ 4 := by omega
  have HP1 := Lib.hid hp1
  have HS1 := Lib.hid (fun V (hV : Below w.heap.size w V) (j : Nat) (y : HoldD) (hy : l1[j]? = some y) => show ∃ b off, A = some ⟨b, off, none⟩ ∧ b < V.heap.size ∧ atL V b (off + j * 3) (hCells y) from by
    rw [hl1] at hy
    obtain ⟨b, off, e, hb, ha⟩ := HS.out V hV j y (take_at hy)
    exact ⟨b, off, e, Nat.lt_of_lt_of_le hb hV.size, ha⟩)
  have hl1n : l1.length + 1 ≤ maxLen := by unfold maxLen; omega
  have hl1b : (l1.length + 1) * 32 ≤ 140737488355328 := by omega
  clear hp1
  go_upto_region 5 with fail
  obtain ⟨A2, hA2⟩ : ∃ A2, A2 = (if c = p then A else Option.map (fun x => x.add (p * 3)) A) := ⟨_, rfl⟩
  obtain ⟨c2, hc2⟩ : ∃ c2, c2 = c - p := ⟨_, rfl⟩
  rw [← hA2, ← hc2]
  cases fd
  · obtain ⟨m, hm⟩ : ∃ m, m = l.drop p := ⟨_, rfl⟩
    have hmn : l.length - p = m.length := by rw [hm, List.length_drop]
    have hm4 : m.length ≤ 4 := by omega
    have HIN : Hid (insL l h = l1 ++ h :: m) := Lib.hid (by rw [HIL.out, hl1, hm]; rfl)
    have HS2 := Lib.hid (fun V (hV : Below w.heap.size w V) (j : Nat) (y : HoldD) (hy : m[j]? = some y) => show ∃ b off, A2 = some ⟨b, off, none⟩ ∧ atL V b (off + j * 3) (hCells y) from by
      have hj := (List.getElem?_eq_some_iff.1 hy).1
      rw [hm] at hy
      obtain ⟨b, off, e, hb, ha⟩ := HS.out V hV (p + j) y (drop_at hy)
      exact ⟨b, off + p * 3, by rw [hA2]; exact slice_low (n := l.length) (by omega) hc e, by rw [show off + p * 3 + j * 3 = off + (p + j) * 3 by omega]; exact ha⟩)
    have HSM : Hid (∀ x ∈ l1 ++ h :: m, x.1.size ≤ maxLen) := Lib.hid (fun x hx => by
      rw [hl1, hm] at hx
      rcases List.mem_append.1 hx with hx | hx
      · exact HSZ.out x (List.mem_of_mem_take hx)
      · rcases List.mem_cons.1 hx with rfl | hx
        · exact HHS.out
        · exact HSZ.out x (List.mem_of_mem_drop hx))
    rw [hmn]
    clear hA2 hm hmn hl1 HS HSR HIL HLT HSZ HHS hc2
    go_upto_region 7 with fail
    go_region_law (refine app_full_step hCells 3 (fun _ => rfl) (by decide) hCells_one 33 27 #[.string ⟨#[]⟩, .int .i64 0, .int .i64 0] 32 Try.underlying33 infoHold rfl _ _ (by rfl) (by rfl) w2.drew A l1 h _ p _ (by rfl) HP1.out (by rfl) (by rfl) rfl (HS1.out w2.drew HB2.out.drew) hl1n hl1b ?_; intro A6 c6 w6 hown6 hc6 hg6; have z6 := hg6.size; have hb6 : Below w2.heap.size w2 w6 := ((Below.refl w2.heap.size w2).drew.alloc (Nat.le_refl _) (.cells #[.string h.1, .int .i64 h.2.1, .int .i64 h.2.2] 27)).grown hg6 (by simp) (by simp); have HO6 := Lib.hid hown6; have HB6 : Hid (Below w.heap.size w w6) := Lib.hid (HB2.out.trans (hb6.mono (by omega))); clear hown6 hg6 hb6)
    all_goals
      obtain ⟨L, hL⟩ : ∃ L, L = l1 ++ h :: m := ⟨_, rfl⟩
      have hLn : (l1 ++ [h]).length + m.length = L.length := by rw [hL]; simp; omega
      have hLm : l1.length + 1 + m.length = L.length := by rw [hL]; simp; omega
      have hLe : (l1 ++ [h]) ++ m = L := by rw [hL]; simp
      have hL5 : L.length ≤ 16 := by rw [hL]; simp; omega
      have hz6 : w2.heap.size + 1 ≤ w6.heap.size := by simpa using z6
      rw [← hL] at HIN HSM
      have HSS := Lib.hid (HS2.out w6 HB6.out)
      have hs1 : (l1 ++ [h]).length + m.length ≤ maxLen := by rw [hLn]; unfold maxLen; omega
      have hs2 : ((l1 ++ [h]).length + m.length) * 32 ≤ 140737488355328 := by rw [hLn]; omega
      clear HS1 HS2 hl1n hl1b hL z6 p0 p1 p2 HB2
      go_upto_region 8 with fail
      simp only [Act.put, List.getElem_toArray, List.getElem_cons_zero, List.getElem_cons_succ, List.setIfInBounds_toArray, List.set_cons_zero, List.set_cons_succ]
      go_wp2_with (at_builtin; go_loud (refine app_rows hCells 3 (fun _ => rfl) (by decide) hCells_one 33 27 #[.string ⟨#[]⟩, .int .i64 0, .int .i64 0] 32 Try.underlying33 infoHold rfl _ _ rfl rfl (w2.heap.size + 1) w6 _ (l1 ++ [h]) m _ _ (by rfl) (by rfl) HO6.out HSS.out hs1 hs2 hz6 ?_))
      intro A7 c7 w7 ho7 hg7 hb7
      have hz7 := hg7.size
      have HB7 : Hid (Below w.heap.size w w7) := Lib.hid (HB6.out.trans (hb7.mono (by omega)))
      have HO7 : Hid (owE 27 3 hCells (w2.heap.size + 1) w7 (.slice A7 L.length c7) L) := Lib.hid ho7
      have HM7 := Lib.hid (owE_holds HO7.out)
      have HOK7 := Lib.hid (implHoldsOk_any w7.heap.size _ L w7 (by omega) HSM.out HM7.out.rd (Nat.le_refl _))
      have HYF := Lib.hid (fun hk : holdsOk L = true => HY.out (by rw [HIN.out]; exact hk))
      have HNF := Lib.hid (fun hk : holdsOk L = false => HNOT.out (by rw [HIN.out]; exact hk))
      rw [HIN.out] at HYF
      clear ho7 hg7 hb7 HY HNOT HIN HSM HO6 HB6 HSS hLe hLn hLm hs1 hs2
      generalize holdsOk L = ok2 at HOK7 HYF HNF
      go_wp2_with fail
      refine HOK7.out.mono ?_
      rintro e w8 ⟨rfl, hb8⟩
      have HB8 : Hid (Below w.heap.size w w8) := Lib.hid (HB7.out.trans (hb8.mono (by omega)))
      have HM8 := Lib.hid (HM7.out.below hb8 (Nat.le_refl _))
      have hz8 := hb8.size
      clear hb8 HOK7 HB7 HM7
      cases ok2
      · go_wp2
        refine bodyPost_ret (v := .tuple #[.slice none 0 0, .bool false]) (by simp [results, Try.results27, go_sem]) rfl ?_
        rw [HNF.out (by trivial)]
        exact ⟨_, rfl, holds_none _ _ _, HB8.out⟩
      · go_wp2
        refine bodyPost_ret (v := .tuple #[.slice A7 L.length c7, .bool true]) (by simp [results, Try.results27, go_sem]) rfl ?_
        rw [HYF.out (by trivial)]
        exact ⟨_, rfl, HM8.out.mono (by omega) (by omega), HB8.out⟩
  · have hlt := HLT.out rfl
    obtain ⟨r, hr⟩ : ∃ r, l.length - p = r := ⟨_, rfl⟩
    have hr1 : 1 ≤ r := by omega
    have hrc : r ≤ c2 := by omega
    rw [hr]
    have HA2 := Lib.hid hA2
    have HC2 := Lib.hid hc2
    have HR := Lib.hid hr
    clear hA2 hc2 hr
    go_upto_region 7 with fail
    obtain ⟨A4, hA4⟩ : ∃ A4, A4 = (if c2 = 1 then A2 else Option.map (fun x => (⟨x.block, x.off + 3, none⟩ : Addr)) A2) := ⟨_, rfl⟩
    rw [← hA4]
    obtain ⟨m, hm⟩ : ∃ m, m = l.drop (p + 1) := ⟨_, rfl⟩
    have hmn : r - 1 = m.length := by rw [hm, List.length_drop]; have := HR.out; omega
    have hm4 : m.length ≤ 4 := by have := HR.out; omega
    have HIN : Hid (insL l h = l1 ++ h :: m) := Lib.hid (by rw [HIL.out, hl1, hm]; rfl)
    have HS2 := Lib.hid (fun V (hV : Below w.heap.size w V) (j : Nat) (y : HoldD) (hy : m[j]? = some y) => show ∃ b off, A4 = some ⟨b, off, none⟩ ∧ atL V b (off + j * 3) (hCells y) from by
      have hj := (List.getElem?_eq_some_iff.1 hy).1
      rw [hm] at hy
      obtain ⟨b, off, e, hb, ha⟩ := HS.out V hV (p + 1 + j) y (drop_at hy)
      exact ⟨b, off + p * 3 + 1 * 3, by rw [hA4, HA2.out, slice_low (n := l.length) (by omega) hc e, if_neg (by have := HR.out; have := HC2.out; omega)]; rfl, by rw [show off + p * 3 + 1 * 3 + j * 3 = off + (p + 1 + j) * 3 by omega]; exact ha⟩)
    have HSM : Hid (∀ x ∈ l1 ++ h :: m, x.1.size ≤ maxLen) := Lib.hid (fun x hx => by
      rw [hl1, hm] at hx
      rcases List.mem_append.1 hx with hx | hx
      · exact HSZ.out x (List.mem_of_mem_take hx)
      · rcases List.mem_cons.1 hx with rfl | hx
        · exact HHS.out
        · exact HSZ.out x (List.mem_of_mem_drop hx))
    rw [hmn]
    clear hA4 HA2 hm hmn hl1 HS HSR HIL HLT HSZ HHS HR HC2
    go_upto_region 7 with fail
    go_region_law (refine app_full_step hCells 3 (fun _ => rfl) (by decide) hCells_one 33 27 #[.string ⟨#[]⟩, .int .i64 0, .int .i64 0] 32 Try.underlying33 infoHold rfl _ _ (by rfl) (by rfl) w2.drew A l1 h _ p _ (by rfl) HP1.out (by rfl) (by rfl) rfl (HS1.out w2.drew HB2.out.drew) hl1n hl1b ?_; intro A6 c6 w6 hown6 hc6 hg6; have z6 := hg6.size; have hb6 : Below w2.heap.size w2 w6 := ((Below.refl w2.heap.size w2).drew.alloc (Nat.le_refl _) (.cells #[.string h.1, .int .i64 h.2.1, .int .i64 h.2.2] 27)).grown hg6 (by simp) (by simp); have HO6 := Lib.hid hown6; have HB6 : Hid (Below w.heap.size w w6) := Lib.hid (HB2.out.trans (hb6.mono (by omega))); clear hown6 hg6 hb6)
    all_goals
      obtain ⟨L, hL⟩ : ∃ L, L = l1 ++ h :: m := ⟨_, rfl⟩
      have hLn : (l1 ++ [h]).length + m.length = L.length := by rw [hL]; simp; omega
      have hLm : l1.length + 1 + m.length = L.length := by rw [hL]; simp; omega
      have hLe : (l1 ++ [h]) ++ m = L := by rw [hL]; simp
      have hL5 : L.length ≤ 16 := by rw [hL]; simp; omega
      have hz6 : w2.heap.size + 1 ≤ w6.heap.size := by simpa using z6
      rw [← hL] at HIN HSM
      have HSS := Lib.hid (HS2.out w6 HB6.out)
      have hs1 : (l1 ++ [h]).length + m.length ≤ maxLen := by rw [hLn]; unfold maxLen; omega
      have hs2 : ((l1 ++ [h]).length + m.length) * 32 ≤ 140737488355328 := by rw [hLn]; omega
      clear HS1 HS2 hl1n hl1b hL z6 p0 p1 p2 HB2
      go_upto_region 8 with fail
      simp only [Act.put, List.getElem_toArray, List.getElem_cons_zero, List.getElem_cons_succ, List.setIfInBounds_toArray, List.set_cons_zero, List.set_cons_succ]
      go_wp2_with (at_builtin; go_loud (refine app_rows hCells 3 (fun _ => rfl) (by decide) hCells_one 33 27 #[.string ⟨#[]⟩, .int .i64 0, .int .i64 0] 32 Try.underlying33 infoHold rfl _ _ rfl rfl (w2.heap.size + 1) w6 _ (l1 ++ [h]) m _ _ (by rfl) (by rfl) HO6.out HSS.out hs1 hs2 hz6 ?_))
      intro A7 c7 w7 ho7 hg7 hb7
      have hz7 := hg7.size
      have HB7 : Hid (Below w.heap.size w w7) := Lib.hid (HB6.out.trans (hb7.mono (by omega)))
      have HO7 : Hid (owE 27 3 hCells (w2.heap.size + 1) w7 (.slice A7 L.length c7) L) := Lib.hid ho7
      have HM7 := Lib.hid (owE_holds HO7.out)
      have HOK7 := Lib.hid (implHoldsOk_any w7.heap.size _ L w7 (by omega) HSM.out HM7.out.rd (Nat.le_refl _))
      have HYF := Lib.hid (fun hk : holdsOk L = true => HY.out (by rw [HIN.out]; exact hk))
      have HNF := Lib.hid (fun hk : holdsOk L = false => HNOT.out (by rw [HIN.out]; exact hk))
      rw [HIN.out] at HYF
      clear ho7 hg7 hb7 HY HNOT HIN HSM HO6 HB6 HSS hLe hLn hLm hs1 hs2
      generalize holdsOk L = ok2 at HOK7 HYF HNF
      go_wp2_with fail
      refine HOK7.out.mono ?_
      rintro e w8 ⟨rfl, hb8⟩
      have HB8 : Hid (Below w.heap.size w w8) := Lib.hid (HB7.out.trans (hb8.mono (by omega)))
      have HM8 := Lib.hid (HM7.out.below hb8 (Nat.le_refl _))
      have hz8 := hb8.size
      clear hb8 HOK7 HB7 HM7
      cases ok2
      · go_wp2
        refine bodyPost_ret (v := .tuple #[.slice none 0 0, .bool false]) (by simp [results, Try.results27, go_sem]) rfl ?_
        rw [HNF.out (by trivial)]
        exact ⟨_, rfl, holds_none _ _ _, HB8.out⟩
      · go_wp2
        refine bodyPost_ret (v := .tuple #[.slice A7 L.length c7, .bool true]) (by simp [results, Try.results27, go_sem]) rfl ?_
        rw [HYF.out (by trivial)]
        exact ⟨_, rfl, HM8.out.mono (by omega) (by omega), HB8.out⟩
end Go.Proofs.Ytnjpcbmonipaoaa
