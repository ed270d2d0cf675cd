/- slotsCopy and SlotPut of the program; no conditions. -/
import Derived.Test.YtkbakcnhhlmpkaaSlotIC
import Derived.Test.YtkbakcnhhlmpkaaSlotM
import Derived.Test.YtkbakcnhhlmpkaaSlotP
set_option linter.unusedVariables false
namespace Go.Proofs.Ytkbakcnhhlmpkaa
open Go.ChangeShapes Go.WideShapes Go.ChangeAt Go.RowKit

/-- all n elements stand; the first i have replies of their own behind the row, the others are read -/
structure copying (w : World) (hi g n i : Nat) (ps : List SlotV) (E : Nat → List Value) (m : Nat → Nat) : Prop where
  all : filled w g 0 3 n n E
  steps : Steps m i
  low : g < m 0
  top : m i ≤ w.heap.size
  done : ∀ j x, j < i → ps[j]? = some x → SlotR.mine (m j) (m (j + 1)) w (E j) x.1
  rest : ∀ j x, i ≤ j → ps[j]? = some x → E j = sCells x ∧ rd .u8 hi w (sv x) x.1.2.2
set_option maxRecDepth 100000 in
theorem filled.setCell {w : World} {b off k n i t : Nat} {E : Nat → List Value} {u : Value} (h : filled w b off k n n E) (hE : ∀ j, (E j).length = k) (hi : i < n) (ht : t < k) : filled (w.setCell ⟨b, off + i * k + t, none⟩ u) b off k n n (fun j => if j = i then (E i).set t u else E j) := by
  refine ⟨h.room.set _ _, fun j hj => ?_⟩
  by_cases e : j = i
  · subst e
    rw [if_pos rfl]
    exact setL_cell (h.at_ j hj) (by rw [hE j]; exact ht) u
  · rw [if_neg e]
    refine (h.at_ j hj).set_far ?_ u
    rw [hE j]
    rcases Nat.lt_or_gt_of_ne e with h1 | h1
    · have := mul_step (k := k) h1; omega
    · have := mul_step (k := k) h1; omega
set_option maxRecDepth 100000 in
theorem copying.next {w w2 : World} {hi g n i : Nat} {ps : List SlotV} {E : Nat → List Value} {m : Nat → Nat} {x : SlotV} {u : Value} (h : copying w hi g n i ps E m) (hb : Below w.heap.size w w2) (hx : ps[i]? = some x) (hin : i < n) (hh : hi ≤ g) (hg : g < w.heap.size) (hE : ∀ j, (E j).length = 3)
    (hu : nums .u8 w.heap.size w2.heap.size w2 u x.1.2.2) :
    copying (w2.setCell ⟨g, 0 + i * 3 + 2, none⟩ u) hi g n (i + 1) ps (fun j => if j = i then (E i).set 2 u else E j) (fun j => if j = i + 1 then w2.heap.size else m j) := by
  have hf := (h.all.keep (hb.block g hg)).setCell hE hin (t := 2) (by omega) (u := u)
  have hsz := hb.size
  have ht : Turned g (g + 1) w2 (w2.setCell ⟨g, 0 + i * 3 + 2, none⟩ u) := (Turned.refl g (g + 1) w2).set (b := g) _ u (Nat.le_refl _) (Nat.lt_succ_self _)
  have hz := ht.size
  have hlow := h.low
  have htop := h.top
  refine ⟨hf, h.steps.put (by omega), by show g < (if 0 = i + 1 then w2.heap.size else m 0); rw [if_neg (by omega)]; exact hlow, by show (if i + 1 = i + 1 then w2.heap.size else m (i + 1)) ≤ _; rw [if_pos rfl]; exact hz, fun j y hj hy => ?_, fun j y hj hy => ?_⟩
  · by_cases e : j = i
    · subst e
      have hxy : y = x := Option.some.inj (hy.symm.trans hx)
      subst hxy
      show SlotR.mine (if j = j + 1 then w2.heap.size else m j) (if j + 1 = j + 1 then w2.heap.size else m (j + 1)) _ (if j = j then _ else E j) y.1
      rw [if_neg (by omega), if_pos rfl, if_pos rfl, (h.rest j y (Nat.le_refl _) hy).1]
      exact ((slot_mine_of (x := y.1) hu).turned ht (.inr (by have := h.steps.le (Nat.zero_le j) (Nat.le_refl _); omega)) (Nat.le_refl _)).mono (by omega) (Nat.le_refl _)
    · have hji : j < i := by omega
      show SlotR.mine (if j = i + 1 then w2.heap.size else m j) (if j + 1 = i + 1 then w2.heap.size else m (j + 1)) _ (if j = i then _ else E j) y.1
      rw [if_neg e, if_neg (by omega), if_neg (by omega)]
      have hm0 := h.steps.le (Nat.zero_le j) (by omega)
      have hm1 := h.steps.le (show j + 1 ≤ i by omega) (Nat.le_refl _)
      exact ((h.done j y hji hy).below hb (by omega)).turned ht (.inr (by omega)) (by omega)
  · show (if j = i then _ else E j) = sCells y ∧ _
    rw [if_neg (by omega)]
    obtain ⟨e1, e2⟩ := h.rest j y (by omega) hy
    refine ⟨e1, ?_⟩
    have hb1 : Below g w2 (w2.setCell ⟨g, 0 + i * 3 + 2, none⟩ u) := (Below.refl g w2).setCell (p := ⟨g, _, none⟩) (Nat.le_refl _) u
    exact (e2.below hb (by omega)).below hb1 hh
set_option maxRecDepth 100000 in
set_option maxHeartbeats 3200000 in
theorem slotsCopy_any (hi : Nat) (A : Option Addr) (c : Nat) (ps : List SlotV) (w : World) (hn : ps.length ≤ 1048577) (hs : ∀ x ∈ ps, x.1.2.2.length ≤ 1048576) (h : seenAt hi w A ps) (hh : hi ≤ w.heap.size) :
    Calls Try.prog 41 #[.slice A ps.length c] w (slotsOne (ps.map (·.1)) w) := by
  have HS := Lib.hid hs
  have HCL := Lib.hid (cloneSlots_any hi A c ps w hn h hh)
  have HSE := Lib.hid (fun V (hV : Below w.heap.size w V) => h.below hV hh)
  have hn2 : (ps.map (·.1)).length = ps.length := List.length_map ..
  clear hs h
  go_enter Try.func41, Try.ntmps41
  go_wp2_with fail
  refine HCL.out.mono ?_
  rintro e w1 ⟨A1, c1, rfl, ho, hb1⟩
  have HB1 := Lib.hid hb1
  have z1 := hb1.size
  rcases ho.filled (fun _ => rfl) ((⟨#[]⟩, ⟨#[]⟩, []), (none, 0)) with ⟨rfl, A2, c2, hv⟩ | ⟨g, c2, hv, hc, h1, h2, hf⟩
  · have HV := Lib.hid hv
    clear ho hb1 HCL hv
    go_wp2
    go_loopw [9] (fun iv wr => iv = .int .i64 0 ∧ w1 = wr) (fun _ _ => 0)
    case atStart => exact ⟨rfl, rfl⟩
    case round =>
      obtain ⟨rfl, rfl⟩ := hrel
      go_wp2
      go_ret
      exact ⟨_, rfl, ⟨[], ⟨_, _, rfl, Nat.zero_le _, .inl ⟨rfl, rfl⟩⟩, List.nodup_nil, by simp⟩, HB1.out⟩
  simp only [Value.slice.injEq, true_and] at hv
  obtain ⟨rfl, rfl⟩ := hv
  have HC0 : Hid (copying w1 hi g ps.length 0 ps (fun j => sCells (ps.getD j ((⟨#[]⟩, ⟨#[]⟩, []), (none, 0)))) (fun _ => w1.heap.size)) := Lib.hid (by
    refine ⟨hf, ⟨fun j hj => absurd hj (by omega)⟩, h2, Nat.le_refl _, fun j x hj => absurd hj (by omega), fun j x _ hx => ?_⟩
    have hg : ps.getD j ((⟨#[]⟩, ⟨#[]⟩, []), (none, 0)) = x := by rw [List.getD_eq_getElem?_getD, hx]; rfl
    obtain ⟨b, off, -, -, -, hr⟩ := HSE.out w1 hb1 j x hx
    exact ⟨congrArg sCells hg, hr⟩)
  clear ho hb1 HCL hf
  go_wp2
  go_loopw [9] (fun iv wr => ∃ (i : Nat) (E : Nat → List Value) (m : Nat → Nat), i ≤ ps.length ∧ iv = .int .i64 i ∧ Hid (copying wr hi g ps.length i ps E m) ∧ Hid (∀ j, (E j).length = 3) ∧ Hid (Below w.heap.size w wr) ∧ g < wr.heap.size) (fun iv _ => ps.length - (intOf iv).toNat)
  case atStart => exact ⟨0, _, _, Nat.zero_le _, rfl, HC0, Lib.hid (fun _ => rfl), HB1, h2⟩
  case round =>
    obtain ⟨i, E, m, hi', rfl, HC, HE, HB, hz⟩ := hrel
    by_cases hin : i < ps.length
    · obtain ⟨x, hx⟩ : ∃ x, ps[i]? = some x := ⟨_, List.getElem?_eq_getElem hin⟩
      obtain ⟨he, hr⟩ := HC.out.rest i x (Nat.le_refl _) hx
      have hat := HC.out.all.at_ i hin
      rw [he, Nat.zero_add] at hat
      have d2 : wr.cell? ⟨g, i * 3 + 2, none⟩ = some (.slice x.2.1 x.1.2.2.length x.2.2) := hat 2 _ rfl
      have hxs := HS.out x (List.mem_of_getElem? hx)
      have HX := Lib.hid hx
      have HR := Lib.hid hr
      have g1 : (i : Int) < (ps.length : Int) := by omega
      have g2 : 0 ≤ (i : Int) := by omega
      have HBC := Lib.hid (bytesClone_any hi _ x.1.2.2 wr hxs hr (by omega))
      clear hx hr hat he
      obtain ⟨AX, cX⟩ : Option Addr × Nat := x.2
      go_wp2_with fail
      refine HBC.out.mono ?_
      rintro e w2 ⟨u, rfl, hu, hb2⟩
      obtain ⟨AU, cU, rfl, -⟩ := hu.form
      have HN := Lib.hid (HC.out.next hb2 HX.out hin (by omega) hz HE.out hu)
      obtain ⟨⟨u2, e2⟩, f2⟩ := (HC.out.all.keep (hb2.block _ hz)).cells hin 2 (by omega)
      simp only [Nat.zero_add] at e2 f2
      rw [Nat.zero_add] at HN
      have HB2 : Hid (Below w.heap.size w w2) := Lib.hid (HB.out.trans (hb2.mono (by omega)))
      have z2 := hb2.size
      have HE2 : Hid (∀ j, ((fun j => if j = i then (E i).set 2 (.slice AU x.1.2.2.length cU) else E j) j).length = 3) := Lib.hid fun j => by
        show (if j = i then _ else E j).length = 3
        split
        · rw [List.length_set]; exact HE.out i
        · exact HE.out j
      clear hb2 hu d2 HBC
      go_wp2
      go_roundw
      case rel => exact ⟨i + 1, _, _, by omega, by go_num, HN, HE2, Lib.hid (HB2.out.setCell (p := ⟨g, i * 3 + 2, none⟩) h1 _), by simp; omega⟩
      case measure => simp [intOf] <;> omega
    · obtain rfl : i = ps.length := by omega
      go_wp2
      go_ret
      refine ⟨_, rfl, ?_, HB.out⟩
      exact rows_mine (R := SlotR) (m := m) hn2.symm hc h1 HC.out.low HC.out.steps HC.out.top HC.out.all fun j x hx => by
        rw [List.getElem?_map] at hx
        obtain ⟨z, hz', rfl⟩ := Option.map_eq_some_iff.1 hx
        exact HC.out.done j z (List.getElem?_eq_some_iff.1 hz').1 hz'
set_option maxRecDepth 100000 in
theorem seen_own {T : TypeId} {B c : Nat} {w : World} {A : Option Addr} {qs : List SlotV} (ho : owE T 3 sCells B w (.slice A qs.length c) qs) (hr : ∀ (j : Nat) (y : SlotV), qs[j]? = some y → rd .u8 w.heap.size w (sv y) y.1.2.2) : seenAt w.heap.size w A qs := fun j y hy => by
  have hj := (List.getElem?_eq_some_iff.1 hy).1
  rcases ho.filled (fun _ => rfl) ((⟨#[]⟩, ⟨#[]⟩, []), (none, 0)) with ⟨rfl, -⟩ | ⟨b, c', hv, -, h1, h2, hf⟩
  · simp at hj
  · simp only [Value.slice.injEq, true_and] at hv
    obtain ⟨rfl, rfl⟩ := hv
    have hat := hf.at_ j hj
    have hg : qs.getD j ((⟨#[]⟩, ⟨#[]⟩, []), (none, 0)) = y := by rw [List.getD_eq_getElem?_getD, hy]; rfl
    rw [hg] at hat
    exact ⟨b, 0, rfl, h2, hat, hr j y hy⟩
set_option maxRecDepth 100000 in
set_option maxHeartbeats 3200000 in
theorem implSlotPut_any (hi : Nat) (v u : Value) (l : List SlotD) (x : SlotD) (w : World) (hn : l.length ≤ 1048576) (hs : ∀ x ∈ l, x.2.2.length ≤ 1048576) (hz : ∀ x ∈ l, x.1.size ≤ maxLen ∧ x.2.1.size ≤ maxLen) (hx : x.2.2.length ≤ 1048576) (hx1 : x.1.size ≤ maxLen) (hx2 : x.2.1.size ≤ maxLen) (h : SlotsR.rd hi w [v] l) (hu : rd .u8 hi w u x.2.2) (hh : hi ≤ w.heap.size) :
    Calls Try.prog 25 #[v, .agg #[.string x.1, .string x.2.1, u]] w (slotsRes (slotPutL l x).1 (slotPutL l x).2 w) := by
  obtain ⟨A0, c0, ps, rfl, hps, hse⟩ := slots_seen h
  obtain ⟨AX, cX, rfl, -⟩ := hu.form
  have hlen : ps.length = l.length := by rw [← hps, List.length_map]
  rw [← hlen] at hn ⊢
  have HQ : Hid ((ps ++ [((x, (AX, cX)) : SlotV)]).map (·.1) = l ++ [x]) := Lib.hid (by rw [List.map_append, hps]; rfl)
  have HSX : Hid (∀ y ∈ ps ++ [((x, (AX, cX)) : SlotV)], y.1.2.2.length ≤ 1048576) := Lib.hid fun y hy => by
    rcases List.mem_append.1 hy with h | h
    · exact hs y.1 (by rw [← hps]; exact List.mem_map_of_mem h)
    · rw [List.mem_singleton.1 h]; exact hx
  have HZX : Hid (∀ y ∈ l ++ [x], y.1.size ≤ maxLen ∧ y.2.1.size ≤ maxLen) := Lib.hid fun y hy => by
    rcases List.mem_append.1 hy with h | h
    · exact hz y h
    · rw [List.mem_singleton.1 h]; exact ⟨hx1, hx2⟩
  have HSE := Lib.hid (fun V (hV : Below w.heap.size w V) => hse.below hV hh)
  have HU := Lib.hid (fun V (hV : Below w.heap.size w V) => hu.below hV hh)
  have hnx : (l ++ [x]).length ≤ 2000000 := by simp; omega
  have HPL : Hid (slotPutL l x = if slotsOk (l ++ [x]) = true then (l ++ [x], true) else ([], false)) := Lib.hid rfl
  have HLN := Lib.hid hlen
  clear h hu hs hz hx1 hx2 hse hps hlen
  go_enter Try.func25, Try.ntmps25
  go_upto_region 1 with fail
  obtain ⟨W, hW⟩ : ∃ W, W = w.alloc (.cells #[.string x.1, .string x.2.1, .slice AX x.2.2.length cX] 27) := ⟨_, rfl⟩
  have b0 : bk W w.heap.size 27 [.string x.1, .string x.2.1, .slice AX x.2.2.length cX] := by rw [hW]; exact bk.new w _ _
  have HB0 : Hid (Below w.heap.size w W) := Lib.hid (by rw [hW]; exact (Below.refl _ _).alloc (Nat.le_refl _) _)
  have z0 : w.heap.size + 1 = W.heap.size := by rw [hW]; simp
  rw [← hW]
  clear hW
  obtain ⟨p0, p1, p2⟩ := b0.cells3
  clear b0
  go_wp2_with fail
  obtain ⟨W2, hW2⟩ : ∃ W2, W2 = (W.alloc (.cells #[.string x.1, .string x.2.1, .slice AX x.2.2.length cX] 27)).alloc (.cells #[.slice A0 ps.length c0, .slice (some ⟨W.heap.size, 0, none⟩) 1 1] 34) := ⟨_, rfl⟩
  have b1 : bk W2 W.heap.size 27 [.string x.1, .string x.2.1, .slice AX x.2.2.length cX] := by rw [hW2]; exact (bk.new W _ _).alloc _
  have b2 : bk W2 (W.heap.size + 1) 34 [.slice A0 ps.length c0, .slice (some ⟨W.heap.size, 0, none⟩) 1 1] := by rw [hW2]; have := bk.new (W.alloc (.cells #[.string x.1, .string x.2.1, .slice AX x.2.2.length cX] 27)) 34 [.slice A0 ps.length c0, .slice (some ⟨W.heap.size, 0, none⟩) 1 1]; simpa using this
  have HB2 : Hid (Below w.heap.size w W2) := Lib.hid (by rw [hW2]; exact (HB0.out.alloc (by omega) _).alloc (by simp; omega) _)
  have z2 : W.heap.size + 2 = W2.heap.size := by rw [hW2]; simp
  have hrx := HU.out W2 HB2.out
  have HY : Hid (seenAt W2.heap.size W2 (some ⟨W.heap.size, 0, none⟩) [((x, (AX, cX)) : SlotV)]) := Lib.hid fun j z hj => by
    match j, hj with
    | 0, hj =>
      cases hj
      obtain ⟨e0, e1, e2⟩ := b1.cells3
      refine ⟨W.heap.size, 0, rfl, by omega, fun t u hu => ?_, hrx.mono (by omega)⟩
      match t, hu with
      | 0, hu => cases hu; exact e0
      | 1, hu => cases hu; exact e1
      | 2, hu => cases hu; exact e2
      | n + 3, hu => simp [sCells] at hu
    | n + 1, hj => simp at hj
  have HX2 : Hid (seenAt W2.heap.size W2 A0 ps) := Lib.hid fun j z hj => by
    obtain ⟨b, off, e, hb, ha, hr⟩ := HSE.out W2 HB2.out j z hj
    exact ⟨b, off, e, by omega, ha, hr.mono (by omega)⟩
  have HCC := Lib.hid (concatSlots_any (W.heap.size + 1) 2 c0 1 A0 (some ⟨W.heap.size, 0, none⟩) ps [((x, (AX, cX)) : SlotV)] W2 b2 (Nat.le_refl _) HX2.out HY.out hn (by simp) (by simp))
  rw [← hW2]
  clear hW2 b1 b2 hrx p0 p1 p2
  refine HCC.out.mono ?_
  rintro e w3 ⟨A, c, rfl, ho, hb3⟩
  have z3 := hb3.size
  have HRD : Hid (∀ V, Below w3.heap.size w3 V → ∀ (j : Nat) (y : SlotV), (ps ++ [((x, (AX, cX)) : SlotV)])[j]? = some y → rd .u8 w3.heap.size V (sv y) y.1.2.2) := Lib.hid fun V hV j y hy => by
    refine (rd.below (hi := w3.heap.size) (B := w3.heap.size) ?_ hV (Nat.le_refl _))
    by_cases e : j = ps.length
    · subst e
      have : y = (x, (AX, cX)) := by simpa using hy.symm
      subst this
      exact (HU.out w3 (HB2.out.trans (hb3.mono (by omega)))).mono (by omega)
    · have hj : j < ps.length := by have := (List.getElem?_eq_some_iff.1 hy).1; simp at this; omega
      rw [List.getElem?_append_left hj] at hy
      obtain ⟨b, off, -, -, -, hr⟩ := HSE.out w3 (HB2.out.trans (hb3.mono (by omega))) j y hy
      exact hr.mono (by omega)
  have HO := Lib.hid ho
  have HB3 : Hid (Below w.heap.size w w3) := Lib.hid (HB2.out.trans (hb3.mono (by omega)))
  have hrd := owE_slots_rd ho (HRD.out w3 (Below.refl _ _))
  rw [HQ.out] at hrd
  have HOK := Lib.hid (implSlotsOk_any w3.heap.size _ (l ++ [x]) w3 hnx HZX.out hrd (Nat.le_refl _))
  have hql : (ps ++ [((x, (AX, cX)) : SlotV)]).length ≤ 1048577 := by simp; omega
  clear ho hb3 hrd HCC HX2 HY HSE HU
  generalize slotsOk (l ++ [x]) = ok at HOK HPL
  generalize ps ++ [((x, (AX, cX)) : SlotV)] = qs at *
  generalize l ++ [x] = L at HQ HOK HPL hnx HZX
  go_wp2_with fail
  refine HOK.out.mono ?_
  rintro e w4 ⟨rfl, hb4⟩
  have z4 := hb4.size
  have HB4 : Hid (Below w.heap.size w w4) := Lib.hid (HB3.out.trans (hb4.mono (by omega)))
  have HB34 := Lib.hid hb4
  clear hb4
  cases ok
  · go_wp2
    refine bodyPost_ret (v := .tuple #[.slice none 0 0, .bool false]) (by simp [results, Try.results25, go_sem]) rfl ?_
    rw [HPL.out]
    exact ⟨_, rfl, ⟨[], ⟨none, 0, rfl, Nat.le_refl _, .inl ⟨rfl, rfl⟩⟩, List.nodup_nil, by simp⟩, HB4.out⟩
  · have hs4 : seenAt w3.heap.size w4 A qs := (seen_own HO.out (HRD.out w3 (Below.refl _ _))).below HB34.out (Nat.le_refl _)
    have HCP := Lib.hid (slotsCopy_any w3.heap.size A c qs w4 hql HSX.out hs4 z4)
    clear hs4
    go_wp2_with fail
    refine HCP.out.mono ?_
    rintro e w5 ⟨u5, rfl, hm5, hb5⟩
    obtain ⟨A5, c5, rfl, -⟩ := Rep.slice_form hm5.rd
    have HM5 := Lib.hid hm5
    have HB5 : Hid (Below w.heap.size w w5) := Lib.hid (HB4.out.trans (hb5.mono (by omega)))
    rw [HQ.out] at HM5
    rw [HQ.out]
    clear hm5 hb5
    go_wp2
    refine bodyPost_ret (v := .tuple #[.slice A5 L.length c5, .bool true]) (by simp [results, Try.results25, go_sem]) rfl ?_
    rw [HPL.out]
    exact ⟨_, rfl, HM5.out.mono (by omega) (Nat.le_refl _), HB5.out⟩
end Go.Proofs.Ytkbakcnhhlmpkaa
