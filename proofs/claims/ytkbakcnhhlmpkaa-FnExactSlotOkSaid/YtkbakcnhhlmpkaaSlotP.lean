/- SlotPut of the reference; no conditions. -/
import Derived.Test.YtkbakcnhhlmpkaaSlotC
import Derived.Test.YtkbakcnhhlmpkaaSlotK
import Derived.Deep.RegionHeld3
import Derived.Deep.DeepCutAuto
set_option linter.unusedVariables false
namespace Go.Proofs.Ytkbakcnhhlmpkaa
open Go.ChangeShapes Go.WideShapes Go.ChangeAt Go.RowKit

set_option maxRecDepth 100000 in
/-- append(s, T{..}) as a step of a region that draws its order, the element lying anywhere -/
theorem app_src_step {P : Program} {ops : Array Oper} {o : Oper} {a : Act} {Kn : Act → World → Prop} {Q : Exit → Act → World → Prop} {E : Prop} {α : Type} (enc : α → List Value) (k : Nat) (hk : ∀ x, (enc x).length = k) (hk0 : 0 < k) (hone : ∀ x, ∀ u ∈ enc x, u.oneCell' = true)
    (t e : TypeId) (zs : Array Value) (bytes : Nat) (ht : P.underlying t = some (.slice e)) (hinfo : (P.info? e).map (fun i => (i.zero.map (·.cells), i.size, i.bytes)) = some (some zs, k, bytes)) (hzs : zs.size = k)
    (s x : Operand) (hgd : o.guard = none) (ho : o.op = .call { callee := .builtin .append, args := #[s, x], argTypes := #[t, t] })
    (base : Nat) (W : World) (v : Value) (l : List α) (y : α) (n : Nat) (hs : a.eval s = v) (hx : a.eval x = .slice (some ⟨n, 0, none⟩) 1 1) (hc : ∀ j u, (enc y)[j]? = some u → W.cell? ⟨n, j, none⟩ = some u)
    (hown : owE e k enc base W v l) (h63 : l.length + 1 ≤ maxLen) (hbytes : (l.length + 1) * bytes ≤ 140737488355328) (hbase : base ≤ W.heap.size)
    (h : ∀ A c w', owE e k enc base w' (.slice A (l.length + 1) c) (l ++ [y]) → l.length + 1 ≤ c → W.grownBy w' v.ownBlock → ((Value.slice A (l.length + 1) c).ownBlock = v.ownBlock ∨ (Value.slice A (l.length + 1) c).ownBlock = some W.heap.size) → Kn (a.put o.dst (.slice A (l.length + 1) c)) w') : if Region.wanted o (yielded ops a.tmps) = true then o.wp P a W Kn Q else E := by
  rw [if_pos (by simp [Region.wanted, hgd])]
  obtain ⟨i, hi, hxx⟩ := Option.map_eq_some_iff.1 hinfo
  simp only [Prod.mk.injEq] at hxx
  obtain ⟨hz, hsize, hby⟩ := hxx
  obtain ⟨z, hzz, hzc⟩ := Option.map_eq_some_iff.1 hz
  have hcells : ∀ j u, (enc y)[j]? = some u → W.cell? ((⟨n, 0, none⟩ : Addr).add j) = some u := by
    intro j u hu
    have e1 : (⟨n, 0, none⟩ : Addr).add j = ⟨n, j, none⟩ := by
      unfold Addr.add
      split
      · next h0 => rw [h0]
      · simp
    rw [e1]
    exact hc j u hu
  obtain ⟨v', w1, hr, hown', hgrow, _, hlies⟩ := run_append_own_at (P := P) W base t o.type e i z k bytes ht hi hzz hsize hby (by rw [hzc, hzs]) hk0 v l.length (l.flatMap enc) hown ⟨n, 0, none⟩ 1 1 (enc y) (by rw [hk]; omega) hcells (hone y) h63 hbytes hbase
  have ho' : owE e k enc base w1 v' (l ++ [y]) := by
    unfold owE
    rw [List.length_append, List.flatMap_append]
    simpa using hown'
  obtain ⟨A, c, rfl, hc'⟩ := ho'.form
  rw [List.length_append] at ho' hc' hlies hr
  unfold Oper.wp execOp
  simp only [ho, resolve, invoke, builtin, Sem.run_bind, Sem.run_pure, Result.andThen_ok, List.map_toArray, List.map_cons, List.map_nil, hs, hx, hr]
  exact h A c w1 ho' hc' hgrow (by simpa using hlies)
set_option maxRecDepth 100000 in
/-- such a row is read -/
theorem owE_slots_rd {T : TypeId} {B : Nat} {w : World} {v : Value} {ps : List SlotV} (ho : owE T 3 sCells B w v ps) (hr : ∀ (j : Nat) (y : SlotV), ps[j]? = some y → rd .u8 w.heap.size w (sv y) y.1.2.2) : SlotsR.rd w.heap.size w [v] (ps.map (·.1)) := by
  obtain ⟨A, c, rfl, hc⟩ := ho.form
  refine ⟨A, c, by rw [List.length_map], by rw [List.length_map]; exact hc, fun j x hx => ?_⟩
  rw [List.getElem?_map] at hx
  obtain ⟨y, hy, rfl⟩ := Option.map_eq_some_iff.1 hx
  have hj := (List.getElem?_eq_some_iff.1 hy).1
  rcases ho.filled (fun _ => rfl) ((⟨#[]⟩, ⟨#[]⟩, []), (none, 0)) with ⟨rfl, -⟩ | ⟨b, c', hv, -, h1, h2, hf⟩
  · simp at hj
  · simp only [Value.slice.injEq, true_and] at hv
    obtain ⟨rfl, rfl⟩ := hv
    have hat := hf.at_ j hj
    have hg : ps.getD j ((⟨#[]⟩, ⟨#[]⟩, []), (none, 0)) = y := by rw [List.getD_eq_getElem?_getD, hy]; rfl
    rw [hg] at hat
    exact ⟨b, 0, sCells y, rfl, h2, slot_rd_of (hr j y hy), hat⟩
set_option maxRecDepth 100000 in
theorem put_read {T : TypeId} {B hi : Nat} {w : World} {A AX : Option Addr} {c cX : Nat} {ps : List SlotV} {p q : Nat → Nat} {row : Option Nat} {l : List SlotD} {x : SlotD} (ho : owE T 3 sCells B w (.slice A (ps.length + 1) c) (ps ++ [((x, (AX, cX)) : SlotV)])) (hr : replies w row B ps p q) (hu : rd .u8 hi w (.slice AX x.2.2.length cX) x.2.2) (hh : hi ≤ w.heap.size) (hm : ps.map (·.1) = l) : SlotsR.rd w.heap.size w [.slice A (ps.length + 1) c] (l ++ [x]) := by
  have h := owE_slots_rd ho fun j y hy => by
    by_cases e : j = ps.length
    · subst e
      have : y = (x, (AX, cX)) := by simpa using hy.symm
      subst this
      exact rd.mono hu hh
    · have hj : j < ps.length := by have := (List.getElem?_eq_some_iff.1 hy).1; simp at this; omega
      rw [List.getElem?_append_left hj] at hy
      exact rd.mono (hr.own j y hy).rd (hr.in_ j hj).2
  rw [List.map_append, hm] at h
  exact h
def slotPutL (l : List SlotD) (x : SlotD) : List SlotD × Bool := if slotsOk (l ++ [x]) = true then (l ++ [x], true) else ([], false)
def slotsRes (l : List SlotD) (ok : Bool) (w : World) (e : Ending) (w' : World) : Prop := ∃ u, e = .returned (.tuple #[u, .bool ok]) ∧ SlotsR.mine w.heap.size w'.heap.size w' [u] l ∧ Below w.heap.size w w'
set_option maxRecDepth 100000 in
set_option maxHeartbeats 6400000 in
theorem specSlotPut_any (hi : Nat) (v u : Value) (l : List SlotD) (x : SlotD) (w : World) (hn : l.length ≤ 1048576) (hs : ∀ x ∈ l, x.2.2.length ≤ 1048576) (hz : ∀ x ∈ l, x.1.size ≤ maxLen ∧ x.2.1.size ≤ maxLen) (hx : x.2.2.length ≤ 1048576) (hx1 : x.1.size ≤ maxLen) (hx2 : x.2.1.size ≤ maxLen) (h : SlotsR.rd hi w [v] l) (hu : rd .u8 hi w u x.2.2) (hh : hi ≤ w.heap.size) :
    Calls Try.prog 24 #[v, .agg #[.string x.1, .string x.2.1, u]] w (slotsRes (slotPutL l x).1 (slotPutL l x).2 w) := by
  obtain ⟨A0, c0, rfl, -, -⟩ := slots_rd h
  obtain ⟨AX, cX, rfl, -⟩ := hu.form
  have H := Lib.hid h
  have HU := Lib.hid hu
  have hnx : (l ++ [x]).length ≤ 2000000 := by simp; omega
  have HSX : Hid (∀ y ∈ l ++ [x], y.2.2.length ≤ 1048576) := Lib.hid fun y hy => by
    rcases List.mem_append.1 hy with h | h
    · exact hs y h
    · rw [List.mem_singleton.1 h]; exact hx
  have HZX : Hid (∀ y ∈ l ++ [x], y.1.size ≤ maxLen ∧ y.2.1.size ≤ maxLen) := Lib.hid fun y hy => by
    rcases List.mem_append.1 hy with h | h
    · exact hz y h
    · rw [List.mem_singleton.1 h]; exact ⟨hx1, hx2⟩
  have HS := Lib.hid hs
  clear h hu hs hz hx1 hx2
  go_enter Try.func24, Try.ntmps24
  go_upto_region 1 with fail
  obtain ⟨W, hW⟩ : ∃ W, W = w.alloc (.cells #[.string x.1, .string x.2.1, .slice AX x.2.2.length cX] 27) := ⟨_, rfl⟩
  have b0 : bk W w.heap.size 27 [.string x.1, .string x.2.1, .slice AX x.2.2.length cX] := by rw [hW]; exact bk.new w _ _
  have HB0 : Hid (Below w.heap.size w W) := Lib.hid (by rw [hW]; exact (Below.refl _ _).alloc (Nat.le_refl _) _)
  have z0 : W.heap.size = w.heap.size + 1 := by rw [hW]; simp
  rw [← hW]
  clear hW
  have B0 := Lib.hid b0
  obtain ⟨p0, p1, p2⟩ := b0.cells3
  clear b0
  have HCP := Lib.hid (fun V (hV : Below W.heap.size W V) => specCopySlotsO_any hi _ l V (by omega) HS.out (Rep.below (R := SlotsR) H.out (HB0.out.trans (hV.mono (by omega))) hh) (Nat.le_trans (by omega) hV.size))
  have HUX := Lib.hid (fun V (hV : Below W.heap.size W V) => HU.out.below (HB0.out.trans (hV.mono (by omega))) hh)
  have HBK := Lib.hid (fun V (hV : Below W.heap.size W V) => (B0.out.below hV (by omega)).cells3)
  have hD : Below W.heap.size W W.drew := (Below.refl _ _).drew
  go_cut [6] (fun uv wx => ∃ (A : Option Addr) (c : Nat), uv = .slice A (l ++ [x]).length c ∧ SlotsR.mine W.heap.size wx.heap.size wx [uv] (l ++ [x]) ∧ Below W.heap.size W wx)
  case first =>
    have hE := ((Below.refl W.heap.size W).alloc (Nat.le_refl W.heap.size) (.cells #[.string x.1, .string x.2.1, .slice AX x.2.2.length cX] 27)).drew
    have hEn := heap_alloc_new W (.cells #[.string x.1, .string x.2.1, .slice AX x.2.2.length cX] 27)
    rw [z0] at hEn
    go_region_held3 (fun V => V.cell? ⟨w.heap.size, 0, none⟩ = some (.string x.1) ∧ V.cell? ⟨w.heap.size, 1, none⟩ = some (.string x.2.1) ∧ V.cell? ⟨w.heap.size, 2, none⟩ = some (.slice AX x.2.2.length cX)) (go_keep) (first
      | (go_at_call 39; (with_reducible refine (HCP.out _ hD).mono ?_); rintro e w2 ⟨A2, c2, ps, p, q, rfl, hm2, ho2, hr2, hb2⟩; have hW2 : Below W.heap.size W w2 := hD.trans (hb2.mono (Nat.le_refl _)); obtain ⟨q0, q1, q2⟩ := HBK.out w2 hW2; have hpl : ps.length ≤ 1048576 := (by rw [show ps.length = l.length from by rw [← hm2, List.length_map]]; omega); have HO2 := Lib.hid ho2; have HR2 := Lib.hid hr2; have HM2 := Lib.hid hm2; have HW2 := Lib.hid hW2; clear ho2 hr2 hb2 hm2 hW2)
      | (go_at_call 39; (with_reducible refine (HCP.out _ hE).mono ?_); rintro e w2 ⟨A2, c2, ps, p, q, rfl, hm2, ho2, hr2, hb2⟩; have hW2 : Below W.heap.size W w2 := hE.trans (hb2.mono (by simp)); obtain ⟨q0, q1, q2⟩ := HBK.out w2 hW2; have hpl : ps.length ≤ 1048576 := (by rw [show ps.length = l.length from by rw [← hm2, List.length_map]]; omega); have HO2 := Lib.hid ho2; have HR2 := Lib.hid hr2; have HM2 := Lib.hid hm2; have HW2 := Lib.hid hW2; have HE2 : Hid (∀ (j : Nat) (v : Value), (sCells ((x, (AX, cX)) : SlotV))[j]? = some v → w2.cell? ⟨w.heap.size + 1, j, none⟩ = some v) := Lib.hid (fun j v hv => (by rw [hb2.cell (p := ⟨w.heap.size + 1, j, none⟩) (show w.heap.size + 1 < (W.alloc _).heap.size by simp; omega), show ∀ V : World, V.drew.cell? ⟨w.heap.size + 1, j, none⟩ = V.cell? ⟨w.heap.size + 1, j, none⟩ from fun _ => rfl, cell_of_row _ _ j _ _ (0, 0) hEn, ← Array.getElem?_toList]; exact hv)); have HZ2 := Lib.hid hb2.size; clear ho2 hr2 hb2 hm2 hW2)
      | (refine app_elem_step sCells 3 (fun _ => rfl) (by decide) sCells_one 34 27 #[.string ⟨#[]⟩, .string ⟨#[]⟩, .slice none 0 0] 56 Try.underlying34 infoSlot rfl _ _ (by rfl) (by rfl) _ w2 _ ps ((x, (AX, cX)) : SlotV) _ _ (by rfl) (by rfl) (by rfl) rfl HO2.out (by unfold maxLen; omega) (by omega) (by have := HW2.out.size; exact this) ?_; intro A4 c4 w4 hown4 hc4 hg4 hl4; have hW4 : Below W.heap.size W w4 := (HW2.out.alloc HW2.out.size (.cells #[.string x.1, .string x.2.1, .slice AX x.2.2.length cX] 27)).grown hg4 (by have := HW2.out.size; simp; omega) (fun k hk => (HO2.out.lt k hk).1); obtain ⟨q0, q1, q2⟩ := HBK.out w4 hW4; have hr4 := (HR2.out.below ((Below.refl w2.heap.size w2).alloc (Nat.le_refl _) (.cells #[.string x.1, .string x.2.1, .slice AX x.2.2.length cX] 27))).grown hg4 (row' := (Value.slice A4 (ps.length + 1) c4).ownBlock) (hl4.imp id (fun e => ⟨_, e, by simp⟩)); have HM4 := Lib.hid HM2.out; have HO4 := Lib.hid hown4; have HR4 := Lib.hid hr4; have HW4 := Lib.hid hW4; clear hown4 hg4 hl4 hr4 hW4)
      | (refine app_src_step sCells 3 (fun _ => rfl) (by decide) sCells_one 34 27 #[.string ⟨#[]⟩, .string ⟨#[]⟩, .slice none 0 0] 56 Try.underlying34 infoSlot rfl _ _ (by rfl) (by rfl) _ w2 _ ps ((x, (AX, cX)) : SlotV) _ (by rfl) (by rfl) HE2.out HO2.out (by unfold maxLen; omega) (by omega) (by have := HZ2.out; exact this) ?_; intro A4 c4 w4 hown4 hc4 hg4 hl4; have hW4 : Below W.heap.size W w4 := HW2.out.grown hg4 (by have := HW2.out.size; omega) (fun k hk => by have := (HO2.out.lt k hk).1; simp at this; omega); obtain ⟨q0, q1, q2⟩ := HBK.out w4 hW4; have hr4 := HR2.out.grown hg4 (row' := (Value.slice A4 (ps.length + 1) c4).ownBlock) (hl4.imp id (fun e => ⟨_, e, Nat.le_refl _⟩)); have HM4 := Lib.hid HM2.out; have HO4 := Lib.hid hown4; have HR4 := Lib.hid hr4; have HW4 := Lib.hid hW4; clear hown4 hg4 hl4 hr4 hW4)
      | (go_at_call 39; (with_reducible refine (specCopySlots_any w4.heap.size _ (l ++ [x]) w4 hnx HSX.out (put_read HO4.out HR4.out (HUX.out w4 HW4.out) (Nat.le_trans (by omega) HW4.out.size) HM4.out) (Nat.le_refl _)).mono ?_); rintro e w6 ⟨u6, rfl, hu6, hb6⟩; obtain ⟨A6, c6, rfl, -⟩ := Rep.slice_form hu6.rd; have HU6 := Lib.hid hu6; have hW6 : Below W.heap.size W w6 := HW4.out.trans (hb6.mono HW4.out.size); obtain ⟨q0, q1, q2⟩ := HBK.out w6 hW6; have HW6 := Lib.hid hW6; have z46 : W.heap.size ≤ w4.heap.size := HW4.out.size; clear hu6 hb6 hW6)
      | fail)
    all_goals (go_wp2; go_meet)
    all_goals exact ⟨A6, c6, by simp, by simpa using HU6.out.mono z46 (Nat.le_refl _), HW6.out⟩
  case rest =>
    obtain ⟨A, c, rfl, hm, hb⟩ := hcut
    have zc := hb.size
    have HM := Lib.hid hm
    have HB := Lib.hid hb
    have HPL : Hid (slotPutL l x = if slotsOk (l ++ [x]) = true then (l ++ [x], true) else ([], false)) := Lib.hid rfl
    have HOK := Lib.hid (specSlotsOk_any wc.heap.size _ (l ++ [x]) wc hnx HZX.out hm.rd (Nat.le_refl _))
    clear hm hb HCP HUX HBK hD p0 p1 p2
    generalize slotsOk (l ++ [x]) = ok at HOK HPL
    generalize l ++ [x] = L at HM HPL HOK ⊢
    go_wp2_with fail
    refine HOK.out.mono ?_
    rintro e w9 ⟨rfl, hb9⟩
    have z9 := hb9.size
    have HW9 : Hid (Below w.heap.size w w9) := Lib.hid (HB0.out.trans ((HB.out.mono (by omega)).trans (hb9.mono (by omega))))
    have HM9 := Lib.hid (HM.out.below hb9 (Nat.le_refl _))
    clear hb9
    cases ok
    · go_wp2
      refine bodyPost_ret (v := .tuple #[.slice none 0 0, .bool false]) (by simp [results, Try.results24, go_sem]) rfl ?_
      rw [HPL.out]
      exact ⟨_, rfl, ⟨[], ⟨none, 0, rfl, Nat.le_refl _, .inl ⟨rfl, rfl⟩⟩, List.nodup_nil, by simp⟩, HW9.out⟩
    · go_wp2
      refine bodyPost_ret (v := .tuple #[.slice A L.length c, .bool true]) (by simp [results, Try.results24, go_sem]) rfl ?_
      rw [HPL.out]
      exact ⟨_, rfl, HM9.out.mono (by omega) z9, HW9.out⟩
end Go.Proofs.Ytkbakcnhhlmpkaa
