/- Slices of slots: the law package's copy, comparison and size; no conditions. -/
import Derived.Test.YtpeeagkfhdeagaaDoorSlot
set_option linter.unusedVariables false
namespace Go.Proofs.YtpeeagkfhdeagaaDoor
open Go.ChangeShapes Go.WideShapes Go.ChangeAt Go.RowKit

set_option maxRecDepth 100000 in
theorem infoSlot : (Tryd.prog.info? 78).map (fun i => (i.zero.map (·.cells), i.size, i.bytes)) = some (some #[.string ⟨#[]⟩, .string ⟨#[]⟩, .slice none 0 0], 3, 56) := by kernel_rfl
/-- the first i elements stand, each with memory of its own behind the row's -/
def grows (w : World) (g n i : Nat) (l : List SlotD) (E : Nat → List Value) (m : Nat → Nat) : Prop :=
  filled w g 0 3 n i E ∧ (∀ j, (E j).length = 3) ∧ Steps m i ∧ g < m 0 ∧ m i ≤ w.heap.size ∧ ∀ j x, j < i → l[j]? = some x → SlotR.mine (m j) (m (j + 1)) w (E j) x
set_option maxRecDepth 100000 in
theorem grows.start {w : World} {g n : Nat} {l : List SlotD} (h : roomL w g 0 (n * 3)) (hg : g < w.heap.size) : grows w g n 0 l (fun _ => [.string ⟨#[]⟩, .string ⟨#[]⟩, .slice none 0 0]) (fun _ => w.heap.size) :=
  ⟨filled.start h, fun _ => rfl, ⟨fun j hj => absurd hj (by omega)⟩, hg, Nat.le_refl _, fun j x hj => absurd hj (by omega)⟩
set_option maxRecDepth 100000 in
theorem Steps.put {m : Nat → Nat} {i M : Nat} (h : Steps m i) (hM : m i ≤ M) : Steps (fun j => if j = i + 1 then M else m j) (i + 1) := ⟨fun j hj => by
  show (if j = i + 1 then M else m j) ≤ (if j + 1 = i + 1 then M else m (j + 1))
  by_cases e : j = i
  · subst e
    rw [if_neg (by omega), if_pos rfl]; exact hM
  · rw [if_neg (by omega), if_neg (by omega)]; exact h.up j (by omega)⟩
set_option maxRecDepth 100000 in
theorem grows.next {w w2 : World} {g n i : Nat} {l : List SlotD} {E : Nat → List Value} {m : Nat → Nat} {x : SlotD} {u : Value} (h : grows w g n i l E m) (hb : Below w.heap.size w w2) (hx : l[i]? = some x) (hin : i < n) (hg : g < w.heap.size)
    (hu : nums .u8 w.heap.size w2.heap.size w2 u x.2.2) :
    grows (setsAt w2 g (i * 3) [.string x.1, .string x.2.1, u]) g n (i + 1) l (fun j => if j = i then [.string x.1, .string x.2.1, u] else E j) (fun j => if j = i + 1 then w2.heap.size else m j) := by
  obtain ⟨h1, h2, h3, h4, h5, h6⟩ := h
  have hf : filled w2 g 0 3 n i (fun j => if j = i then [.string x.1, .string x.2.1, u] else E j) := (h1.keep (hb.block g hg)).congr fun j hj => if_neg (by omega)
  have hl : ∀ j, ((fun j => if j = i then [Value.string x.1, .string x.2.1, u] else E j) j).length = 3 := fun j => by
    simp only
    split
    · rfl
    · exact h2 j
  have hn := hf.next hin (fun j _ => hl j)
  simp only [if_true, Nat.zero_add] at hn
  have ht := setsAt_turned [.string x.1, .string x.2.1, u] w2 g (i * 3) (Turned.refl g (g + 1) w2) (Nat.le_refl _) (by omega)
  have hsz := hb.size
  have hz := ht.size
  refine ⟨hn, hl, h3.put (by omega), by show g < (if 0 = i + 1 then w2.heap.size else m 0); rw [if_neg (by omega)]; exact h4, by show (if i + 1 = i + 1 then w2.heap.size else m (i + 1)) ≤ _; rw [if_pos rfl]; exact hz, fun j y hj hy => ?_⟩
  by_cases e : j = i
  · subst e
    have hxy : y = x := Option.some.inj (hy.symm.trans hx)
    subst hxy
    show SlotR.mine (if j = j + 1 then w2.heap.size else m j) (if j + 1 = j + 1 then w2.heap.size else m (j + 1)) _ (if j = j then _ else E j) y
    rw [if_neg (by omega), if_pos rfl, if_pos rfl]
    exact ((slot_mine_of hu).turned ht (.inr (by have := h3.le (Nat.zero_le j) (Nat.le_refl _); omega)) (Nat.le_refl _)).mono (by omega) (Nat.le_refl _)
  · have hji : j < i := by omega
    show SlotR.mine (if j = i + 1 then w2.heap.size else m j) (if j + 1 = i + 1 then w2.heap.size else m (j + 1)) _ (if j = i then _ else E j) y
    rw [if_neg e, if_neg (by omega), if_neg (by omega)]
    have hm0 := h3.le (Nat.zero_le j) (by omega)
    have hm1 := h3.le (show j + 1 ≤ i by omega) (Nat.le_refl _)
    exact ((h6 j y hji hy).below hb (by omega)).turned ht (.inr (by omega)) (by omega)
set_option maxRecDepth 100000 in
theorem grows.done {w : World} {g n lo : Nat} {l : List SlotD} {E : Nat → List Value} {m : Nat → Nat} (h : grows w g n n l E m) (hn : n = l.length) (hg : lo ≤ g) : SlotsR.mine lo w.heap.size w [.slice (some ⟨g, 0, none⟩) n n] l := by
  obtain ⟨h1, h2, h3, h4, h5, h6⟩ := h
  exact rows_mine (R := SlotR) hn (Nat.le_refl _) hg h4 h3 h5 h1 fun j x hx => h6 j x (by rw [hn]; exact (List.getElem?_eq_some_iff.1 hx).1) hx
set_option maxRecDepth 100000 in
set_option maxHeartbeats 1600000 in
theorem toSlots_any (hi : Nat) (v : Value) (l : List SlotD) (w : World) (hn : l.length ≤ 1048576) (hs : ∀ x ∈ l, x.2.2.length ≤ 1048576) (h : SlotsR.rd hi w [v] l) (hhi : hi ≤ w.heap.size) :
    Calls Tryd.prog 38 #[v] w fun e w' => ∃ u, e = .returned u ∧ SlotsR.mine w.heap.size w'.heap.size w' [u] l ∧ Below w.heap.size w w' := by
  obtain ⟨A, c, rfl, hc, h⟩ := slots_rd h
  have HR := Lib.hid h
  have HS := Lib.hid hs
  clear h hs
  have hmk := make_run (P := Tryd.prog) 26 78 #[.string ⟨#[]⟩, .string ⟨#[]⟩, .slice none 0 0] 3 56 Tryd.underlying26 infoSlot l.length (by omega) (by omega)
  go_enter Tryd.func38, Tryd.ntmps38
  go_wp2
  go_loopw [4] (fun iv wr => ∃ (i : Nat) (E : Nat → List Value) (m : Nat → Nat), i ≤ l.length ∧ iv = .int .i64 i ∧ Hid (grows wr w.heap.size l.length i l E m) ∧ w.heap.size < wr.heap.size ∧ Hid (Below w.heap.size w wr)) (fun iv _ => l.length - (intOf iv).toNat)
  case atStart => exact ⟨0, _, _, Nat.zero_le _, rfl, Lib.hid (grows.start (room_made w _ _ _) (by simp)), by simp, Lib.hid ((Below.refl _ _).alloc (Nat.le_refl _) _)⟩
  case round =>
    obtain ⟨i, E, m, hi, rfl, HF, hz, HB⟩ := hrel
    by_cases hin : i < l.length
    · obtain ⟨x, hx⟩ : ∃ x, l[i]? = some x := ⟨_, List.getElem?_eq_getElem hin⟩
      obtain ⟨b, off, A', c', rfl, hbl, c0, c1, c2, hrd⟩ := HR.out i x hx
      have hxs := HS.out x (List.mem_of_getElem? hx)
      have HX := Lib.hid hx
      clear hx
      have c0 := (HB.out.cell (p := ⟨b, off + i * 3, none⟩) (show b < w.heap.size by omega)).trans c0
      have c1 := (HB.out.cell (p := ⟨b, off + i * 3 + 1, none⟩) (show b < w.heap.size by omega)).trans c1
      have c2 := (HB.out.cell (p := ⟨b, off + i * 3 + 2, none⟩) (show b < w.heap.size by omega)).trans c2
      have HRD := Lib.hid (hrd.below HB.out hhi)
      clear hrd
      have g1 : (i : Int) < (l.length : Int) := by omega
      have g2 : 0 ≤ (i : Int) := by omega
      go_wp2_with fail
      refine (toSlot_any _ _ x _ hxs HRD.out (by omega)).mono ?_
      rintro e w2 ⟨u, rfl, hu, hb2⟩
      obtain ⟨AU, cU, rfl, -⟩ := hu.form
      have HN := Lib.hid (HF.out.next hb2 HX.out hin hz hu)
      obtain ⟨⟨u0, d0⟩, f0⟩ := (HF.out.1.keep (hb2.block _ hz)).cells hin 0 (by omega)
      obtain ⟨⟨u1, d1⟩, f1⟩ := (HF.out.1.keep (hb2.block _ hz)).cells hin 1 (by omega)
      obtain ⟨⟨u2, d2⟩, f2⟩ := (HF.out.1.keep (hb2.block _ hz)).cells hin 2 (by omega)
      simp only [Nat.zero_add, Nat.add_zero] at d0 f0 d1 f1 d2 f2
      have hz2 := hb2.size
      have HB2 : Hid (Below w.heap.size w w2) := Lib.hid (HB.out.trans (hb2.mono (by omega)))
      clear hb2 hu
      go_wp2
      go_roundw
      case rel => exact ⟨i + 1, _, _, by omega, by go_num, HN, by simp; omega, Lib.hid (setsAt_below [.string x.1, .string x.2.1, .slice AU x.2.2.length cU] w2 w.heap.size (i * 3) HB2.out (Nat.le_refl _))⟩
      case measure => simp [intOf] <;> omega
    · obtain rfl : i = l.length := by omega
      go_wp2
      go_ret
      exact ⟨_, rfl, HF.out.done rfl (Nat.le_refl _), HB.out⟩
set_option maxRecDepth 100000 in
set_option maxHeartbeats 3200000 in
theorem eqSlots_any (hi1 hi2 : Nat) (va vb : Value) (l : List SlotD) (w : World) (hn : l.length ≤ 4611686018427387904) (hs : ∀ x ∈ l, x.2.2.length ≤ 4611686018427387904) (h1 : SlotsR.rd hi1 w [va] l) (h2 : SlotsR.rd hi2 w [vb] l) (hh1 : hi1 ≤ w.heap.size) (hh2 : hi2 ≤ w.heap.size) :
    Calls Tryd.prog 18 #[va, vb] w fun e w' => e = .returned (.bool true) ∧ Below w.heap.size w w' := by
  obtain ⟨A1, c1, rfl, -, h1⟩ := slots_rd h1
  obtain ⟨A2, c2, rfl, -, h2⟩ := slots_rd h2
  have H1 := Lib.hid h1
  have H2 := Lib.hid h2
  have HS := Lib.hid hs
  clear h1 h2 hs
  go_enter Tryd.func18, Tryd.ntmps18
  go_wp2
  go_loopw [5] (fun iv wr => ∃ k : Nat, k ≤ l.length ∧ iv = .int .i64 k ∧ Hid (Below w.heap.size w wr) ∧ w.heap.size ≤ wr.heap.size) (fun iv _ => l.length - (intOf iv).toNat)
  case atStart => exact ⟨0, Nat.zero_le _, rfl, Lib.hid (Below.refl _ _), Nat.le_refl _⟩
  case round =>
    obtain ⟨k, hk, rfl, HB, hz⟩ := hrel
    by_cases hlt : k < l.length
    · obtain ⟨x, hx⟩ : ∃ x, l[k]? = some x := ⟨_, List.getElem?_eq_getElem hlt⟩
      obtain ⟨b1, o1, B1, d1, rfl, hb1, x1, y1, v1, r1⟩ := H1.out k x hx
      obtain ⟨b2, o2, B2, d2, rfl, hb2, x2, y2, v2, r2⟩ := H2.out k x hx
      have hxs := HS.out x (List.mem_of_getElem? hx)
      have HE := Lib.hid (fun W (hW : Below w.heap.size w W) => eqSlot_any hi1 hi2 _ _ x W hxs (r1.below hW hh1) (r2.below hW hh2) (Nat.le_trans hh1 hW.size) (Nat.le_trans hh2 hW.size))
      clear r1 r2
      have x1 := (HB.out.cell (p := ⟨b1, _, none⟩) (show b1 < w.heap.size by omega)).trans x1
      have y1 := (HB.out.cell (p := ⟨b1, _, none⟩) (show b1 < w.heap.size by omega)).trans y1
      have v1 := (HB.out.cell (p := ⟨b1, _, none⟩) (show b1 < w.heap.size by omega)).trans v1
      have x2 := (HB.out.cell (p := ⟨b2, _, none⟩) (show b2 < w.heap.size by omega)).trans x2
      have y2 := (HB.out.cell (p := ⟨b2, _, none⟩) (show b2 < w.heap.size by omega)).trans y2
      have v2 := (HB.out.cell (p := ⟨b2, _, none⟩) (show b2 < w.heap.size by omega)).trans v2
      have g1 : (k : Int) < (l.length : Int) := by omega
      have g2 : 0 ≤ (k : Int) := by omega
      clear hx
      have hD : Below w.heap.size w wr.drew := HB.out.drew
      go_wp2
      go_region_held3 (fun w' => w'.cell? ⟨b1, o1 + k * 3, none⟩ = some (.string x.1) ∧ w'.cell? ⟨b1, o1 + k * 3 + 1, none⟩ = some (.string x.2.1) ∧ w'.cell? ⟨b1, o1 + k * 3 + 2, none⟩ = some (.slice B1 x.2.2.length d1) ∧ w'.cell? ⟨b2, o2 + k * 3, none⟩ = some (.string x.1) ∧ w'.cell? ⟨b2, o2 + k * 3 + 1, none⟩ = some (.string x.2.1) ∧ w'.cell? ⟨b2, o2 + k * 3 + 2, none⟩ = some (.slice B2 x.2.2.length d2)) (go_keep) ((go_at_call 45; refine (HE.out _ hD).mono ?_; rintro e w2 ⟨rfl, hb⟩; have q1 := (hb.cell (p := ⟨b1, o1 + k * 3, none⟩) (show b1 < wr.heap.size by omega)).trans x1; have q2 := (hb.cell (p := ⟨b1, o1 + k * 3 + 1, none⟩) (show b1 < wr.heap.size by omega)).trans y1; have q3 := (hb.cell (p := ⟨b1, o1 + k * 3 + 2, none⟩) (show b1 < wr.heap.size by omega)).trans v1; have q4 := (hb.cell (p := ⟨b2, o2 + k * 3, none⟩) (show b2 < wr.heap.size by omega)).trans x2; have q5 := (hb.cell (p := ⟨b2, o2 + k * 3 + 1, none⟩) (show b2 < wr.heap.size by omega)).trans y2; have q6 := (hb.cell (p := ⟨b2, o2 + k * 3 + 2, none⟩) (show b2 < wr.heap.size by omega)).trans v2))
      have hz2 := hb.size
      have HB2 : Hid (Below w.heap.size w w2) := Lib.hid (hD.trans (hb.mono hz))
      clear hb
      go_wp2
      go_roundw
      case rel => exact ⟨k + 1, by omega, by go_num, HB2, by have : wr.heap.size ≤ w2.heap.size := hz2; omega⟩
      case measure => simp [intOf] <;> omega
    · go_wp2
      go_ret
      exact ⟨rfl, HB.out⟩
def slotSz (x : SlotD) : Nat := x.1.size + x.2.1.size + x.2.2.length
def slotsSz (l : List SlotD) : Nat := l.length + (l.map slotSz).sum
set_option maxRecDepth 100000 in
set_option maxHeartbeats 1600000 in
theorem szSlots_any (hi : Nat) (v : Value) (l : List SlotD) (left : Int) (w : World) (hn : l.length ≤ maxLen) (hs : ∀ x ∈ l, x.1.size ≤ maxLen ∧ x.2.1.size ≤ maxLen ∧ x.2.2.length ≤ maxLen) (h : SlotsR.rd hi w [v] l) (hh : hi ≤ w.heap.size) (h0 : 0 ≤ left) (h1 : left ≤ 1048576) :
    Calls Tryd.prog 27 #[v, .int .i64 left] w (szRes left (slotsSz l) w) := by
  obtain ⟨A, c, rfl, hc, h⟩ := slots_rd h
  have HR := Lib.hid h
  have HS := Lib.hid hs
  clear h hs
  unfold maxLen at hn
  by_cases hbig : left - (l.length : Int) < 0
  · go_enter Tryd.func27, Tryd.ntmps27
    go_wp2
    go_ret
    exact ⟨_, rfl, .inl rfl, Below.refl _ _⟩
  have hge : 0 ≤ left - (l.length : Int) := by omega
  go_enter Tryd.func27, Tryd.ntmps27
  go_wp2
  go_loopw [1, 5] (fun nv iv wr => ∃ (i : Nat) (r : Int), i ≤ l.length ∧ iv = .int .i64 i ∧ nv = .int .i64 r ∧ 0 ≤ r ∧ r ≤ 1048576 ∧ Hid (r = left - (l.length : Int) - (sumTo slotSz l i : Nat)) ∧ Hid (Below w.heap.size w wr) ∧ w.heap.size ≤ wr.heap.size) (fun _ iv _ => l.length - (intOf iv).toNat)
  case atStart => exact ⟨0, _, Nat.zero_le _, rfl, rfl, by omega, by omega, Lib.hid (by simp [sumTo]), Lib.hid (Below.refl _ _), Nat.le_refl _⟩
  case round =>
    obtain ⟨i, r, hi, rfl, rfl, hr0, hr1, HV, HB, hz⟩ := hrel
    by_cases hin : i < l.length
    · obtain ⟨x, hx⟩ : ∃ x, l[i]? = some x := ⟨_, List.getElem?_eq_getElem hin⟩
      obtain ⟨b, off, A', c', rfl, hbl, c0, c1, c2, hrd⟩ := HR.out i x hx
      obtain ⟨s1, s2, s3⟩ := HS.out x (List.mem_of_getElem? hx)
      have HN := Lib.hid (sumTo_next slotSz l i x hx)
      clear hx
      have c0 := (HB.out.cell (p := ⟨b, off + i * 3, none⟩) (show b < w.heap.size by omega)).trans c0
      have c1 := (HB.out.cell (p := ⟨b, off + i * 3 + 1, none⟩) (show b < w.heap.size by omega)).trans c1
      have c2 := (HB.out.cell (p := ⟨b, off + i * 3 + 2, none⟩) (show b < w.heap.size by omega)).trans c2
      have HZ := Lib.hid (szSlot_any _ x r wr (hrd.below HB.out hh) s1 s2 s3 hr0 hr1)
      clear hrd s1 s2 s3
      have g1 : (i : Int) < (l.length : Int) := by omega
      have g2 : 0 ≤ (i : Int) := by omega
      go_wp2_with fail
      refine HZ.out.mono ?_
      rintro e w2 ⟨r2, rfl, hr2, hb2⟩
      have hz2 := hb2.size
      have HB2 : Hid (Below w.heap.size w w2) := Lib.hid (HB.out.trans (hb2.mono (by omega)))
      clear hb2
      rcases hr2 with rfl | ⟨hr2, hr3⟩
      · go_wp2
        go_ret
        exact ⟨_, rfl, .inl rfl, HB2.out⟩
      · have HR2 := Lib.hid hr2
        have hr4 : r2 ≤ 1048576 := by omega
        clear hr2
        go_wp2
        go_roundw
        case rel => exact ⟨i + 1, r2, by omega, by go_num, rfl, hr3, hr4, Lib.hid (by rw [HN.out, HR2.out, HV.out]; unfold slotSz; omega), HB2, by omega⟩
        case measure => simp [intOf] <;> omega
    · obtain rfl : i = l.length := by omega
      go_wp2
      go_ret
      exact ⟨r, rfl, .inr ⟨by rw [HV.out, sumTo_all]; unfold slotsSz; omega, hr0⟩, HB.out⟩
end Go.Proofs.YtpeeagkfhdeagaaDoor
