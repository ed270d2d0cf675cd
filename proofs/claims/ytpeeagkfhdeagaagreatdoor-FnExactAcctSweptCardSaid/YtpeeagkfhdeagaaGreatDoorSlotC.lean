/- The reference's copy of a slice of slots; no conditions. -/
import Derived.Test.YtpeeagkfhdeagaaGreatDoorSlotF
import Derived.Test.YtpeeagkfhdeagaaGreatDoorRingF
set_option linter.unusedVariables false
namespace Go.Proofs.YtpeeagkfhdeagaaGreatDoor
open Go.ChangeShapes Go.WideShapes Go.ChangeAt Go.RowKit

/-- a slot with the slice that its reply lies in -/
abbrev SlotV := SlotD × (Option Addr × Nat)
def sv (x : SlotV) : Value := .slice x.2.1 x.1.2.2.length x.2.2
def sCells (x : SlotV) : List Value := [.string x.1.1, .string x.1.2.1, .slice x.2.1 x.1.2.2.length x.2.2]
/-- the replies' memory: one after the other, none of it the row's -/
structure replies (w : World) (row : Option Nat) (B : Nat) (ps : List SlotV) (p q : Nat → Nat) : Prop where
  own : ∀ j x, ps[j]? = some x → nums .u8 (p j) (q j) w (sv x) x.1.2.2
  ord : ∀ i j, i < j → j < ps.length → q i ≤ p j
  in_ : ∀ j, j < ps.length → B ≤ p j ∧ q j ≤ w.heap.size
  row : ∀ j, j < ps.length → ∀ g, row = some g → g < p j ∨ q j ≤ g
set_option maxRecDepth 100000 in
theorem replies.nil (w : World) (row : Option Nat) (B : Nat) : replies w row B [] (fun _ => 0) (fun _ => 0) := ⟨fun j x h => by simp at h, fun i j _ h => by simp at h, fun j h => by simp at h, fun j h => by simp at h⟩
set_option maxRecDepth 100000 in
theorem replies.below {w w' : World} {row : Option Nat} {B : Nat} {ps : List SlotV} {p q : Nat → Nat} (h : replies w row B ps p q) (hb : Below w.heap.size w w') : replies w' row B ps p q :=
  ⟨fun j x hx => (h.own j x hx).below hb (h.in_ j (List.getElem?_eq_some_iff.1 hx).1).2, h.ord, fun j hj => ⟨(h.in_ j hj).1, Nat.le_trans (h.in_ j hj).2 hb.size⟩, h.row⟩
set_option maxRecDepth 100000 in
theorem replies.grown {w w' : World} {row row' : Option Nat} {B : Nat} {ps : List SlotV} {p q : Nat → Nat} (h : replies w row B ps p q) (hg : w.grownBy w' row) (hr : row' = row ∨ ∃ g, row' = some g ∧ w.heap.size ≤ g) : replies w' row' B ps p q := by
  refine ⟨fun j x hx => ?_, h.ord, fun j hj => ⟨(h.in_ j hj).1, Nat.le_trans (h.in_ j hj).2 hg.size⟩, fun j hj g hg' => ?_⟩
  · have hj := (List.getElem?_eq_some_iff.1 hx).1
    refine (h.own j x hx).apart hg (h.in_ j hj).2 fun b hb e => ?_
    have h1 := (h.own j x hx).blk b hb
    have h2 := h.row j hj b e
    omega
  · rcases hr with hr | ⟨g', hr, hg2⟩
    · exact h.row j hj g (by rw [← hr]; exact hg')
    · rw [hr] at hg'
      cases hg'
      have := (h.in_ j hj).2
      exact .inr (by omega)
set_option maxRecDepth 100000 in
theorem replies.snoc {w : World} {row : Option Nat} {B P Q : Nat} {ps : List SlotV} {p q : Nat → Nat} {x : SlotV} (h : replies w row B ps p q) (hx : nums .u8 P Q w (sv x) x.1.2.2) (h1 : ∀ j, j < ps.length → q j ≤ P) (h2 : B ≤ P) (h3 : Q ≤ w.heap.size) (h4 : ∀ g, row = some g → g < P ∨ Q ≤ g) :
    replies w row B (ps ++ [x]) (fun j => if j = ps.length then P else p j) (fun j => if j = ps.length then Q else q j) := by
  have hlen : (ps ++ [x]).length = ps.length + 1 := by simp
  refine ⟨fun j y hy => ?_, fun i j hij hj => ?_, fun j hj => ?_, fun j hj g hg => ?_⟩
  · by_cases e : j = ps.length
    · subst e
      simp only [if_true]
      have : y = x := by simpa using hy.symm
      subst this
      exact hx
    · have hj : j < ps.length := by have := (List.getElem?_eq_some_iff.1 hy).1; rw [hlen] at this; omega
      rw [List.getElem?_append_left hj] at hy
      show nums .u8 (if j = ps.length then P else p j) (if j = ps.length then Q else q j) w (sv y) y.1.2.2
      rw [if_neg e, if_neg e]
      exact h.own j y hy
  · rw [hlen] at hj
    show (if i = ps.length then Q else q i) ≤ (if j = ps.length then P else p j)
    rw [if_neg (by omega)]
    by_cases e : j = ps.length
    · rw [if_pos e]; exact h1 i (by omega)
    · rw [if_neg e]; exact h.ord i j hij (by omega)
  · rw [hlen] at hj
    show B ≤ (if j = ps.length then P else p j) ∧ (if j = ps.length then Q else q j) ≤ w.heap.size
    by_cases e : j = ps.length
    · rw [if_pos e, if_pos e]; exact ⟨h2, h3⟩
    · rw [if_neg e, if_neg e]; exact h.in_ j (by omega)
  · rw [hlen] at hj
    show g < (if j = ps.length then P else p j) ∨ (if j = ps.length then Q else q j) ≤ g
    by_cases e : j = ps.length
    · rw [if_pos e, if_pos e]; exact h4 g hg
    · rw [if_neg e, if_neg e]; exact h.row j (by omega) g hg
set_option maxRecDepth 100000 in
/-- such a row is slots of one's own -/
theorem replies.slots {w : World} {T : TypeId} {B : Nat} {v : Value} {ps : List SlotV} {p q : Nat → Nat} (ho : owE T 3 sCells B w v ps) (h : replies w v.ownBlock B ps p q) : SlotsR.mine B w.heap.size w [v] (ps.map (·.1)) := by
  have hl : (ps.map (·.1)).length = ps.length := List.length_map ..
  rcases ho.filled (fun _ => rfl) ((⟨#[]⟩, ⟨#[]⟩, []), (none, 0)) with ⟨rfl, A, c, rfl⟩ | ⟨b, c, rfl, hc, h1, h2, hf⟩
  · exact ⟨[], ⟨A, c, rfl, Nat.zero_le _, .inl ⟨rfl, rfl⟩⟩, List.nodup_nil, by simp⟩
  · cases hps : ps with
    | nil => exact ⟨[], ⟨_, c, rfl, Nat.zero_le _, .inl ⟨rfl, rfl⟩⟩, List.nodup_nil, by simp⟩
    | cons y ys =>
      rw [← hps]
      have hne : 0 < ps.length := by rw [hps]; simp
      have hob : (Value.slice (some ⟨b, 0, none⟩) ps.length c).ownBlock = some b := rfl
      refine rows_mine2 (R := SlotR) (p := p) (q := q) hl.symm hc h1 h2 h.ord (fun j hj => h.row j hj b hob) (fun j hj => h.in_ j hj) hf fun j x hx => ?_
      rw [List.getElem?_map] at hx
      obtain ⟨z, hz, rfl⟩ := Option.map_eq_some_iff.1 hx
      have hg : ps.getD j ((⟨#[]⟩, ⟨#[]⟩, []), (none, 0)) = z := by rw [List.getD_eq_getElem?_getD, hz]; rfl
      rw [hg]
      exact slot_mine_of (h.own j z hz)
set_option maxRecDepth 100000 in
theorem sCells_one (x : SlotV) : ∀ u ∈ sCells x, u.oneCell' = true := by
  intro u hu
  simp only [sCells, List.mem_cons, List.not_mem_nil, or_false] at hu
  rcases hu with rfl | rfl | rfl <;> rfl
/-- slots of one's own, in a row that may be appended to -/
def slotsOwn (l : List SlotD) (w : World) (e : Ending) (w' : World) : Prop := ∃ (A : Option Addr) (c : Nat) (ps : List SlotV) (p q : Nat → Nat), e = .returned (.slice A ps.length c) ∧ ps.map (·.1) = l ∧ owE 82 3 sCells w.heap.size w' (.slice A ps.length c) ps ∧ replies w' (Value.slice A ps.length c).ownBlock w.heap.size ps p q ∧ Below w.heap.size w w'
def slotsOne (l : List SlotD) (w : World) (e : Ending) (w' : World) : Prop := ∃ u, e = .returned u ∧ SlotsR.mine w.heap.size w'.heap.size w' [u] l ∧ Below w.heap.size w w'
set_option maxRecDepth 100000 in
set_option maxHeartbeats 3200000 in
theorem specCopySlotsO_any (hi : Nat) (v : Value) (l : List SlotD) (w : World) (hn : l.length ≤ 2000000) (hs : ∀ x ∈ l, x.2.2.length ≤ 1048576) (h : SlotsR.rd hi w [v] l) (hh : hi ≤ w.heap.size) :
    Calls Tryz.prog 66 #[v] w (slotsOwn l w) := by
  obtain ⟨A, c, rfl, hc, h⟩ := slots_rd h
  have HR := Lib.hid h
  have HS := Lib.hid hs
  clear h hs
  go_enter Tryz.func66, Tryz.ntmps66
  go_upto_region 2 with fail
  obtain ⟨W2, hW2⟩ : ∃ W2, W2 = w.alloc (.cells #[] 82) := ⟨_, rfl⟩
  have HO2 : Hid (owE 82 3 sCells w.heap.size W2 (.slice (some ⟨w.heap.size, 0, none⟩) 0 0) []) := Lib.hid (by rw [hW2]; exact owE_empty _ _ _ _ _ (Nat.le_refl _))
  have HB2 : Hid (Below w.heap.size w W2) := Lib.hid (by rw [hW2]; exact (Below.refl _ _).alloc (Nat.le_refl _) _)
  have z2 : w.heap.size < W2.heap.size := by rw [hW2]; simp
  rw [← hW2]
  clear hW2
  go_wp2
  go_loopw [3, 9] (fun ov iv wr => ∃ (i : Nat) (A' : Option Addr) (c' : Nat) (ps : List SlotV) (p q : Nat → Nat), i ≤ l.length ∧ iv = .int .i64 i ∧ ov = .slice A' ps.length c' ∧ ps.length ≤ i ∧ Hid (ps.map (·.1) = l.take i) ∧ Hid (owE 82 3 sCells w.heap.size wr (.slice A' ps.length c') ps) ∧ Hid (replies wr (Value.slice A' ps.length c').ownBlock w.heap.size ps p q) ∧ Hid (Below w.heap.size w wr) ∧ w.heap.size < wr.heap.size) (fun _ iv _ => l.length - (intOf iv).toNat)
  case atStart => exact ⟨0, _, _, [], _, _, Nat.zero_le _, rfl, rfl, Nat.zero_le _, Lib.hid rfl, HO2, Lib.hid (replies.nil _ _ _), HB2, z2⟩
  case round =>
    obtain ⟨i, A', c', ps, p, q, hi', rfl, rfl, hsl, HI, HO, HRP, HB, hz⟩ := hrel
    by_cases hin : i < l.length
    · obtain ⟨x, hx⟩ : ∃ x, l[i]? = some x := ⟨_, List.getElem?_eq_getElem hin⟩
      obtain ⟨b, off, A1, c1, rfl, hbl, d0, d1, d2, hrd⟩ := HR.out i x hx
      have hxs := HS.out x (List.mem_of_getElem? hx)
      have d0 := (HB.out.cell (p := ⟨b, off + i * 3, none⟩) (show b < w.heap.size by omega)).trans d0
      have d1 := (HB.out.cell (p := ⟨b, off + i * 3 + 1, none⟩) (show b < w.heap.size by omega)).trans d1
      have d2 := (HB.out.cell (p := ⟨b, off + i * 3 + 2, none⟩) (show b < w.heap.size by omega)).trans d2
      have HRD := Lib.hid (hrd.below HB.out hh)
      clear hrd
      have g1 : (i : Int) < (l.length : Int) := by omega
      have g2 : 0 ≤ (i : Int) := by omega
      have HIN : Hid (l.take (i + 1) = l.take i ++ [x]) := Lib.hid (by
        obtain ⟨h1, h2⟩ := List.getElem?_eq_some_iff.1 hx
        rw [List.take_succ_eq_append_getElem h1, h2])
      clear hx
      go_upto_region 5 with fail
      obtain ⟨W3, hW3⟩ : ∃ W3, W3 = wr.alloc (.cells #[.string x.1, .string x.2.1, .slice A1 x.2.2.length c1] 82) := ⟨_, rfl⟩
      have b3 : bk W3 wr.heap.size 82 [.string x.1, .string x.2.1, .slice A1 x.2.2.length c1] := by rw [hW3]; exact bk.new wr _ _
      have hb3 : Below wr.heap.size wr W3 := by rw [hW3]; exact (Below.refl _ _).alloc (Nat.le_refl _) _
      rw [← hW3]
      clear hW3
      have z3 := b3.lt
      have HRD3 := Lib.hid (HRD.out.below hb3 (by omega))
      have HB3 := Lib.hid hb3
      have HX3 := Lib.hid b3
      obtain ⟨q0, q1, q2⟩ := b3.cells3
      clear HRD d0 d1 d2 hb3 b3
      go_wp2_with (at_builtin; refine app_all (W3.alloc (.cells #[] 5)) rfl _ _ 69 rfl W3.heap.size 5 .u8 1 Tryz.underlying69 infoU8 _ [] rfl (ow_made _ _ W3) hi _ x.2.2 (by rfl) (HRD3.out.below ((Below.refl _ _).alloc (Nat.le_refl _) _) (by omega)) (by unfold maxLen; simp; omega) (by simp; omega) (by simp) ?_)
      intro v1 w5 hv1 hg1 hb5
      have hn1 := hv1.nums
      have z5 : W3.heap.size + 1 ≤ w5.heap.size := by have := hg1.size; simpa using this
      obtain ⟨AU, cU, rfl, -⟩ := hn1.form
      have hb35 : Below W3.heap.size W3 w5 := ((Below.refl _ _).alloc (Nat.le_refl _) _).trans hb5
      have hx5 := HX3.out.below hb35 z3
      have HX5 := Lib.hid hx5
      have HU := Lib.hid hn1
      have HB5 : Hid (Below wr.heap.size wr w5) := Lib.hid (HB3.out.trans (hb35.mono (by omega)))
      clear hv1 hg1 hb5 hn1 hb35 q0 q1 q2
      obtain ⟨q0, q1, q2⟩ := hx5.cells3
      have f2 := hx5.frozen 2
      clear hx5
      go_upto_region 6 with fail
      obtain ⟨W6, hW6⟩ : ∃ W6, W6 = w5.setCell ⟨wr.heap.size, 2, none⟩ (.slice AU x.2.2.length cU) := ⟨_, rfl⟩
      have hx6 := HX5.out.set 2 (.slice AU x.2.2.length cU)
      have ht6 := (Turned.refl wr.heap.size (wr.heap.size + 1) w5).set (b := wr.heap.size) 2 (.slice AU x.2.2.length cU) (by omega) (by omega)
      have hb6 := HB5.out.setCell (p := ⟨wr.heap.size, 2, none⟩) (Nat.le_refl _) (.slice AU x.2.2.length cU)
      rw [← hW6] at hx6 ht6 hb6 ⊢
      clear hW6
      have z6 := ht6.size
      have HU6 := Lib.hid (HU.out.turned ht6 (.inr (by omega)) (by omega))
      have HO6 := Lib.hid (HO.out.below hb6 (Nat.le_refl _))
      have HAP : Hid (∀ g, (Value.slice A' ps.length c').ownBlock = some g → w.heap.size ≤ g ∧ g < wr.heap.size) := Lib.hid HO.out.lt
      have HRP6 := Lib.hid ((HRP.out.below hb6).snoc (x := (x, (AU, cU))) HU6.out (fun j hj => by have := (HRP.out.in_ j hj).2; omega) (by omega) z6 (fun g hg => .inl (by have := HAP.out g hg; omega)))
      have HB6 : Hid (Below w.heap.size w W6) := Lib.hid (HB.out.trans (hb6.mono (by omega)))
      clear hb6 ht6 HO HRP HX5 HX3 HU q0 q1 q2 f2
      obtain ⟨q0, q1, q2⟩ := hx6.cells3
      clear hx6
      go_wp2_with (at_builtin; refine app_elem sCells 3 (fun _ => rfl) (by decide) sCells_one 33 82 #[.string ⟨#[]⟩, .string ⟨#[]⟩, .slice none 0 0] 56 Tryz.underlying33 infoSlot rfl _ _ rfl (by rfl) w.heap.size W6 _ ps ((x, (AU, cU)) : SlotV) _ _ (by rfl) (by rfl) (by rfl) (by simp) HO6.out (by unfold maxLen; omega) (by omega) (by first | omega | (simp; omega)) ?_)
      intro A9 c9 w9 hown9 hc9 hg9 hlies9
      have z9 : W6.heap.size + 1 ≤ w9.heap.size := by have := hg9.size; simpa using this
      have HB9 : Hid (Below w.heap.size w w9) := Lib.hid ((HB6.out.alloc (by omega) _).grown hg9 (by simp; omega) (fun g hg' => (HAP.out g hg').1))
      have HRP9 := Lib.hid ((HRP6.out.below ((Below.refl _ _).alloc (Nat.le_refl _) (.cells #[.string x.1, .string x.2.1, .slice AU x.2.2.length cU] 82))).grown hg9 (row' := (Value.slice A9 (ps.length + 1) c9).ownBlock) (hlies9.imp id (fun e => ⟨_, e, by simp⟩)))
      have HO9 := Lib.hid hown9
      clear hown9 hg9 hlies9
      go_wp2
      go_roundw
      case rel => exact ⟨i + 1, A9, c9, ps ++ [(x, (AU, cU))], _, _, by omega, by go_num, by simp, by simp; omega, Lib.hid (by rw [HIN.out, ← HI.out]; simp), Lib.hid (by simpa using HO9.out), Lib.hid (by have h9 := HRP9.out; rw [show (Value.slice A9 (ps ++ [((x, (AU, cU)) : SlotV)]).length c9).ownBlock = (Value.slice A9 (ps.length + 1) c9).ownBlock from by simp]; exact h9), HB9, by omega⟩
      case measure => simp [intOf] <;> omega
    · obtain rfl : i = l.length := by omega
      have HV : Hid (ps.map (·.1) = l) := Lib.hid (by have := HI.out; rwa [List.take_length] at this)
      go_wp2
      refine bodyPost_ret (v := .slice A' ps.length c') (by simp [results, Tryz.results66, go_sem]) rfl ?_
      exact ⟨A', c', ps, p, q, rfl, HV.out, HO.out, HRP.out, HB.out⟩
set_option maxRecDepth 100000 in
theorem specCopySlots_any (hi : Nat) (v : Value) (l : List SlotD) (w : World) (hn : l.length ≤ 2000000) (hs : ∀ x ∈ l, x.2.2.length ≤ 1048576) (h : SlotsR.rd hi w [v] l) (hh : hi ≤ w.heap.size) :
    Calls Tryz.prog 66 #[v] w (slotsOne l w) := by
  refine (specCopySlotsO_any hi v l w hn hs h hh).mono ?_
  rintro e w' ⟨A, c, ps, p, q, rfl, hm, ho, hr, hb⟩
  have := replies.slots ho hr
  rw [hm] at this
  exact ⟨_, rfl, this, hb⟩
end Go.Proofs.YtpeeagkfhdeagaaGreatDoor
