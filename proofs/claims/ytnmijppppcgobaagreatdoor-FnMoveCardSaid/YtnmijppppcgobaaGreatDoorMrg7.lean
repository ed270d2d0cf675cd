/- slices.Grow, slices.Concat, slices.Clone over slots; slotsCopy of the program; no conditions. -/
import Derived.Test.YtnmijppppcgobaaGreatDoorMrg6
import Derived.Test.YtnmijppppcgobaaGreatDoorMrg3
import Derived.Lib.SliceRun
import Derived.Lib.AppendZeros
import Derived.Test.YtnmijppppcgobaaGreatDoorMrg4
import Derived.Deep.RegionLaw
import Derived.Deep.DeepCutAuto
import Derived.Deep.RegionHeld3
import Derived.Test.YtnmijppppcgobaaGreatDoorMrg5
import Derived.Test.YtnmijppppcgobaaGreatDoorShelf
import Derived.ArgAppend
set_option linter.unusedVariables false
namespace Go.Proofs.YtnmijppppcgobaaGreatDoor
open Go.ChangeShapes Go.WideShapes Go.ChangeAt Go.RowKit

/-- where slots are read, each with the slice that its reply lies in -/
def seenAt (hi : Nat) (w : World) (A : Option Addr) (ps : List SlotV) : Prop := ∀ (j : Nat) (z : SlotV), ps[j]? = some z → ∃ b off, A = some ⟨b, off, none⟩ ∧ b < hi ∧ atL w b (off + j * 3) (sCells z) ∧ rd .u8 hi w (sv z) z.1.2.2
set_option maxRecDepth 100000 in
theorem seenAt.below {hi : Nat} {w w' : World} {A : Option Addr} {ps : List SlotV} (h : seenAt hi w A ps) (hb : Below w.heap.size w w') (hh : hi ≤ w.heap.size) : seenAt hi w' A ps := fun j z hz => by
  obtain ⟨b, off, e, hb', ha, hr⟩ := h j z hz
  exact ⟨b, off, e, hb', fun t u hu => (hb.cell (p := ⟨b, _, none⟩) (show b < w.heap.size by omega)).trans (ha t u hu), hr.below hb hh⟩
set_option maxRecDepth 100000 in
theorem slots_seen {hi : Nat} {w : World} {v : Value} {l : List SlotD} (h : SlotsR.rd hi w [v] l) : ∃ A c ps, v = .slice A l.length c ∧ ps.map (·.1) = l ∧ seenAt hi w A ps := by
  obtain ⟨A, c, rfl, hc, h⟩ := slots_rd h
  have hall : ∀ j : Nat, ∃ a : Option Addr × Nat, ∀ x, l[j]? = some x → ∃ b off, A = some ⟨b, off, none⟩ ∧ b < hi ∧ atL w b (off + j * 3) (sCells (x, a)) ∧ rd .u8 hi w (sv (x, a)) x.2.2 := fun j => by
    cases hx : l[j]? with
    | none => exact ⟨(none, 0), fun x hx' => by cases hx'⟩
    | some y =>
      obtain ⟨b, off, A', c', e, hb, q0, q1, q2, hr⟩ := h j y hx
      refine ⟨(A', c'), fun x hx' => ?_⟩
      cases hx'
      refine ⟨b, off, e, hb, fun t u hu => ?_, hr⟩
      match t, hu with
      | 0, hu => cases hu; exact q0
      | 1, hu => cases hu; exact q1
      | 2, hu => cases hu; exact q2
      | n + 3, hu => simp [sCells] at hu
  obtain ⟨f, hf⟩ := Classical.skolem.1 hall
  refine ⟨A, c, (List.range l.length).map fun j => ((l.getD j (⟨#[]⟩, ⟨#[]⟩, []), f j) : SlotV), rfl, ?_, fun j z hz => ?_⟩
  · rw [List.map_map]
    refine List.ext_getElem (by simp) fun j h1 h2 => ?_
    simp only [List.getElem_map, List.getElem_range, Function.comp]
    rw [List.getD_eq_getElem?_getD, List.getElem?_eq_getElem h2]; rfl
  · rw [List.getElem?_map] at hz
    obtain ⟨k, hk, rfl⟩ := Option.map_eq_some_iff.1 hz
    obtain ⟨h1, h2⟩ := List.getElem?_eq_some_iff.1 hk
    rw [List.length_range] at h1
    rw [List.getElem_range] at h2
    subst h2
    have hg : l.getD j (⟨#[]⟩, ⟨#[]⟩, []) = l[j] := by rw [List.getD_eq_getElem?_getD, List.getElem?_eq_getElem h1]; rfl
    rw [hg]
    exact hf j _ (List.getElem?_eq_getElem h1)
set_option maxRecDepth 100000 in
theorem nil_slots (A : Option Addr) (n c n' c' : Nat) (w : World) : (binOp .eql 27 (.slice A n c) (.slice none n' c')).run Tryz.prog w = .ok (.bool A.isNone) w := Lib.run_eql_slice_nil w _ _ A n c n' c' Tryz.underlying27
/-- a row of slots of the call's own, the replies lie where they lay -/
def slotsHeld (ps : List SlotV) (w : World) (e : Ending) (w' : World) : Prop := ∃ A c, e = .returned (.slice A ps.length c) ∧ owE 176 3 sCells w.heap.size w' (.slice A ps.length c) ps ∧ Below w.heap.size w w'
set_option maxRecDepth 100000 in
set_option maxHeartbeats 1600000 in
theorem cloneSlots_any (hi : Nat) (A : Option Addr) (c : Nat) (ps : List SlotV) (w : World) (hn : ps.length ≤ 1048577) (h : seenAt hi w A ps) (hh : hi ≤ w.heap.size) :
    Calls Tryz.prog 202 #[.slice A ps.length c] w (slotsHeld ps w) := by
  have HS : Hid (∀ V, Below w.heap.size w V → ∀ (j : Nat) (y : SlotV), ps[j]? = some y → ∃ b off, A = some ⟨b, off, none⟩ ∧ atL V b (off + j * 3) (sCells y)) := Lib.hid fun V hV j y hy => by
    obtain ⟨b, off, e, hb, ha, -⟩ := h.below hV hh j y hy
    exact ⟨b, off, e, ha⟩
  have q33 := nil_slots
  cases A with
  | none =>
    obtain rfl : ps = [] := by
      cases ps with
      | nil => rfl
      | cons y l => obtain ⟨b, off, e, -⟩ := h 0 y rfl; cases e
    clear h
    go_enter Tryz.func202, Tryz.ntmps202
    go_wp2
    go_ret
    exact ⟨none, 0, rfl, owE_none _ _ _ _ _, Below.refl _ _⟩
  | some ad =>
    clear h
    go_enter Tryz.func202, Tryz.ntmps202
    go_wp2_with (at_builtin; refine app_rows sCells 3 (fun _ => rfl) (by decide) sCells_one 27 176 #[.string ⟨#[]⟩, .string ⟨#[]⟩, .slice none 0 0] 56 Tryz.underlying27 infoSlot rfl _ _ rfl rfl w.heap.size (w.alloc (.cells #[] 176)) _ [] ps (some ad) c (by rfl) (by rfl) (owE_empty _ _ _ _ w (Nat.le_refl _)) (HS.out _ ((Below.refl _ _).alloc (Nat.le_refl _) _)) (by unfold maxLen; simp; omega) (by simp; omega) (by simp) ?_)
    intro A1 c1 w1 ho1 hg1 hb1
    have HB1 : Hid (Below w.heap.size w w1) := Lib.hid (((Below.refl w.heap.size w).alloc (Nat.le_refl _) _).trans hb1)
    have HO : Hid (owE 176 3 sCells w.heap.size w1 (.slice A1 ps.length c1) ps) := Lib.hid (by simpa using ho1)
    clear ho1 hg1 hb1
    go_wp2
    go_ret
    exact ⟨A1, c1, by simp, HO.out, HB1.out⟩
end Go.Proofs.YtnmijppppcgobaaGreatDoor
set_option linter.unusedVariables false
namespace Go.Proofs.YtnmijppppcgobaaGreatDoor
open Go.ChangeShapes Go.WideShapes Go.ChangeAt Go.RowKit

/-- all n elements stand; the first i have replies of their own behind the row, the others are read -/
structure copying (w : World) (hi g n i : Nat) (ps : List SlotV) (E : Nat → List Value) (m : Nat → Nat) : Prop where
  all : filled w g 0 3 n n E
  steps : Steps m i
  low : g < m 0
  top : m i ≤ w.heap.size
  done : ∀ j x, j < i → ps[j]? = some x → SlotR.mine (m j) (m (j + 1)) w (E j) x.1
  rest : ∀ j x, i ≤ j → ps[j]? = some x → E j = sCells x ∧ rd .u8 hi w (sv x) x.1.2.2
set_option maxRecDepth 100000 in
theorem filled.setCell {w : World} {b off k n i t : Nat} {E : Nat → List Value} {u : Value} (h : filled w b off k n n E) (hE : ∀ j, (E j).length = k) (hi : i < n) (ht : t < k) : filled (w.setCell ⟨b, off + i * k + t, none⟩ u) b off k n n (fun j => if j = i then (E i).set t u else E j) := by
  refine ⟨h.room.set _ _, fun j hj => ?_⟩
  by_cases e : j = i
  · subst e
    rw [if_pos rfl]
    exact setL_cell (h.at_ j hj) (by rw [hE j]; exact ht) u
  · rw [if_neg e]
    refine (h.at_ j hj).set_far ?_ u
    rw [hE j]
    rcases Nat.lt_or_gt_of_ne e with h1 | h1
    · have := mul_step (k := k) h1; omega
    · have := mul_step (k := k) h1; omega
set_option maxRecDepth 100000 in
theorem copying.next {w w2 : World} {hi g n i : Nat} {ps : List SlotV} {E : Nat → List Value} {m : Nat → Nat} {x : SlotV} {u : Value} (h : copying w hi g n i ps E m) (hb : Below w.heap.size w w2) (hx : ps[i]? = some x) (hin : i < n) (hh : hi ≤ g) (hg : g < w.heap.size) (hE : ∀ j, (E j).length = 3)
    (hu : nums .u8 w.heap.size w2.heap.size w2 u x.1.2.2) :
    copying (w2.setCell ⟨g, 0 + i * 3 + 2, none⟩ u) hi g n (i + 1) ps (fun j => if j = i then (E i).set 2 u else E j) (fun j => if j = i + 1 then w2.heap.size else m j) := by
  have hf := (h.all.keep (hb.block g hg)).setCell hE hin (t := 2) (by omega) (u := u)
  have hsz := hb.size
  have ht : Turned g (g + 1) w2 (w2.setCell ⟨g, 0 + i * 3 + 2, none⟩ u) := (Turned.refl g (g + 1) w2).set (b := g) _ u (Nat.le_refl _) (Nat.lt_succ_self _)
  have hz := ht.size
  have hlow := h.low
  have htop := h.top
  refine ⟨hf, h.steps.put (by omega), by show g < (if 0 = i + 1 then w2.heap.size else m 0); rw [if_neg (by omega)]; exact hlow, by show (if i + 1 = i + 1 then w2.heap.size else m (i + 1)) ≤ _; rw [if_pos rfl]; exact hz, fun j y hj hy => ?_, fun j y hj hy => ?_⟩
  · by_cases e : j = i
    · subst e
      have hxy : y = x := Option.some.inj (hy.symm.trans hx)
      subst hxy
      show SlotR.mine (if j = j + 1 then w2.heap.size else m j) (if j + 1 = j + 1 then w2.heap.size else m (j + 1)) _ (if j = j then _ else E j) y.1
      rw [if_neg (by omega), if_pos rfl, if_pos rfl, (h.rest j y (Nat.le_refl _) hy).1]
      exact ((slot_mine_of (x := y.1) hu).turned ht (.inr (by have := h.steps.le (Nat.zero_le j) (Nat.le_refl _); omega)) (Nat.le_refl _)).mono (by omega) (Nat.le_refl _)
    · have hji : j < i := by omega
      show SlotR.mine (if j = i + 1 then w2.heap.size else m j) (if j + 1 = i + 1 then w2.heap.size else m (j + 1)) _ (if j = i then _ else E j) y.1
      rw [if_neg e, if_neg (by omega), if_neg (by omega)]
      have hm0 := h.steps.le (Nat.zero_le j) (by omega)
      have hm1 := h.steps.le (show j + 1 ≤ i by omega) (Nat.le_refl _)
      exact ((h.done j y hji hy).below hb (by omega)).turned ht (.inr (by omega)) (by omega)
  · show (if j = i then _ else E j) = sCells y ∧ _
    rw [if_neg (by omega)]
    obtain ⟨e1, e2⟩ := h.rest j y (by omega) hy
    refine ⟨e1, ?_⟩
    have hb1 : Below g w2 (w2.setCell ⟨g, 0 + i * 3 + 2, none⟩ u) := (Below.refl g w2).setCell (p := ⟨g, _, none⟩) (Nat.le_refl _) u
    exact (e2.below hb (by omega)).below hb1 hh
set_option maxRecDepth 100000 in
set_option maxHeartbeats 3200000 in
theorem slotsCopy_any (hi : Nat) (A : Option Addr) (c : Nat) (ps : List SlotV) (w : World) (hn : ps.length ≤ 1048577) (hs : ∀ x ∈ ps, x.1.2.2.length ≤ 1048576) (h : seenAt hi w A ps) (hh : hi ≤ w.heap.size) :
    Calls Tryz.prog 135 #[.slice A ps.length c] w (slotsOne (ps.map (·.1)) w) := by
  have HS := Lib.hid hs
  have HCL := Lib.hid (cloneSlots_any hi A c ps w hn h hh)
  have HSE := Lib.hid (fun V (hV : Below w.heap.size w V) => h.below hV hh)
  have hn2 : (ps.map (·.1)).length = ps.length := List.length_map ..
  clear hs h
  go_enter Tryz.func135, Tryz.ntmps135
  go_wp2_with fail
  refine HCL.out.mono ?_
  rintro e w1 ⟨A1, c1, rfl, ho, hb1⟩
  have HB1 := Lib.hid hb1
  have z1 := hb1.size
  rcases ho.filled (fun _ => rfl) ((⟨#[]⟩, ⟨#[]⟩, []), (none, 0)) with ⟨rfl, A2, c2, hv⟩ | ⟨g, c2, hv, hc, h1, h2, hf⟩
  · have HV := Lib.hid hv
    clear ho hb1 HCL hv
    go_wp2
    go_loopw [9] (fun iv wr => iv = .int .i64 0 ∧ w1 = wr) (fun _ _ => 0)
    case atStart => exact ⟨rfl, rfl⟩
    case round =>
      obtain ⟨rfl, rfl⟩ := hrel
      go_wp2
      go_ret
      exact ⟨_, rfl, ⟨[], ⟨_, _, rfl, Nat.zero_le _, .inl ⟨rfl, rfl⟩⟩, List.nodup_nil, by simp⟩, HB1.out⟩
  simp only [Value.slice.injEq, true_and] at hv
  obtain ⟨rfl, rfl⟩ := hv
  have HC0 : Hid (copying w1 hi g ps.length 0 ps (fun j => sCells (ps.getD j ((⟨#[]⟩, ⟨#[]⟩, []), (none, 0)))) (fun _ => w1.heap.size)) := Lib.hid (by
    refine ⟨hf, ⟨fun j hj => absurd hj (by omega)⟩, h2, Nat.le_refl _, fun j x hj => absurd hj (by omega), fun j x _ hx => ?_⟩
    have hg : ps.getD j ((⟨#[]⟩, ⟨#[]⟩, []), (none, 0)) = x := by rw [List.getD_eq_getElem?_getD, hx]; rfl
    obtain ⟨b, off, -, -, -, hr⟩ := HSE.out w1 hb1 j x hx
    exact ⟨congrArg sCells hg, hr⟩)
  clear ho hb1 HCL hf
  go_wp2
  go_loopw [9] (fun iv wr => ∃ (i : Nat) (E : Nat → List Value) (m : Nat → Nat), i ≤ ps.length ∧ iv = .int .i64 i ∧ Hid (copying wr hi g ps.length i ps E m) ∧ Hid (∀ j, (E j).length = 3) ∧ Hid (Below w.heap.size w wr) ∧ g < wr.heap.size) (fun iv _ => ps.length - (intOf iv).toNat)
  case atStart => exact ⟨0, _, _, Nat.zero_le _, rfl, HC0, Lib.hid (fun _ => rfl), HB1, h2⟩
  case round =>
    obtain ⟨i, E, m, hi', rfl, HC, HE, HB, hz⟩ := hrel
    by_cases hin : i < ps.length
    · obtain ⟨x, hx⟩ : ∃ x, ps[i]? = some x := ⟨_, List.getElem?_eq_getElem hin⟩
      obtain ⟨he, hr⟩ := HC.out.rest i x (Nat.le_refl _) hx
      have hat := HC.out.all.at_ i hin
      rw [he, Nat.zero_add] at hat
      have d2 : wr.cell? ⟨g, i * 3 + 2, none⟩ = some (.slice x.2.1 x.1.2.2.length x.2.2) := hat 2 _ rfl
      have hxs := HS.out x (List.mem_of_getElem? hx)
      have HX := Lib.hid hx
      have HR := Lib.hid hr
      have g1 : (i : Int) < (ps.length : Int) := by omega
      have g2 : 0 ≤ (i : Int) := by omega
      have HBC := Lib.hid (bytesClone_any hi _ x.1.2.2 wr hxs hr (by omega))
      clear hx hr hat he
      obtain ⟨AX, cX⟩ : Option Addr × Nat := x.2
      go_wp2_with fail
      refine HBC.out.mono ?_
      rintro e w2 ⟨u, rfl, hu, hb2⟩
      obtain ⟨AU, cU, rfl, -⟩ := hu.form
      have HN := Lib.hid (HC.out.next hb2 HX.out hin (by omega) hz HE.out hu)
      obtain ⟨⟨u2, e2⟩, f2⟩ := (HC.out.all.keep (hb2.block _ hz)).cells hin 2 (by omega)
      simp only [Nat.zero_add] at e2 f2
      rw [Nat.zero_add] at HN
      have HB2 : Hid (Below w.heap.size w w2) := Lib.hid (HB.out.trans (hb2.mono (by omega)))
      have z2 := hb2.size
      have HE2 : Hid (∀ j, ((fun j => if j = i then (E i).set 2 (.slice AU x.1.2.2.length cU) else E j) j).length = 3) := Lib.hid fun j => by
        show (if j = i then _ else E j).length = 3
        split
        · rw [List.length_set]; exact HE.out i
        · exact HE.out j
      clear hb2 hu d2 HBC
      go_wp2
      go_roundw
      case rel => exact ⟨i + 1, _, _, by omega, by go_num, HN, HE2, Lib.hid (HB2.out.setCell (p := ⟨g, i * 3 + 2, none⟩) h1 _), by simp; omega⟩
      case measure => simp [intOf] <;> omega
    · obtain rfl : i = ps.length := by omega
      go_wp2
      go_ret
      refine ⟨_, rfl, ?_, HB.out⟩
      exact rows_mine (R := SlotR) (m := m) hn2.symm hc h1 HC.out.low HC.out.steps HC.out.top HC.out.all fun j x hx => by
        rw [List.getElem?_map] at hx
        obtain ⟨z, hz', rfl⟩ := Option.map_eq_some_iff.1 hx
        exact HC.out.done j z (List.getElem?_eq_some_iff.1 hz').1 hz'
end Go.Proofs.YtnmijppppcgobaaGreatDoor
set_option linter.unusedVariables false
namespace Go.Proofs.YtnmijppppcgobaaGreatDoor
open Go.ChangeShapes Go.WideShapes Go.ChangeAt Go.RowKit

set_option maxRecDepth 100000 in
theorem rows_cells {α : Type} {W : World} {k : Nat} {enc : α → List Value} (hk : ∀ x, (enc x).length = k) (hk0 : 0 < k) (m : List α) (ad : Addr) (hsrc : ∀ j y, m[j]? = some y → ∃ b off, some ad = some ⟨b, off, none⟩ ∧ atL W b (off + j * k) (enc y)) :
    ∀ j u, (m.flatMap enc)[j]? = some u → W.cell? (ad.add j) = some u := by
  intro j u hu
  have hlt := (List.getElem?_eq_some_iff.1 hu).1
  have hlen := flat_len hk m
  rw [hlen] at hlt
  have hq : j / k < m.length := by rw [Nat.div_lt_iff_lt_mul hk0]; exact hlt
  have hr : j % k < k := Nat.mod_lt _ hk0
  have hj : j = j / k * k + j % k := by rw [Nat.mul_comm]; exact (Nat.div_add_mod j k).symm
  obtain ⟨b, off, e', hat⟩ := hsrc (j / k) _ (List.getElem?_eq_getElem hq)
  obtain rfl := Option.some.inj e'
  obtain ⟨u', hu'⟩ : ∃ u', (enc m[j / k])[j % k]? = some u' := ⟨_, List.getElem?_eq_getElem (show j % k < (enc m[j / k]).length by have := hk m[j / k]; omega)⟩
  have h2 := flat_at hk m (j / k) _ (List.getElem?_eq_getElem hq) (j % k) u' hu'
  rw [← hj, hu] at h2
  obtain rfl := Option.some.inj h2
  have h3 := hat (j % k) u hu'
  rw [add_off, show off + j = off + j / k * k + j % k by omega]
  exact h3
section
variable {P : Program} {ops : Array Oper} {rest : List Oper} {o : Oper} {a : Act} {Q : Exit → Act → World → Prop}
set_option maxRecDepth 100000 in
theorem wpList_copy_full {α : Type} (enc : α → List Value) (k : Nat) (hk : ∀ x, (enc x).length = k) (hk0 : 0 < k) (hone : ∀ x, ∀ u ∈ enc x, u.oneCell' = true) (hgd : o.guard = none) (d s : Operand) (dT sT : TypeId)
    (ho : o.op = .call { callee := .builtin .copy, args := #[d, s], argTypes := #[dT, sT] }) (e : TypeId) (hu : P.underlying dT = some (.slice e)) (hsz : (P.info? e).map (·.size) = some k)
    (B : Nat) (W : World) (g : Nat) (cur : Array Value) (hg : W.heap[g]? = some (.cells cur e (0, 0))) (hB : B ≤ g) (m : List α) (hcur : cur.size = m.length * k) (hm : m.length ≤ maxLen) (A : Option Addr) (c : Nat)
    (hd : a.eval d = .slice (some ⟨g, 0, none⟩) m.length m.length) (hs : a.eval s = .slice A m.length c)
    (hsrc : ∀ j y, m[j]? = some y → ∃ b off, A = some ⟨b, off, none⟩ ∧ atL W b (off + j * k) (enc y))
    (h : ∀ w', owE e k enc B w' (.slice (some ⟨g, 0, none⟩) m.length m.length) m → Turned g (g + 1) W w' → wpList P ops Q rest (a.put o.dst (goInt (m.length : Int))) w') : wpList P ops Q (o :: rest) a W := by
  obtain ⟨i, hi, hsi⟩ := Option.map_eq_some_iff.1 hsz
  have hlen := flat_len hk m
  have hcells : (Builtin.firstCells k m.length (.slice A m.length c)).run P W = .ok (m.flatMap enc).toArray W := by
    cases A with
    | none =>
      have hm0 : m = [] := by
        cases m with
        | nil => rfl
        | cons y m => obtain ⟨b, off, e', -⟩ := hsrc 0 y rfl; cases e'
      subst hm0
      exact run_firstCells_none _ _ _ _ _
    | some ad => exact run_firstCells_some (P := P) W k m.length ad m.length c _ hlen (rows_cells hk hk0 m ad hsrc)
  have hst := run_storeCells_at P g 0 e (m.flatMap enc) 0 cur W hg (by rw [hlen, hcur]; omega) (fun v hv => by obtain ⟨x, -, hx⟩ := List.mem_flatMap.1 hv; exact hone x v hx)
  have hX : (cur.toList.take (0 + 0) ++ m.flatMap enc ++ cur.toList.drop (0 + 0 + (m.flatMap enc).length)).toArray = (m.flatMap enc).toArray := by
    rw [List.drop_of_length_le (by rw [hlen, Array.length_toList, hcur]; omega)]
    simp
  rw [hX] at hst
  have hnew : owE e k enc B (W.setRow g (m.flatMap enc).toArray) (.slice (some ⟨g, 0, none⟩) m.length m.length) m := by
    refine ⟨hlen, Or.inr ⟨g, m.length, (m.flatMap enc).toArray, rfl, hB, setRow_heap W g cur _ e _ hg, Nat.le_refl _, hm, by simpa using hlen, ?_⟩⟩
    rw [← hlen]
    exact List.take_length
  refine wpList_plain hgd fun K hK => ?_
  have hmin : Nat.min m.length m.length = m.length := Nat.min_self _
  generalize m.flatMap enc = us at hst hcells hnew
  have hrun : (Builtin.copy_ #[dT, sT] o.type #[.slice (some ⟨g, 0, none⟩) m.length m.length, .slice A m.length c]).run P W = .ok (goInt (m.length : Int)) (W.setRow g us.toArray) := by
    cases A <;> simp [Builtin.copy_, run_underlying hu, Builtin.lenOf, sizeOf, typeInfo, hi, hsi, hmin, hcells, hst]
  unfold Oper.wp
  simp [execOp, ho, resolve, invoke, builtin, hd, hs, hrun]
  exact hK _ _ (h _ hnew (setRow_turned _))
end
end Go.Proofs.YtnmijppppcgobaaGreatDoor
set_option linter.unusedVariables false
namespace Go.Proofs.YtnmijppppcgobaaGreatDoor
open Go.ChangeShapes Go.WideShapes Go.ChangeAt Go.RowKit

set_option maxRecDepth 100000 in
theorem sizeHold : (Tryz.prog.info? 33).map (·.size) = some 3 := by kernel_rfl
set_option maxRecDepth 100000 in
set_option maxHeartbeats 1600000 in
theorem holdsCopy_any (hi : Nat) (v : Value) (l : List HoldD) (w : World) (hn : l.length ≤ 1048576) (h : HoldsR.rd hi w [v] l) (hh : hi ≤ w.heap.size) :
    Calls Tryz.prog 133 #[v] w (holdsOne l w) := by
  obtain ⟨A, c, rfl, hc, hr⟩ := holds_rd h
  have HSR : Hid (∀ V, Below w.heap.size w V → ∀ (j : Nat) (y : HoldD), l[j]? = some y → ∃ b off, A = some ⟨b, off, none⟩ ∧ atL V b (off + j * 3) (hCells y)) := Lib.hid fun V hV j y hy => by
    obtain ⟨b, off, e, hb, q0, q1, q2⟩ := hr j y hy
    refine ⟨b, off, e, fun t u hu => ?_⟩
    match t, hu with
    | 0, hu => cases hu; exact (hV.cell (p := ⟨b, _, none⟩) (show b < w.heap.size by omega)).trans q0
    | 1, hu => cases hu; exact (hV.cell (p := ⟨b, _, none⟩) (show b < w.heap.size by omega)).trans q1
    | 2, hu => cases hu; exact (hV.cell (p := ⟨b, _, none⟩) (show b < w.heap.size by omega)).trans q2
    | n + 3, hu => simp [hCells] at hu
  have hmk := make_run (P := Tryz.prog) 23 33 #[.string ⟨#[]⟩, .int .i64 0, .int .i64 0] 3 32 Tryz.underlying23 infoHold l.length (by omega) (by omega) w
  clear h hr hc
  have n0 : (0 : Int) ≤ (l.length : Int) := by omega
  go_enter Tryz.func133, Tryz.ntmps133
  go_upto_region 2 with fail
  obtain ⟨W, hW⟩ : ∃ W, W = w.alloc (.cells (madeCells #[.string ⟨#[]⟩, .int .i64 0, .int .i64 0] (l.length * 3)) 33) := ⟨_, rfl⟩
  have hg : W.heap[w.heap.size]? = some (.cells (madeCells #[.string ⟨#[]⟩, .int .i64 0, .int .i64 0] (l.length * 3)) 33 (0, 0)) := by rw [hW]; exact heap_alloc_new w _
  have HB : Hid (Below w.heap.size w W) := Lib.hid (by rw [hW]; exact (Below.refl _ _).alloc (Nat.le_refl _) _)
  rw [← hW]
  clear hW hmk
  have HG := Lib.hid hg
  clear hg
  go_wp2_with (refine wpList_copy_full hCells 3 (fun _ => rfl) (by decide) hCells_one rfl _ _ _ _ rfl 33 Tryz.underlying23 sizeHold w.heap.size W w.heap.size _ HG.out (Nat.le_refl _) l (by simp [size_madeCells]) (by unfold maxLen; omega) A c rfl rfl (HSR.out W HB.out) ?_)
  intro w1 ho ht
  go_wp2
  go_ret
  refine ⟨_, rfl, ?_, HB.out.trans (ht.below (Nat.le_refl _) HB.out.size)⟩
  exact owE_holds ho
set_option maxRecDepth 100000 in
theorem slotsCopy_own (hi : Nat) (v : Value) (l : List SlotD) (w : World) (hn : l.length ≤ 1048576) (hs : ∀ x ∈ l, x.2.2.length ≤ 1048576) (h : SlotsR.rd hi w [v] l) (hh : hi ≤ w.heap.size) :
    Calls Tryz.prog 135 #[v] w (slotsOne l w) := by
  obtain ⟨A, c, ps, rfl, hps, hsn⟩ := slots_seen h
  have hl : l.length = ps.length := by rw [← hps, List.length_map]
  rw [hl]
  have := slotsCopy_any hi A c ps w (by omega) (fun x hx => hs x.1 (by rw [← hps]; exact List.mem_map.2 ⟨x, hx, rfl⟩)) hsn hh
  rw [hps] at this
  exact this
set_option maxRecDepth 100000 in
set_option maxHeartbeats 8000000 in
theorem acctCopy_any (hi : Nat) (vh vc vs vl : Value) (a : AcctD) (w : World) (hz : acctSmall 1048576 a) (h : AcctR.rd hi w (aCells a vh vc vs vl) a) (hh : hi ≤ w.heap.size) :
    Calls Tryz.prog 65 #[.agg #[.string (aId a), .int .i64 (aLim a), .int .i64 (aPos a), .int .i64 (aMost a), .int .i64 (aSum a), vh, .int .i64 (aR a).1, .int .i64 (aR a).2.1, vc, vs, vl]] w (acctOneI a w) := by
  obtain ⟨vh', vc', vs', vl', hcs, r1, r2, r3, r4⟩ := acct_rd h
  simp only [aCells, List.cons.injEq, and_true, true_and] at hcs
  obtain ⟨rfl, rfl, rfl, rfl⟩ := hcs
  clear h
  obtain ⟨z1, z2, z3, z4, z5⟩ := hz
  obtain ⟨id, lim, pos, most, sum, hs, ⟨sp, hd, cs, ss⟩, sl⟩ := a
  simp only [aId, aLim, aPos, aMost, aSum, aH, aS] at r1 r2 r3 r4 z1 z2 z3 z4 z5 ⊢
  obtain ⟨AH, cH, rfl, -⟩ := Rep.slice_form r1
  obtain ⟨AC, cC, rfl, -⟩ := r2.form
  obtain ⟨AS, cS, rfl, -⟩ := r3.form
  obtain ⟨AL, cL, rfl, -⟩ := Rep.slice_form r4
  have HC1 := Lib.hid (fun V (hV : Below w.heap.size w V) => holdsCopy_any hi _ hs V z1 (Rep.below (R := HoldsR) r1 hV hh) (Nat.le_trans hh hV.size))
  have HC2 := Lib.hid (fun V (hV : Below w.heap.size w V) => implCopy_any hi _ _ (sp, hd, cs, ss) V (r2.below hV hh) (r3.below hV hh) (Nat.le_trans hh hV.size) z2 z3)
  have HC3 := Lib.hid (fun V (hV : Below w.heap.size w V) => slotsCopy_own hi _ sl V z4 z5 (Rep.below (R := SlotsR) r4 hV hh) (Nat.le_trans hh hV.size))
  clear r1 r2 r3 r4 z1 z2 z3 z4 z5
  go_enter Tryz.func65, Tryz.ntmps65
  go_upto_region 1 with fail
  obtain ⟨W, hW⟩ : ∃ W, W = (w.alloc (.cells #[.string id, .int .i64 lim, .int .i64 pos, .int .i64 most, .int .i64 sum, .slice AH hs.length cH, .int .i64 sp, .int .i64 hd, .slice AC cs.length cC, .slice AS ss.length cS, .slice AL sl.length cL] 29)).alloc (.cells #[.string ⟨#[]⟩, .int .i64 0, .int .i64 0, .int .i64 0, .int .i64 0, .slice none 0 0, .int .i64 0, .int .i64 0, .slice none 0 0, .slice none 0 0, .slice none 0 0] 29) := ⟨_, rfl⟩
  have b0 : bk W w.heap.size 29 [.string id, .int .i64 lim, .int .i64 pos, .int .i64 most, .int .i64 sum, .slice AH hs.length cH, .int .i64 sp, .int .i64 hd, .slice AC cs.length cC, .slice AS ss.length cS, .slice AL sl.length cL] := by rw [hW]; exact (bk.new w _ _).alloc _
  have b1 : bk W (w.heap.size + 1) 29 [.string ⟨#[]⟩, .int .i64 0, .int .i64 0, .int .i64 0, .int .i64 0, .slice none 0 0, .int .i64 0, .int .i64 0, .slice none 0 0, .slice none 0 0, .slice none 0 0] := by rw [hW]; simpa using bk.new (w.alloc _) 29 [.string ⟨#[]⟩, .int .i64 0, .int .i64 0, .int .i64 0, .int .i64 0, .slice none 0 0, .int .i64 0, .int .i64 0, .slice none 0 0, .slice none 0 0, .slice none 0 0]
  have HB : Hid (Below w.heap.size w W) := Lib.hid (by rw [hW]; exact ((Below.refl _ _).alloc (Nat.le_refl _) _).alloc (by simp) _)
  have y0 : w.heap.size + 2 ≤ W.heap.size := by rw [hW]; simp
  rw [← hW]
  clear hW
  have B0 := Lib.hid b0
  have B1 := Lib.hid b1
  obtain ⟨⟨p0, p1, p2, p3, p4, p5, p6, p7, p8, p9, p10⟩, -⟩ := b0.eleven
  clear b0 b1 p0 p1 p2 p3 p4
  have HBX : Hid (∀ V, Below W.heap.size W V → Below w.heap.size w V) := Lib.hid fun V hV => HB.out.trans (hV.mono (by omega))
  have HD : Hid (Below W.heap.size W W.drew) := Lib.hid (Below.refl _ _).drew
  have HD0 := Lib.hid (HC1.out W.drew (HBX.out _ HD.out))
  go_cut [] (fun wx => ∃ (V : World) (A1 A2 A3 A4 : Option Addr) (c1 c2 c3 c4 : Nat), Hid (Below W.heap.size W V) ∧ Hid (AcctI W.heap.size V.heap.size V (.slice A1 hs.length c1) (.slice A2 cs.length c2) (.slice A3 ss.length c3) (.slice A4 sl.length c4) (id, lim, pos, most, sum, hs, (sp, hd, cs, ss), sl)) ∧ wx = (((((V.setCell ⟨w.heap.size, 5, none⟩ (.slice A1 hs.length c1)).setCell ⟨w.heap.size, 6, none⟩ (.int .i64 sp)).setCell ⟨w.heap.size, 7, none⟩ (.int .i64 hd)).setCell ⟨w.heap.size, 8, none⟩ (.slice A2 cs.length c2)).setCell ⟨w.heap.size, 9, none⟩ (.slice A3 ss.length c3)).setCell ⟨w.heap.size, 10, none⟩ (.slice A4 sl.length c4))
  case first =>
    go_region_law (go_simp; first
      | (go_at_call 133
         (with_reducible refine HD0.out.mono ?_)
         rintro e w1 ⟨u1, rfl, hm1, hb1⟩
         obtain ⟨A1, c1, rfl, -⟩ := Rep.slice_form hm1.rd
         have hx1 : Below W.heap.size W w1 := HD.out.trans (hb1.mono (Nat.le_refl _))
         have HX1 := Lib.hid hx1
         have HM1 := Lib.hid hm1
         have HS1 : Hid (W.heap.size ≤ w1.heap.size) := Lib.hid hx1.size
         obtain ⟨⟨-, -, -, -, -, q5, q6, q7, q8, q9, q10⟩, -⟩ := (B0.out.below hx1 (by omega)).eleven
         have HD1 := Lib.hid (HC2.out w1 (HBX.out _ hx1))
         clear hm1 hb1 hx1)
      | (go_at_call 134
         (with_reducible refine HD1.out.mono ?_)
         rintro e w2 ⟨uc, us, rfl, hm2, hb2⟩
         obtain ⟨uc', us', hue, hq1, hq2⟩ := ring_rd hm2.rd
         simp only [List.cons.injEq, and_true, true_and] at hue
         obtain ⟨rfl, rfl⟩ := hue
         obtain ⟨A2, c2, rfl, -⟩ := hq1.form
         obtain ⟨A3, c3, rfl, -⟩ := hq2.form
         clear hq1 hq2
         have hx2 : Below W.heap.size W w2 := HX1.out.trans (hb2.mono HS1.out)
         have HX2 := Lib.hid hx2
         have HM2 := Lib.hid hm2
         have HY2 := Lib.hid hb2
         have HS2 := Lib.hid hb2.size
         obtain ⟨⟨-, -, -, -, -, r5, r6, r7, r8, r9, r10⟩, -⟩ := (B0.out.below hx2 (by omega)).eleven
         have HD2 := Lib.hid (HC3.out w2 (HBX.out _ hx2))
         clear hm2 hb2 hx2)
      | (go_at_call 135
         (with_reducible refine HD2.out.mono ?_)
         rintro e w3 ⟨u3, rfl, hm3, hb3⟩
         obtain ⟨A4, c4, rfl, -⟩ := Rep.slice_form hm3.rd
         have hx3 : Below W.heap.size W w3 := HX2.out.trans (hb3.mono (Nat.le_trans HS1.out HS2.out))
         have HX3 := Lib.hid hx3
         have HM3 := Lib.hid hm3
         have HY3 := Lib.hid hb3
         obtain ⟨⟨s0, s1, s2, s3, s4, s5, s6, s7, s8, s9, s10⟩, f0, f1, f2, f3, f4, f5, f6, f7, f8, f9, f10⟩ := (B0.out.below hx3 (by omega)).eleven
         clear hm3 hb3 hx3)
      | fail)
    all_goals go_wp2
    all_goals go_meet
    all_goals exact ⟨w3, A1, A2, A3, A4, c1, c2, c3, c4, HX3, Lib.hid (acctI_ivl ((HM1.out.below HY2.out (Nat.le_refl _)).below HY3.out HS2.out) (HM2.out.below HY3.out (Nat.le_refl _)) HM3.out HS1.out HS2.out HY3.out.size), rfl⟩
  case rest =>
    obtain ⟨V, A1, A2, A3, A4, c1, c2, c3, c4, HXV, HAI, hwc⟩ := hcut
    have zV := HXV.out.size
    have hq := (((((((B0.out.below HXV.out (by omega)).set 5 (.slice A1 hs.length c1)).set 6 (.int .i64 sp)).set 7 (.int .i64 hd)).set 8 (.slice A2 cs.length c2)).set 9 (.slice A3 ss.length c3)).set 10 (.slice A4 sl.length c4))
    have ht := (((((((Turned.refl w.heap.size (w.heap.size + 1) V).set (b := w.heap.size) 5 (.slice A1 hs.length c1) (by omega) (by omega)).set (b := w.heap.size) 6 (.int .i64 sp) (by omega) (by omega)).set (b := w.heap.size) 7 (.int .i64 hd) (by omega) (by omega)).set (b := w.heap.size) 8 (.slice A2 cs.length c2) (by omega) (by omega)).set (b := w.heap.size) 9 (.slice A3 ss.length c3) (by omega) (by omega)).set (b := w.heap.size) 10 (.slice A4 sl.length c4) (by omega) (by omega))
    rw [← hwc] at hq ht
    have zc := ht.size
    have HA2 := Lib.hid (HAI.out.turned ht (.inr (by omega)) (Nat.le_refl _))
    have HB2 : Hid (Below w.heap.size w wc) := Lib.hid ((HBX.out V HXV.out).trans (ht.below (B := w.heap.size) (by omega) (by omega)))
    have hq1 := (B1.out.below HXV.out (by omega)).under ht (by omega)
    have hq0 : bk wc w.heap.size 29 [.string id, .int .i64 lim, .int .i64 pos, .int .i64 most, .int .i64 sum, .slice A1 hs.length c1, .int .i64 sp, .int .i64 hd, .slice A2 cs.length c2, .slice A3 ss.length c3, .slice A4 sl.length c4] := hq
    obtain ⟨⟨r0, r1, r2, r3, r4, r5, r6, r7, r8, r9, r10⟩, -⟩ := hq0.eleven
    obtain ⟨⟨u0, u1, u2, u3, u4, u5, u6, u7, u8, u9, u10⟩, g0, g1, g2, g3, g4, g5, g6, g7, g8, g9, g10⟩ := hq1.eleven
    clear hq hq0 hq1 ht hwc p5 p6 p7 p8 p9 p10 HC1 HC2 HC3 HD0 B0 B1 HAI HXV HB HBX HD
    go_wp2
    refine bodyPost_ret (v := .agg #[.string id, .int .i64 lim, .int .i64 pos, .int .i64 most, .int .i64 sum, .slice A1 hs.length c1, .int .i64 sp, .int .i64 hd, .slice A2 cs.length c2, .slice A3 ss.length c3, .slice A4 sl.length c4]) (by simp [results, Tryz.results65, go_sem, u0, u1, u2, u3, u4, u5, u6, u7, u8, u9, u10]) rfl ?_
    have ht := ((((((((((((Turned.refl (w.heap.size + 1) (w.heap.size + 2) wc).set (b := w.heap.size + 1) 0 (.string id) (by omega) (by omega)).set (b := w.heap.size + 1) 1 (.int .i64 lim) (by omega) (by omega)).set (b := w.heap.size + 1) 2 (.int .i64 pos) (by omega) (by omega)).set (b := w.heap.size + 1) 3 (.int .i64 most) (by omega) (by omega)).set (b := w.heap.size + 1) 4 (.int .i64 sum) (by omega) (by omega)).set (b := w.heap.size + 1) 5 (.slice A1 hs.length c1) (by omega) (by omega)).set (b := w.heap.size + 1) 6 (.int .i64 sp) (by omega) (by omega)).set (b := w.heap.size + 1) 7 (.int .i64 hd) (by omega) (by omega)).set (b := w.heap.size + 1) 8 (.slice A2 cs.length c2) (by omega) (by omega)).set (b := w.heap.size + 1) 9 (.slice A3 ss.length c3) (by omega) (by omega)).set (b := w.heap.size + 1) 10 (.slice A4 sl.length c4) (by omega) (by omega))
    have hsz := ht.size
    exact ⟨_, _, _, _, rfl, (HA2.out.turned ht (.inr (by omega)) (by omega)).mono (by omega) (by omega), HB2.out.trans (ht.below (by omega) (by omega))⟩
end Go.Proofs.YtnmijppppcgobaaGreatDoor
set_option linter.unusedVariables false
namespace Go.Proofs.YtnmijppppcgobaaGreatDoor
open Go.ChangeShapes Go.WideShapes Go.ChangeAt Go.RowKit

abbrev TD := Int × Int
def tCells (x : TD) : List Value := [.int .i64 x.1, .int .i64 x.2]
set_option maxRecDepth 100000 in
theorem tCells_len (x : TD) : (tCells x).length = 2 := rfl
set_option maxRecDepth 100000 in
theorem tCells_one (x : TD) : ∀ u ∈ tCells x, u.oneCell' = true := by
  intro u hu
  simp only [tCells, List.mem_cons, List.not_mem_nil, or_false] at hu
  rcases hu with rfl | rfl <;> rfl
set_option maxRecDepth 100000 in
theorem infoTally : (Tryz.prog.info? 104).map (fun i => (i.zero.map (·.cells), i.size, i.bytes)) = some (some #[.int .i64 0, .int .i64 0], 2, 16) := by kernel_rfl
set_option maxRecDepth 100000 in
theorem infoTally2 : (Tryz.prog.info? 104).map (fun i => (i.zero.map (·.cells), i.size)) = some (some #[.int .i64 0, .int .i64 0], 2) := by kernel_rfl
set_option maxRecDepth 100000 in
theorem sizeTally : (Tryz.prog.info? 104).map (·.size) = some 2 := by kernel_rfl
/-- a window at block p: its span, its head, its buckets, a row of its own -/
structure Win (B : Nat) (w : World) (p : Nat) (sp hd : Int) (v : Value) (l : List TD) : Prop where
  at_ : bk w p 159 [.int .i64 sp, .int .i64 hd, v]
  row : owE 104 2 tCells B w v l
  low : B ≤ p
  far : v.ownBlock ≠ some p
def rollT (k : Nat) (l : List TD) : List TD := List.replicate k (0, 0) ++ l.take (l.length - k)
def winHead (sp hd now : Int) : Int := if hd < now / sp then now / sp else hd
def winRoll (sp hd now : Int) (l : List TD) : List TD := if hd < now / sp then rollT (min (now / sp - hd).toNat l.length) l else l
set_option maxRecDepth 100000 in
theorem rollT_len {k : Nat} {l : List TD} (h : k ≤ l.length) : (rollT k l).length = l.length := by
  unfold rollT
  rw [List.length_append, List.length_replicate, List.length_take]; omega
set_option maxRecDepth 100000 in
theorem winRoll_len (sp hd now : Int) (l : List TD) : (winRoll sp hd now l).length = l.length := by
  unfold winRoll
  split
  · exact rollT_len (Nat.min_le_right _ _)
  · rfl
set_option maxRecDepth 100000 in
theorem bk.three {w : World} {g : Nat} {t : TypeId} {a b c : Value} (h : bk w g t [a, b, c]) : (w.cell? ⟨g, 0, none⟩ = some a ∧ w.cell? ⟨g, 1, none⟩ = some b ∧ w.cell? ⟨g, 2, none⟩ = some c) ∧ (w.frozen? ⟨g, 0, none⟩ = false ∧ w.frozen? ⟨g, 1, none⟩ = false ∧ w.frozen? ⟨g, 2, none⟩ = false) :=
  ⟨⟨h.cell 0, h.cell 1, h.cell 2⟩, h.frozen 0, h.frozen 1, h.frozen 2⟩
set_option maxRecDepth 100000 in
theorem owE.turned {α : Type} {T : TypeId} {k B lo hi : Nat} {enc : α → List Value} {w w' : World} {v : Value} {l : List α} (h : owE T k enc B w v l) (ht : Turned lo hi w w') (hv : ∀ g, v.ownBlock = some g → g < lo ∨ hi ≤ g) : owE T k enc B w' v l :=
  h.keep fun g hg => ht.block g (h.lt g hg).2 (by have := hv g hg; omega)

set_option maxRecDepth 100000 in
set_option maxHeartbeats 4000000 in
theorem implRoll_any (B p : Nat) (sp hd now : Int) (v : Value) (l : List TD) (w : World) (hw : Win B w p sp hd v l) (s1 : 1 ≤ sp) (n0 : 0 ≤ now) (n1 : now ≤ 1000000000) (d0 : 0 ≤ hd) (d1 : hd ≤ 1000000000) (l1 : 1 ≤ l.length) (l2 : l.length ≤ 8) :
    Calls Tryz.prog 212 #[.pointer (some ⟨p, 0, none⟩), .int .i64 now] w fun e w' => e = .returned (.tuple #[]) ∧ Win B w' p sp (winHead sp hd now) v (winRoll sp hd now l) ∧ Below B w w' := by
  obtain ⟨b0, ho, hlow, hfar⟩ := hw
  obtain ⟨A, c, rfl, hlc⟩ := ho.form
  obtain ⟨-, n5, n6⟩ := quo_ok n0 n1 s1
  have n2 : (sp == 0) = false := by simp; omega
  have n3 : ¬ sp = 0 := by omega
  obtain ⟨g, rfl, hBg, hgl⟩ : ∃ g, A = some ⟨g, 0, none⟩ ∧ B ≤ g ∧ g < w.heap.size := by
    rcases ho.2 with ⟨h', h0⟩ | ⟨g, cap, cur, h', hB, hg, -⟩
    · omega
    · simp only [Value.slice.injEq] at h'
      exact ⟨g, h'.1, hB, (Array.getElem?_eq_some_iff.1 hg).1⟩
  have hgp : p ≠ g := fun e => hfar (by rw [e]; rfl)
  have HO := Lib.hid ho
  have B0 := Lib.hid b0
  obtain ⟨⟨p0, p1, p2⟩, f0, f1, f2⟩ := b0.three
  have y0 := b0.lt
  clear ho b0 hfar
  by_cases hgo : hd < now / sp
  · have g1 : ¬ now / sp ≤ hd := by omega
    have HH : Hid (winHead sp hd now = now / sp) := Lib.hid (if_pos hgo)
    have HW : Hid (winRoll sp hd now l = rollT (min (now / sp - hd).toNat l.length) l) := Lib.hid (if_pos hgo)
    obtain ⟨q, hq⟩ := Int.eq_ofNat_of_zero_le n5
    obtain ⟨m, hm⟩ : ∃ m : Nat, m = min (now / sp - hd).toNat l.length := ⟨_, rfl⟩
    have m0 : 0 < m := by omega
    have m1 : m ≤ l.length := by omega
    rw [← hm] at HW
    have HM := Lib.hid hm
    clear hm hq
    go_enter Tryz.func212, Tryz.ntmps212
    go_upto_region 2 with fail
    go_cut [5] (fun cv wx => cv = .int .i64 (m : Int) ∧ ∃ n, wx = w.drewN n)
    case first =>
      go_quiet (fail)
      go_wp2
      all_goals go_meet
      all_goals exact ⟨congrArg (Value.int .i64) (by have := HM.out; omega), nq, rfl⟩
    case rest =>
      obtain ⟨rfl, nz, rfl⟩ := hcut
      obtain ⟨W, hW⟩ : ∃ W, W = w.drewN nz := ⟨_, rfl⟩
      have b0 := B0.out.drewN nz
      have ho : owE 104 2 tCells B (w.drewN nz) (.slice (some ⟨g, 0, none⟩) l.length c) l := HO.out
      have hb0 : Below B w (w.drewN nz) := below_drew' (Below.refl B w) nz
      have zs : w.heap.size = (w.drewN nz).heap.size := rfl
      rw [← hW] at b0 ho hb0 zs ⊢
      have HB0 := Lib.hid hb0
      have BB := Lib.hid b0
      have HO1 := Lib.hid ho
      clear hW p0 p1 p2 f0 f1 f2 HO B0 hb0 ho
      obtain ⟨⟨p0, p1, p2⟩, f0, f1, f2⟩ := b0.three
      clear b0
      have m2 : (m : Int) ≤ (l.length : Int) := by omega
      have m3 : 0 ≤ (m : Int) := by omega
      go_upto_region 3 with fail
      refine wp_region_still_tail 10 (by kernel_rfl) (by kernel_rfl) ?_
      simp only [List.take_succ_cons, List.take_zero, List.drop_succ_cons, List.drop_zero]
      repeat still_step
      refine wpStill_nil ?_
      change wpList _ _ _ _ _ W.drew
      obtain ⟨dp, hdp⟩ : ∃ dp, dp = (if c = m then (some ⟨g, 0, none⟩ : Option Addr) else some ⟨g, m * 2, none⟩) := ⟨_, rfl⟩
      rw [← hdp]
      have HDP := Lib.hid hdp
      clear hdp
      refine wpList_copy_over tCells 2 tCells_len tCells_one rfl _ _ _ _ rfl 104 Tryz.underlying157 sizeTally B W.drew g m c _ dp l HO1.out m1 rfl (fun h => by rw [HDP.out, if_neg (by omega)]) rfl ?_
      intro w1 ho1 ht1
      have b1 : bk w1 p 159 _ := BB.out.drew.turned ht1 (by omega)
      have HB1 := Lib.hid (HB0.out.drew.trans (ht1.below hBg (show B ≤ W.heap.size by omega)))
      have z1 := ht1.size
      replace z1 : W.heap.size ≤ w1.heap.size := z1
      have HO2 := Lib.hid ho1
      have B1 := Lib.hid b1
      clear ho1 ht1 p0 p1 p2 f0 f1 f2 BB HO1 HB0
      obtain ⟨⟨p0, p1, p2⟩, f0, f1, f2⟩ := b1.three
      clear b1
      have hl' : (l.take m ++ l.take (l.length - m)).length = l.length := by rw [List.length_append, List.length_take, List.length_take]; omega
      have HLR : Hid (List.replicate m ((0, 0) : TD) ++ (l.take m ++ l.take (l.length - m)).drop m = rollT m l) := Lib.hid (by
        unfold rollT
        rw [List.drop_append_of_le_length (by rw [List.length_take]; omega), List.drop_of_length_le (by rw [List.length_take]; omega), List.nil_append])
      generalize l.take m ++ l.take (l.length - m) = l' at HO2 HLR hl'
      have HL := Lib.hid hl'
      clear hl'
      go_upto_region 5 with (refine wpList_clear_over tCells 2 tCells_len tCells_one rfl _ _ rfl 104 Tryz.underlying157 #[.int .i64 0, .int .i64 0] infoTally2 (0, 0) rfl B w1 g m c _ l.length l' HL.out HO2.out m1 m0 rfl ?_)
      intro w2 ho2 ht2
      rw [HLR.out] at ho2
      have b2 : bk w2 p 159 _ := B1.out.turned ht2 (by omega)
      have z2 := ht2.size
      have HB2 := Lib.hid (HB1.out.trans (ht2.below hBg (show B ≤ w1.heap.size by omega)))
      have HO3 := Lib.hid ho2
      have B2 := Lib.hid b2
      clear ho2 ht2 p0 p1 p2 f0 f1 f2 B1 HO2 HB1 HLR HL
      obtain ⟨⟨p0, p1, p2⟩, f0, f1, f2⟩ := b2.three
      clear b2
      go_wp2
      refine bodyPost_end (results_none rfl _ _ _) rfl ?_
      rw [HH.out, HW.out]
      exact ⟨rfl, ⟨B2.out.set 1 _, HO3.out.set (by simpa [Value.ownBlock] using Ne.symm hgp) 1 _, hlow, by simpa [Value.ownBlock] using Ne.symm hgp⟩, HB2.out.setCell (p := ⟨p, 1, none⟩) hlow _⟩
  · have HH : Hid (winHead sp hd now = hd) := Lib.hid (if_neg hgo)
    have HW : Hid (winRoll sp hd now l = l) := Lib.hid (if_neg hgo)
    have g1 : now / sp ≤ hd := by omega
    go_enter Tryz.func212, Tryz.ntmps212
    go_wp2
    refine bodyPost_ret (results_none rfl _ _ _) rfl ?_
    rw [HH.out, HW.out]
    exact ⟨rfl, ⟨B0.out, HO.out, hlow, by simpa [Value.ownBlock] using Ne.symm hgp⟩, Below.refl _ _⟩
end Go.Proofs.YtnmijppppcgobaaGreatDoor
set_option linter.unusedVariables false
namespace Go.Proofs.YtnmijppppcgobaaGreatDoor
open Go.ChangeShapes Go.WideShapes Go.ChangeAt Go.RowKit

set_option maxRecDepth 100000 in
theorem zip_at {cs ss : List Int} {i : Nat} (h1 : i < cs.length) (h2 : i < ss.length) : (cs.zip ss)[i]? = some (cs.getD i 0, ss.getD i 0) := by
  rw [List.getElem?_zip_eq_some]
  exact ⟨by show cs[i]? = some (cs.getD i 0); rw [List.getD_eq_getElem?_getD, List.getElem?_eq_getElem h1]; rfl, by show ss[i]? = some (ss.getD i 0); rw [List.getD_eq_getElem?_getD, List.getElem?_eq_getElem h2]; rfl⟩
set_option maxRecDepth 100000 in
set_option maxHeartbeats 4000000 in
theorem implWindow_any (hi : Nat) (vc vs : Value) (r : RingD) (now : Int) (w : World) (h1 : rd .i64 hi w vc r.2.2.1) (h2 : rd .i64 hi w vs r.2.2.2) (hh : hi ≤ w.heap.size) (hok : ringOk r = true) (hti : timeB now = true) :
    Calls Tryz.prog 150 #[.agg #[.int .i64 r.1, .int .i64 r.2.1, vc, vs], .int .i64 now] w fun e w' => ∃ p v, e = .returned (.pointer (some ⟨p, 0, none⟩)) ∧ Win w.heap.size w' p r.1 (winHead r.1 r.2.1 now) v (winRoll r.1 r.2.1 now (r.2.2.1.zip r.2.2.2)) ∧ Below w.heap.size w w' := by
  obtain ⟨o1, o2, o3, o4, o5, o6, o7⟩ := ringOk_len hok
  obtain ⟨n3, n4⟩ : 0 ≤ now ∧ now ≤ 1000000000 := by simpa [timeB, inB] using hti
  obtain ⟨sp, hd, cs, ss⟩ := r
  simp only at h1 h2 o1 o2 o3 o4 o5 o6 o7 ⊢
  obtain ⟨A1, c1, rfl, -⟩ := h1.form
  obtain ⟨A2, c2, rfl, -⟩ := h2.form
  obtain ⟨a1, e1, rfl, -, -⟩ := ring_at h1 (List.getElem?_eq_getElem (show 0 < cs.length by omega))
  obtain ⟨a2, e2, rfl, -, -⟩ := ring_at h2 (List.getElem?_eq_getElem (show 0 < ss.length by omega))
  have HC := Lib.hid h1
  have HS := Lib.hid h2
  have HO5 := Lib.hid o5
  obtain ⟨zl, hzl⟩ : ∃ zl, zl = cs.zip ss := ⟨_, rfl⟩
  have hzn : zl.length = cs.length := by rw [hzl, List.length_zip, o5, Nat.min_self]
  have HZA : Hid (∀ i, i < cs.length → zl[i]? = some (cs.getD i 0, ss.getD i 0)) := Lib.hid fun i hi => by rw [hzl]; exact zip_at hi (by omega)
  rw [← hzl]
  have HZN := Lib.hid hzn
  clear h1 h2 hok hti hzl hzn o5
  go_enter Tryz.func150, Tryz.ntmps150
  go_wp2_with fail
  obtain ⟨W, hW⟩ : ∃ W, W = (w.alloc (.cells #[.int .i64 sp, .int .i64 hd, .slice (some ⟨a1, e1, none⟩) cs.length c1, .slice (some ⟨a2, e2, none⟩) ss.length c2] 26)).alloc (.cells #[.int .i64 sp, .int .i64 hd, .slice none 0 0] 159) := ⟨_, rfl⟩
  have b0 : bk W w.heap.size 26 [.int .i64 sp, .int .i64 hd, .slice (some ⟨a1, e1, none⟩) cs.length c1, .slice (some ⟨a2, e2, none⟩) ss.length c2] := by rw [hW]; exact (bk.new w _ _).alloc _
  have b1 : bk W (w.heap.size + 1) 159 [.int .i64 sp, .int .i64 hd, .slice none 0 0] := by rw [hW]; simpa using bk.new (w.alloc _) _ _
  have HB0 : Hid (Below w.heap.size w W) := Lib.hid (by rw [hW]; exact ((Below.refl _ _).alloc (Nat.le_refl _) _).alloc (by simp) _)
  have z0 : w.heap.size + 2 ≤ W.heap.size := by rw [hW]; simp
  rw [← hW]
  clear hW
  have B0 := Lib.hid b0
  have B1 := Lib.hid b1
  clear b0 b1
  go_loopw [17] (fun iv wr => ∃ (l : List TD) (A : Option Addr) (c : Nat), l.length ≤ cs.length ∧ iv = .int .i64 (l.length : Int) ∧ Hid (l = zl.take l.length) ∧ Hid (bk wr (w.heap.size + 1) 159 [.int .i64 sp, .int .i64 hd, .slice A l.length c]) ∧ Hid (owE 104 2 tCells (w.heap.size + 2) wr (.slice A l.length c) l) ∧ Hid (bk wr w.heap.size 26 [.int .i64 sp, .int .i64 hd, .slice (some ⟨a1, e1, none⟩) cs.length c1, .slice (some ⟨a2, e2, none⟩) ss.length c2]) ∧ Hid (Below w.heap.size w wr) ∧ w.heap.size + 2 ≤ wr.heap.size) (fun iv _ => cs.length - (intOf iv).toNat)
  case atStart => exact ⟨[], none, 0, Nat.zero_le _, rfl, Lib.hid rfl, B1, Lib.hid (owE_none _ _ _ _ _), B0, HB0, z0⟩
  case round =>
    obtain ⟨l, A, c, hl, rfl, HL, BW, HO, BR, HB, hz⟩ := hrel
    by_cases hin : l.length < cs.length
    · obtain ⟨-, d0⟩ := (HC.out.below HB.out hh).cell_at hin
      obtain ⟨-, d1⟩ := (HS.out.below HB.out hh).cell_at (show l.length < ss.length by rw [HO5.out]; exact hin)
      have HZ := Lib.hid (HZA.out _ hin)
      generalize cs.getD l.length 0 = x at d0 HZ
      generalize ss.getD l.length 0 = y at d1 HZ
      have g1 : (l.length : Int) < (cs.length : Int) := by omega
      have g3 : (l.length : Int) < (ss.length : Int) := by rw [HO5.out]; exact g1
      have g2 : 0 ≤ (l.length : Int) := by omega
      obtain ⟨⟨p0, p1, p2, p3⟩, -⟩ := BR.out.cells
      obtain ⟨⟨q0, q1, q2⟩, f0, f1, f2⟩ := BW.out.three
      have hL1 : l.length + 1 ≤ maxLen := by unfold maxLen; omega
      have hL2 : (l.length + 1) * 16 ≤ 140737488355328 := by omega
      have hne : (Value.slice A l.length c).ownBlock ≠ some (w.heap.size + 1) := fun e => by have := (HO.out.lt _ e).1; omega
      have hne0 : (Value.slice A l.length c).ownBlock ≠ some w.heap.size := fun e => by have := (HO.out.lt _ e).1; omega
      have HN1 := Lib.hid hne
      have HN0 := Lib.hid hne0
      clear hne hne0
      have bv := BW.out.alloc (.cells #[.int .i64 x, .int .i64 y] 104)
      obtain ⟨⟨v0, v1, v2⟩, -⟩ := bv.three
      clear bv
      go_upto_region 5 with fail
      go_region_law (refine app_elem_step tCells 2 tCells_len (by decide) tCells_one 157 104 #[.int .i64 0, .int .i64 0] 16 Tryz.underlying157 infoTally rfl _ _ (by rfl) (by rfl) (w.heap.size + 2) wr.drew _ l (x, y) _ _ (by rfl) (by rfl) (by rfl) rfl HO.out hL1 hL2 hz ?_; intro A6 c6 w6 hown6 hc6 hg6 hl6; have b6 := (BW.out.drew.alloc (.cells #[.int .i64 x, .int .i64 y] 104)).grown hg6 HN1.out; have r6 := (BR.out.drew.alloc (.cells #[.int .i64 x, .int .i64 y] 104)).grown hg6 HN0.out; obtain ⟨⟨m0, m1, m2⟩, k0, k1, k2⟩ := b6.three; have B6 := Lib.hid b6; have R6 := Lib.hid r6; have HO6 := Lib.hid hown6; have hz6 : wr.heap.size + 1 ≤ w6.heap.size := Nat.le_trans (by simp) hg6.size; have HB6 : Hid (Below w.heap.size w w6) := Lib.hid ((HB.out.drew.alloc (show w.heap.size ≤ wr.heap.size by omega) _).grown hg6 (Nat.le_trans (show w.heap.size ≤ wr.heap.size by omega) (by simp)) (fun k hk => by have := (HO.out.lt _ hk).1; omega)); clear b6 r6 hown6 hg6 hl6)
      all_goals
        go_wp2
        go_roundw
        case rel =>
          have hN6 : (Value.slice A6 (l.length + 1) c6).ownBlock ≠ some (w.heap.size + 1) := fun e => by have := (HO6.out.lt _ e).1; omega
          refine ⟨l ++ [(x, y)], A6, c6, by simp; omega, by simp [go_sem], Lib.hid ?_, Lib.hid (by simpa using B6.out.set 2 (.slice A6 (l.length + 1) c6)), Lib.hid (by simpa using HO6.out.set hN6 2 _), Lib.hid (R6.out.far (p := ⟨w.heap.size + 1, 2, none⟩) (by simp) _), Lib.hid (HB6.out.setCell (p := ⟨w.heap.size + 1, 2, none⟩) (by simp) _), by simp; omega⟩
          obtain ⟨h5, h6⟩ := List.getElem?_eq_some_iff.1 HZ.out
          rw [List.length_append, List.length_singleton, List.take_succ_eq_append_getElem h5, h6, ← HL.out]
        case measure => simp [intOf] <;> omega
    · have HLZ : Hid (l = zl) := Lib.hid (by rw [HL.out, List.take_of_length_le (by rw [HZN.out]; omega)])
      have g1 : ¬ (l.length : Int) < (cs.length : Int) := by omega
      go_wp2_with fail
      refine (implRoll_any w.heap.size (w.heap.size + 1) sp hd now _ l wr ⟨BW.out, HO.out.mono (by omega), by omega, fun e => by have := (HO.out.lt _ e).1; omega⟩ o1 n3 n4 o6 o7 (by omega) (by omega)).mono ?_
      rintro e w2 ⟨rfl, hwin, hb⟩
      go_wp2
      go_ret
      exact ⟨_, _, rfl, by rw [← HLZ.out]; exact hwin, HB.out.trans hb⟩
end Go.Proofs.YtnmijppppcgobaaGreatDoor
set_option linter.unusedVariables false
namespace Go.Proofs.YtnmijppppcgobaaGreatDoor
open Go.ChangeShapes Go.WideShapes Go.ChangeAt Go.RowKit

set_option maxRecDepth 100000 in
theorem blk_own {v : Value} {b : Nat} (h : Proofs.YtnmijppppcgobaaGreatDoor.blk v = some b) : v.ownBlock = some b := by
  unfold Proofs.YtnmijppppcgobaaGreatDoor.blk at h
  split at h
  · exact h
  · cases h
set_option maxRecDepth 100000 in
set_option maxHeartbeats 4000000 in
theorem implRingOf_any (B p : Nat) (sp hd : Int) (v : Value) (l : List TD) (w : World) (hw : Win B w p sp hd v l) (hl : l.length ≤ 8) :
    Calls Tryz.prog 200 #[.pointer (some ⟨p, 0, none⟩)] w (ringOne (sp, hd, l.map Prod.fst, l.map Prod.snd) w) := by
  obtain ⟨b0, ho, -, -⟩ := hw
  obtain ⟨A, c, rfl, hlc⟩ := ho.form
  have HO := Lib.hid ho
  have BW := Lib.hid b0
  have y0 := b0.lt
  clear ho b0
  go_enter Tryz.func200, Tryz.ntmps200
  go_upto_region 1 with fail
  obtain ⟨W, hW⟩ : ∃ W, W = w.alloc (.cells #[.int .i64 0, .int .i64 0, .slice none 0 0, .slice none 0 0] 26) := ⟨_, rfl⟩
  have b0 : bk W w.heap.size 26 [.int .i64 0, .int .i64 0, .slice none 0 0, .slice none 0 0] := by rw [hW]; exact bk.new w _ _
  have HB0 : Hid (Below w.heap.size w W) := Lib.hid (by rw [hW]; exact (Below.refl _ _).alloc (Nat.le_refl _) _)
  have z0 : W.heap.size = w.heap.size + 1 := by rw [hW]; simp
  rw [← hW]
  clear hW
  obtain ⟨⟨p0, p1, p2⟩, -⟩ := (BW.out.below HB0.out y0).three
  have B0 := Lib.hid b0
  clear b0
  go_cut [3] (fun cv wx => cv = .pointer (some ⟨w.heap.size + 1, 0, none⟩) ∧ bk wx (w.heap.size + 1) 26 [.int .i64 sp, .int .i64 hd, .slice none 0 0, .slice none 0 0] ∧ bk wx w.heap.size 26 [.int .i64 0, .int .i64 0, .slice none 0 0, .slice none 0 0] ∧ Below w.heap.size w wx)
  case first =>
    go_region_held3 (fun V => V.cell? ⟨p, 0, none⟩ = some (.int .i64 sp) ∧ V.cell? ⟨p, 1, none⟩ = some (.int .i64 hd)) (go_keep) (fail)
    go_wp2
    go_meet
    refine ⟨rfl, ?_, (B0.out.alloc _).drew, (HB0.out.alloc (by omega) _).drew⟩
    have h := bk.new W 26 [.int .i64 sp, .int .i64 hd, .slice none 0 0, .slice none 0 0]
    rw [z0] at h
    exact h.drew
  case rest =>
    obtain ⟨rfl, b1, b0, hb⟩ := hcut
    have HBC := Lib.hid hb
    have B1 := Lib.hid b1
    have B0 := Lib.hid b0
    have zc := b1.lt
    obtain ⟨⟨p0, p1, p2⟩, -⟩ := (BW.out.below hb y0).three
    clear hb b1 b0
    go_upto_region 3 with fail
    clear p0 p1 p2
    go_loopw [20] (fun iv wr => ∃ (X Y : List Int) (A1 A2 : Option Addr) (c1 c2 : Nat), X.length ≤ l.length ∧ iv = .int .i64 (X.length : Int) ∧ Hid (Y.length = X.length) ∧ Hid (X = (l.take X.length).map Prod.fst) ∧ Hid (Y = (l.take X.length).map Prod.snd) ∧ Hid (bk wr (w.heap.size + 1) 26 [.int .i64 sp, .int .i64 hd, .slice A1 X.length c1, .slice A2 Y.length c2]) ∧ Hid (owE 3 1 iCells (w.heap.size + 2) wr (.slice A1 X.length c1) X) ∧ Hid (owE 3 1 iCells (w.heap.size + 2) wr (.slice A2 Y.length c2) Y) ∧ Hid (∀ g, (Value.slice A1 X.length c1).ownBlock = some g → (Value.slice A2 Y.length c2).ownBlock ≠ some g) ∧ Hid (bk wr w.heap.size 26 [.int .i64 0, .int .i64 0, .slice none 0 0, .slice none 0 0]) ∧ Hid (Below w.heap.size w wr) ∧ w.heap.size + 2 ≤ wr.heap.size) (fun iv _ => l.length - (intOf iv).toNat)
    case atStart => exact ⟨[], [], none, none, 0, 0, Nat.zero_le _, rfl, Lib.hid rfl, Lib.hid rfl, Lib.hid rfl, B1, Lib.hid (owE_none _ _ _ _ _), Lib.hid (owE_none _ _ _ _ _), Lib.hid (by intro g h; cases h), B0, HBC, by omega⟩
    case round =>
      obtain ⟨X, Y, A1, A2, c1, c2, hX, rfl, HYX, HX, HY, BR, HO1, HO2, HD, B0, HB, hz⟩ := hrel
      by_cases hin : X.length < l.length
      · rcases (HO.out.below HB.out (Nat.le_refl _)).filled tCells_len (0, 0) with ⟨h0, -⟩ | ⟨g, c', hv, -, -, hgl, hfl⟩
        · rw [h0] at hin; exact absurd hin (by simp)
        simp only [Value.slice.injEq, true_and] at hv
        obtain ⟨rfl, rfl⟩ := hv
        have hat := hfl.at_ X.length hin
        have d0 := hat 0 _ rfl
        have d1 := hat 1 _ rfl
        obtain ⟨t, ht⟩ : ∃ t, t = l.getD X.length (0, 0) := ⟨_, rfl⟩
        have HT : Hid (l[X.length]? = some t) := Lib.hid (by rw [ht, List.getD_eq_getElem?_getD, List.getElem?_eq_getElem hin]; rfl)
        rw [← ht, Nat.zero_add] at d0 d1
        rw [Nat.add_zero] at d0
        clear hat hfl ht
        obtain ⟨x, y⟩ := t
        have g1 : (X.length : Int) < (l.length : Int) := by omega
        have g2 : 0 ≤ (X.length : Int) := by omega
        go_upto_region 5 with fail
        obtain ⟨W4, hW4⟩ : ∃ W4, W4 = wr.alloc (.cells #[.int .i64 x, .int .i64 y] 104) := ⟨_, rfl⟩
        rw [← hW4]
        have BT := bk.new wr 104 [.int .i64 x, .int .i64 y]
        rw [show ([Value.int .i64 x, .int .i64 y] : List Value).toArray = #[.int .i64 x, .int .i64 y] from rfl] at BT
        have hb4 := (Below.refl wr.heap.size wr).alloc (Nat.le_refl _) (.cells #[.int .i64 x, .int .i64 y] 104)
        rw [← hW4] at BT hb4
        have z4 : W4.heap.size = wr.heap.size + 1 := by rw [hW4]; simp
        clear hW4 d0 d1
        have BT4 := Lib.hid BT
        have BR4 := Lib.hid (BR.out.below hb4 (by omega))
        have B04 := Lib.hid (B0.out.below hb4 (by omega))
        have HB4 := Lib.hid (HB.out.trans (hb4.mono (by omega)))
        have HX4 := Lib.hid (HO1.out.below hb4 (Nat.le_refl _))
        have HY4 := Lib.hid (HO2.out.below hb4 (Nat.le_refl _))
        have HO1lt : Hid (∀ g, (Value.slice A1 X.length c1).ownBlock = some g → g < wr.heap.size) := Lib.hid fun g h => (HO1.out.lt g h).2
        have HO2lt : Hid (∀ g, (Value.slice A2 Y.length c2).ownBlock = some g → g < wr.heap.size) := Lib.hid fun g h => (HO2.out.lt g h).2
        clear BT hb4 BR B0 HB HO1 HO2
        obtain ⟨⟨p0, p1, p2, p3⟩, q0, q1, q2, q3⟩ := BR4.out.cells
        have t0 := BT4.out.cell 0
        have t1 := BT4.out.cell 1
        simp only [List.getElem?_cons_zero, List.getElem?_cons_succ] at t0 t1
        have HN0 : Hid ((Value.slice A1 X.length c1).ownBlock ≠ some w.heap.size) := Lib.hid fun e => by have := (HX4.out.lt _ e).1; omega
        have HN1 : Hid ((Value.slice A1 X.length c1).ownBlock ≠ some (w.heap.size + 1)) := Lib.hid fun e => by have := (HX4.out.lt _ e).1; omega
        have HN2 : Hid ((Value.slice A1 X.length c1).ownBlock ≠ some wr.heap.size) := Lib.hid fun e => by have := (HO1lt.out _ e); omega
        have vR := BR4.out.alloc (.cells #[.int .i64 x] 3)
        obtain ⟨⟨v0, v1, v2, v3⟩, -⟩ := vR.cells
        clear vR
        go_upto_region 6 with (at_builtin; refine app_elem iCells 1 (fun _ => rfl) (by decide) iCells_one 24 3 #[.int .i64 0] 8 Tryz.underlying24 infoIntN rfl _ _ rfl (by rfl) (w.heap.size + 2) W4 _ X x _ _ (by rfl) (by rfl) (by rfl) (by omega) HX4.out (by unfold maxLen; omega) (by omega) (by omega) ?_; intro A6 c6 w6 hown6 hc6 hg6 hl6; have b6 := (BR4.out.alloc (.cells #[.int .i64 x] 3)).grown hg6 HN1.out; have HR6 := Lib.hid b6; have H06 := Lib.hid ((B04.out.alloc (.cells #[.int .i64 x] 3)).grown hg6 HN0.out); have HT6 := Lib.hid ((BT4.out.alloc (.cells #[.int .i64 x] 3)).grown hg6 HN2.out); have HX6 := Lib.hid hown6; have HL6 := Lib.hid hl6; have HY6 := Lib.hid ((HY4.out.alloc (.cells #[.int .i64 x] 3)).grown hg6 (fun g h e => HD.out g e h)); have z6 : W4.heap.size + 1 ≤ w6.heap.size := Nat.le_trans (by simp) hg6.size; have HB6 : Hid (Below w.heap.size w w6) := Lib.hid ((HB4.out.alloc (by omega) _).grown hg6 (by simp; omega) (fun k hk => by have := (HX4.out.lt _ hk).1; omega)); clear hown6 hg6 hl6; obtain ⟨⟨m0, m1, m2, m3⟩, n0, n1, n2, n3⟩ := b6.cells; clear b6)
        obtain ⟨W7, hW7⟩ : ∃ W7, W7 = w6.setCell ⟨w.heap.size + 1, 2, none⟩ (.slice A6 (X.length + 1) c6) := ⟨_, rfl⟩
        have hN6 : (Value.slice A6 (X.length + 1) c6).ownBlock ≠ some (w.heap.size + 1) := fun e => by have := (HX6.out.lt _ e).1; omega
        have hN6' : (Value.slice A2 Y.length c2).ownBlock ≠ some (w.heap.size + 1) := fun e => by have := (HY6.out.lt _ e).1; omega
        have HR7 := Lib.hid (HR6.out.set 2 (.slice A6 (X.length + 1) c6))
        have H07 := Lib.hid (H06.out.far (p := ⟨w.heap.size + 1, 2, none⟩) (by simp) (.slice A6 (X.length + 1) c6))
        have HT7 := Lib.hid (HT6.out.far (p := ⟨w.heap.size + 1, 2, none⟩) (show wr.heap.size ≠ w.heap.size + 1 by omega) (.slice A6 (X.length + 1) c6))
        have HX7 := Lib.hid (HX6.out.set hN6 2 (.slice A6 (X.length + 1) c6))
        have HY7 := Lib.hid (HY6.out.set hN6' 2 (.slice A6 (X.length + 1) c6))
        have HB7 := Lib.hid (HB6.out.setCell (p := ⟨w.heap.size + 1, 2, none⟩) (by simp) (.slice A6 (X.length + 1) c6))
        have z7 : w6.heap.size = (w6.setCell ⟨w.heap.size + 1, 2, none⟩ (.slice A6 (X.length + 1) c6)).heap.size := by simp
        have HD7 : Hid (∀ g, (Value.slice A6 (X.length + 1) c6).ownBlock = some g → (Value.slice A2 Y.length c2).ownBlock ≠ some g) := Lib.hid fun g hg e => by
          rcases HL6.out with h | h
          · exact HD.out g (h ▸ hg) e
          · rw [h] at hg
            have := HO2lt.out g e
            cases hg
            omega
        rw [← hW7] at HR7 H07 HT7 HX7 HY7 HB7 z7 ⊢
        clear hW7 hN6 hN6' HR6 H06 HT6 HX6 HY6 HB6 HL6 HD BT4 BR4 B04 HB4 HX4 HY4 p0 p1 p2 p3 q0 q1 q2 q3 t0 t1 v0 v1 v2 v3 m0 m1 m2 m3 n0 n1 n2 n3
        have HR7' : Hid (bk W7 (w.heap.size + 1) 26 [.int .i64 sp, .int .i64 hd, .slice A6 (X.length + 1) c6, .slice A2 Y.length c2]) := HR7
        obtain ⟨⟨p0, p1, p2, p3⟩, q0, q1, q2, q3⟩ := HR7'.out.cells
        have t0 := HT7.out.cell 0
        have t1 := HT7.out.cell 1
        simp only [List.getElem?_cons_zero, List.getElem?_cons_succ] at t0 t1
        have HM0 : Hid ((Value.slice A2 Y.length c2).ownBlock ≠ some w.heap.size) := Lib.hid fun e => by have := (HY7.out.lt _ e).1; omega
        have HM1 : Hid ((Value.slice A2 Y.length c2).ownBlock ≠ some (w.heap.size + 1)) := Lib.hid fun e => by have := (HY7.out.lt _ e).1; omega
        have vR := HR7'.out.alloc (.cells #[.int .i64 y] 3)
        obtain ⟨⟨v0, v1, v2, v3⟩, -⟩ := vR.cells
        clear vR HR7
        go_upto_region 7 with (at_builtin; refine app_elem iCells 1 (fun _ => rfl) (by decide) iCells_one 24 3 #[.int .i64 0] 8 Tryz.underlying24 infoIntN rfl _ _ rfl (by rfl) (w.heap.size + 2) W7 _ Y y _ _ (by rfl) (by rfl) (by rfl) rfl HY7.out (by have := HYX.out; unfold maxLen; omega) (by have := HYX.out; omega) (by omega) ?_; intro A9 c9 w9 hown9 hc9 hg9 hl9; have b9 := (HR7'.out.alloc (.cells #[.int .i64 y] 3)).grown hg9 HM1.out; have HR9 := Lib.hid b9; have H09 := Lib.hid ((H07.out.alloc (.cells #[.int .i64 y] 3)).grown hg9 HM0.out); have HY9 := Lib.hid hown9; have HL9 := Lib.hid hl9; have HX9 := Lib.hid ((HX7.out.alloc (.cells #[.int .i64 y] 3)).grown hg9 (fun g h e => HD7.out g h e)); have z9 : W7.heap.size + 1 ≤ w9.heap.size := Nat.le_trans (by simp) hg9.size; have HB9 : Hid (Below w.heap.size w w9) := Lib.hid ((HB7.out.alloc (by omega) _).grown hg9 (by simp; omega) (fun k hk => by have := (HY7.out.lt _ hk).1; omega)); clear hown9 hg9 hl9; obtain ⟨⟨m0, m1, m2, m3⟩, n0, n1, n2, n3⟩ := b9.cells; clear b9)
        go_wp2
        go_roundw
        case rel =>
          have hK9 : (Value.slice A9 (Y.length + 1) c9).ownBlock ≠ some (w.heap.size + 1) := fun e => by have := (HY9.out.lt _ e).1; omega
          have hK9' : (Value.slice A6 (X.length + 1) c6).ownBlock ≠ some (w.heap.size + 1) := fun e => by have := (HX9.out.lt _ e).1; omega
          obtain ⟨h5, h6⟩ := List.getElem?_eq_some_iff.1 HT.out
          refine ⟨X ++ [x], Y ++ [y], A6, A9, c6, c9, by simp; omega, by simp [go_sem], Lib.hid (by simp [HYX.out]), Lib.hid ?_, Lib.hid ?_, Lib.hid (by simpa using HR9.out.set 3 (.slice A9 (Y.length + 1) c9)), Lib.hid (by simpa using HX9.out.set hK9' 3 _), Lib.hid (by simpa using HY9.out.set hK9 3 _), Lib.hid ?_, Lib.hid (H09.out.far (p := ⟨w.heap.size + 1, 3, none⟩) (by simp) _), Lib.hid (HB9.out.setCell (p := ⟨w.heap.size + 1, 3, none⟩) (by simp) _), by simp; omega⟩
          · rw [List.length_append, List.length_singleton, List.take_succ_eq_append_getElem h5, h6, List.map_append, ← HX.out]; rfl
          · rw [List.length_append, List.length_singleton, List.take_succ_eq_append_getElem h5, h6, List.map_append, ← HY.out]; rfl
          · intro g hg e
            simp only [List.length_append, List.length_singleton] at hg e
            rcases HL9.out with h | h
            · exact HD7.out g hg (h ▸ e)
            · rw [h] at e
              have := (HX7.out.lt g hg).2
              cases e
              omega
        case measure => simp [intOf] <;> omega
      · have HXL : Hid (l.map Prod.fst = X) := Lib.hid (by rw [HX.out, List.take_of_length_le (by omega)])
        have HYL : Hid (l.map Prod.snd = Y) := Lib.hid (by rw [HY.out, List.take_of_length_le (by omega)])
        have g1 : ¬ (X.length : Int) < (l.length : Int) := by omega
        have HU := Lib.hid HO1.out.ints.nums
        have HV := Lib.hid HO2.out.ints.nums
        obtain ⟨⟨p0, p1, p2, p3⟩, -⟩ := BR.out.cells
        obtain ⟨⟨r0, r1, r2, r3⟩, f0, f1, f2, f3⟩ := B0.out.cells
        have HAP : Hid (∀ b, Proofs.YtnmijppppcgobaaGreatDoor.blk (.slice A1 X.length c1) = some b → Proofs.YtnmijppppcgobaaGreatDoor.blk (.slice A2 Y.length c2) ≠ some b) := Lib.hid fun b h h' => HD.out b (blk_own h) (blk_own h')
        clear HO1 HO2 HD BR B0
        go_wp2
        refine bodyPost_ret (v := .agg #[.int .i64 sp, .int .i64 hd, .slice A1 X.length c1, .slice A2 Y.length c2]) (by simp [results, Tryz.results200, go_sem, r0, r1, r2, r3]) rfl ?_
        rw [HXL.out, HYL.out]
        have ht := ((((Turned.refl w.heap.size (w.heap.size + 1) wr).set (b := w.heap.size) 0 (.int .i64 sp) (by omega) (by omega)).set (b := w.heap.size) 1 (.int .i64 hd) (by omega) (by omega)).set (b := w.heap.size) 2 (.slice A1 X.length c1) (by omega) (by omega)).set (b := w.heap.size) 3 (.slice A2 Y.length c2) (by omega) (by omega)
        have hsz := ht.size
        exact ⟨_, _, rfl, ring_mine_of ((HU.out.turned ht (.inr (by omega)) (by omega)).mono (by omega) (by omega)) ((HV.out.turned ht (.inr (by omega)) (by omega)).mono (by omega) (by omega)) HAP.out, HB.out.trans (ht.below (Nat.le_refl _) (by omega))⟩
end Go.Proofs.YtnmijppppcgobaaGreatDoor
set_option linter.unusedVariables false
namespace Go.Proofs.YtnmijppppcgobaaGreatDoor
open Go.ChangeShapes Go.WideShapes Go.ChangeAt Go.RowKit

set_option maxRecDepth 100000 in
theorem shiftL_roll (k : Nat) (l : List Int) : shiftL k l = List.replicate (min k l.length) 0 ++ l.take (l.length - min k l.length) := by
  apply List.ext_getElem?
  intro i
  by_cases hi : i < l.length
  · rw [shiftL_at hi]
    by_cases hk : k ≤ i
    · rw [if_pos hk, List.getElem?_append_right (by rw [List.length_replicate]; omega), List.length_replicate, List.getElem?_take, if_pos (by omega), List.getD_eq_getElem?_getD, show i - min k l.length = i - k by omega, List.getElem?_eq_getElem (by omega : i - k < l.length)]; rfl
    · rw [if_neg hk, List.getElem?_append_left (by rw [List.length_replicate]; omega), List.getElem?_replicate, if_pos (by omega)]
  · rw [List.getElem?_eq_none (by rw [shiftL_len]; omega), List.getElem?_eq_none (by rw [List.length_append, List.length_replicate, List.length_take]; omega)]
set_option maxRecDepth 100000 in
theorem zip_fst {cs ss : List Int} (h : ss.length = cs.length) : (cs.zip ss).map Prod.fst = cs := List.map_fst_zip (by omega)
set_option maxRecDepth 100000 in
theorem zip_snd {cs ss : List Int} (h : ss.length = cs.length) : (cs.zip ss).map Prod.snd = ss := List.map_snd_zip (by omega)
set_option maxRecDepth 100000 in
theorem rollT_fst (k : Nat) (l : List TD) (hk : k ≤ l.length) : (rollT k l).map Prod.fst = List.replicate k 0 ++ (l.map Prod.fst).take ((l.map Prod.fst).length - k) := by
  unfold rollT
  rw [List.map_append, List.map_replicate, List.map_take, List.length_map]
set_option maxRecDepth 100000 in
theorem rollT_snd (k : Nat) (l : List TD) (hk : k ≤ l.length) : (rollT k l).map Prod.snd = List.replicate k 0 ++ (l.map Prod.snd).take ((l.map Prod.snd).length - k) := by
  unfold rollT
  rw [List.map_append, List.map_replicate, List.map_take, List.length_map]
set_option maxRecDepth 100000 in
/-- a window that rolls is a ring that rolls -/
theorem roll_win {r : RingD} {now : Int} (hok : ringOk r = true) (ht : timeB now = true) : ringRoll r now = (r.1, winHead r.1 r.2.1 now, (winRoll r.1 r.2.1 now (r.2.2.1.zip r.2.2.2)).map Prod.fst, (winRoll r.1 r.2.1 now (r.2.2.1.zip r.2.2.2)).map Prod.snd) := by
  obtain ⟨-, -, -, -, o5, -, -⟩ := ringOk_len hok
  obtain ⟨sp, hd, cs, ss⟩ := r
  simp only at o5 ⊢
  have hz : (cs.zip ss).length = cs.length := by rw [List.length_zip, o5, Nat.min_self]
  unfold ringRoll ringGo winHead winRoll
  rw [hok, ht]
  simp only [Bool.true_and, decide_eq_true_eq]
  split
  · rw [shiftL_roll, shiftL_roll, hz, rollT_fst _ _ (by rw [hz]; exact Nat.min_le_right _ _), rollT_snd _ _ (by rw [hz]; exact Nat.min_le_right _ _), zip_fst o5, zip_snd o5, o5]
  · rw [zip_fst o5, zip_snd o5]
set_option maxRecDepth 100000 in
theorem win_len {r : RingD} {now : Int} (hok : ringOk r = true) : (winRoll r.1 r.2.1 now (r.2.2.1.zip r.2.2.2)).length = r.2.2.1.length ∧ r.2.2.1.length ≤ 8 ∧ 1 ≤ r.2.2.1.length := by
  obtain ⟨-, -, o3, o4, o5, -, -⟩ := ringOk_len hok
  rw [winRoll_len, List.length_zip, o5, Nat.min_self]
  exact ⟨rfl, o4, o3⟩
end Go.Proofs.YtnmijppppcgobaaGreatDoor
set_option linter.unusedVariables false
namespace Go.Proofs.YtnmijppppcgobaaGreatDoor
open Go.ChangeShapes Go.WideShapes Go.ChangeAt Go.RowKit

set_option maxRecDepth 100000 in
theorem swapHI {p0 p1 p2 : Nat} {w : World} {vh vc vs vl vh' : Value} {a : AcctD} {l : List HoldD} (h : AcctI p0 p1 w vh vc vs vl a) (hl : HoldsR.mine p1 p2 w [vh'] l) (h01 : p0 ≤ p1) (h12 : p1 ≤ p2) : AcctI p0 p2 w vh' vc vs vl (setH a l) := by
  obtain ⟨l1, h1, l2, h2, l3, h3, m1, m2, m3, hq, d1, d2, d3⟩ := h
  exact ⟨p1, p2, l2, h2, l3, h3, hl, m2, m3, by omega, by omega, by omega, d3⟩
set_option maxRecDepth 100000 in
theorem swapRI {p0 p1 p2 : Nat} {w : World} {vh vc vs vl vc' vs' : Value} {a : AcctD} {r : RingD} (h : AcctI p0 p1 w vh vc vs vl a) (hl : RingR.mine p1 p2 w [.int .i64 r.1, .int .i64 r.2.1, vc', vs'] r) (h01 : p0 ≤ p1) (h12 : p1 ≤ p2) : AcctI p0 p2 w vh vc' vs' vl (setR a r) := by
  obtain ⟨l1, h1, l2, h2, l3, h3, m1, m2, m3, hq, d1, d2, d3⟩ := h
  exact ⟨l1, h1, p1, p2, l3, h3, m1, hl, m3, by omega, by omega, d2, by omega⟩
set_option maxRecDepth 100000 in
set_option maxHeartbeats 8000000 in
theorem implAcctSwept_any (hi : Nat) (vh vc vs vl : Value) (a : AcctD) (now : Int) (w : World) (hg : Handle w) (hz : acctSmall 1048576 a) (hbig : acctBig a) (h : AcctR.rd hi w (aCells a vh vc vs vl) a) (hh : hi ≤ w.heap.size) :
    Calls Tryz.prog 21 #[.agg #[.string (aId a), .int .i64 (aLim a), .int .i64 (aPos a), .int .i64 (aMost a), .int .i64 (aSum a), vh, .int .i64 (aR a).1, .int .i64 (aR a).2.1, vc, vs, vl], .int .i64 now] w (acctOneI (acctSwept a now) w) := by
  have HOK := Lib.hid (fun W (hW : Below w.heap.size w W) => implHasState_any hi vh vc vs vl a now W (hg.below hW (Nat.le_refl _)) hz hbig (Rep.below (R := AcctR) h hW hh) (Nat.le_trans hh hW.size))
  have HCP := Lib.hid (fun W (hW : Below w.heap.size w W) => acctCopy_any hi vh vc vs vl a W hz (Rep.below (R := AcctR) h hW hh) (Nat.le_trans hh hW.size))
  obtain ⟨vh', vc', vs', vl', hcs, r1, r2, r3, r4⟩ := acct_rd h
  simp only [aCells, List.cons.injEq, and_true, true_and] at hcs
  obtain ⟨rfl, rfl, rfl, rfl⟩ := hcs
  have HLV := Lib.hid (fun W (hW : Below w.heap.size w W) => implLiveOnes_any hi _ (aH a) now W hz.h (Rep.below (R := HoldsR) r1 hW hh) (Nat.le_trans hh hW.size))
  clear h hz hbig hg
  have HSW : Hid (acctSwept a now = if (acctOk a && timeB now) = true then setH a (liveL (aH a) now) else a) := Lib.hid rfl
  generalize (acctOk a && timeB now) = ok at HOK HSW
  generalize acctSwept a now = am at HSW ⊢
  generalize liveL (aH a) now = ls at HSW HLV
  obtain ⟨id, lim, pos, most, sum, hs, ⟨sp, hd, cs, ss⟩, sl⟩ := a
  simp only [aId, aLim, aPos, aMost, aSum, aH, aS] at r1 r2 r3 r4 HOK HCP HLV ⊢
  obtain ⟨AH, cH, rfl, -⟩ := Rep.slice_form r1
  obtain ⟨AC, cC, rfl, -⟩ := r2.form
  obtain ⟨AS, cS, rfl, -⟩ := r3.form
  obtain ⟨AL, cL, rfl, -⟩ := Rep.slice_form r4
  clear r1 r2 r3 r4
  go_enter Tryz.func21, Tryz.ntmps21
  go_upto_region 1 with fail
  obtain ⟨W, hW⟩ : ∃ W, W = (w.alloc (.cells #[.string id, .int .i64 lim, .int .i64 pos, .int .i64 most, .int .i64 sum, .slice AH hs.length cH, .int .i64 sp, .int .i64 hd, .slice AC cs.length cC, .slice AS ss.length cS, .slice AL sl.length cL] 29)).alloc (.cells #[.string ⟨#[]⟩, .int .i64 0, .int .i64 0, .int .i64 0, .int .i64 0, .slice none 0 0, .int .i64 0, .int .i64 0, .slice none 0 0, .slice none 0 0, .slice none 0 0] 29) := ⟨_, rfl⟩
  have b0 : bk W w.heap.size 29 [.string id, .int .i64 lim, .int .i64 pos, .int .i64 most, .int .i64 sum, .slice AH hs.length cH, .int .i64 sp, .int .i64 hd, .slice AC cs.length cC, .slice AS ss.length cS, .slice AL sl.length cL] := by rw [hW]; exact (bk.new w _ _).alloc _
  have b1 : bk W (w.heap.size + 1) 29 [.string ⟨#[]⟩, .int .i64 0, .int .i64 0, .int .i64 0, .int .i64 0, .slice none 0 0, .int .i64 0, .int .i64 0, .slice none 0 0, .slice none 0 0, .slice none 0 0] := by rw [hW]; simpa using bk.new (w.alloc _) 29 [.string ⟨#[]⟩, .int .i64 0, .int .i64 0, .int .i64 0, .int .i64 0, .slice none 0 0, .int .i64 0, .int .i64 0, .slice none 0 0, .slice none 0 0, .slice none 0 0]
  have HB0 : Hid (Below w.heap.size w W) := Lib.hid (by rw [hW]; exact ((Below.refl _ _).alloc (Nat.le_refl _) _).alloc (by simp) _)
  have y0 : w.heap.size + 2 ≤ W.heap.size := by rw [hW]; simp
  rw [← hW]
  clear hW
  obtain ⟨⟨p0, p1, p2, p3, p4, p5, p6, p7, p8, p9, p10⟩, -⟩ := b0.eleven
  have B0 := Lib.hid b0
  have B1 := Lib.hid b1
  clear b0 b1
  go_wp2_with fail
  refine (HCP.out W HB0.out).mono ?_
  rintro e w1 ⟨uh, uc, us, ul, rfl, hm1, hb1⟩
  obtain ⟨xh, xc, xs, xl, hcs, q1, q2, q3, q4⟩ := acct_rd hm1.mine.rd
  simp only [aCells, List.cons.injEq, and_true, true_and] at hcs
  obtain ⟨rfl, rfl, rfl, rfl⟩ := hcs
  obtain ⟨A1, c1, rfl, -⟩ := Rep.slice_form q1
  obtain ⟨A3, c3, rfl, -⟩ := q2.form
  obtain ⟨A4, c4, rfl, -⟩ := q3.form
  obtain ⟨A6, c6, rfl, -⟩ := Rep.slice_form q4
  have z1 := hb1.size
  have HM1 := Lib.hid hm1
  have HB1 : Hid (Below w.heap.size w w1) := Lib.hid (HB0.out.trans (hb1.mono (by omega)))
  have C0 := Lib.hid (B0.out.below hb1 (by omega))
  have C1 := Lib.hid (B1.out.below hb1 (by omega))
  clear hm1 hb1 HB0 HCP B0 B1 q1 q2 q3 q4 p0 p1 p2 p3 p4 p5 p6 p7 p8 p9 p10
  simp only [aH, aS, aId, aLim, aPos, aMost, aSum] at HM1 ⊢
  obtain ⟨⟨p0, p1, p2, p3, p4, p5, p6, p7, p8, p9, p10⟩, -⟩ := C0.out.eleven
  go_upto_region 2 with fail
  obtain ⟨W2, hW2⟩ : ∃ W2, W2 = w1.alloc (.cells #[.string id, .int .i64 lim, .int .i64 pos, .int .i64 most, .int .i64 sum, .slice A1 hs.length c1, .int .i64 sp, .int .i64 hd, .slice A3 cs.length c3, .slice A4 ss.length c4, .slice A6 sl.length c6] 29) := ⟨_, rfl⟩
  have b2 : bk W2 w1.heap.size 29 [.string id, .int .i64 lim, .int .i64 pos, .int .i64 most, .int .i64 sum, .slice A1 hs.length c1, .int .i64 sp, .int .i64 hd, .slice A3 cs.length c3, .slice A4 ss.length c4, .slice A6 sl.length c6] := by rw [hW2]; exact bk.new w1 _ _
  have hb2 : Below w1.heap.size w1 W2 := by rw [hW2]; exact (Below.refl _ _).alloc (Nat.le_refl _) _
  rw [← hW2]
  clear hW2
  have z2 := b2.lt
  have B0 := Lib.hid (C0.out.below hb2 (by omega))
  have B1 := Lib.hid (C1.out.below hb2 (by omega))
  have B2 := Lib.hid b2
  have HM2 := Lib.hid (HM1.out.below hb2 (Nat.le_refl _))
  have HB2 : Hid (Below w.heap.size w W2) := Lib.hid (HB1.out.trans (hb2.mono (by omega)))
  clear hb2 b2 C0 C1 HM1 HB1 p0 p1 p2 p3 p4 p5 p6 p7 p8 p9 p10
  obtain ⟨⟨p0, p1, p2, p3, p4, p5, p6, p7, p8, p9, p10⟩, -⟩ := B0.out.eleven
  go_wp2_with fail
  refine (HOK.out W2 HB2.out).mono ?_
  rintro e w3 ⟨rfl, hb3⟩
  have z3 := hb3.size
  have C0 := Lib.hid (B0.out.below hb3 (by omega))
  have C1 := Lib.hid (B1.out.below hb3 (by omega))
  have C2 := Lib.hid (B2.out.below hb3 (by omega))
  have HM3 := Lib.hid (HM2.out.below hb3 (by omega))
  have HB3 : Hid (Below w.heap.size w w3) := Lib.hid (HB2.out.trans (hb3.mono (by omega)))
  clear hb3 B0 B1 B2 HM2 HB2 HOK p0 p1 p2 p3 p4 p5 p6 p7 p8 p9 p10
  cases ok
  · have HAM : Hid (am = (id, lim, pos, most, sum, hs, (sp, hd, cs, ss), sl)) := Lib.hid (by rw [HSW.out]; rfl)
    clear HSW HLV
    have b1 := C1.out
    have b2 := C2.out
    clear C0 C1 C2
    obtain ⟨⟨p0, p1, p2, p3, p4, p5, p6, p7, p8, p9, p10⟩, -⟩ := b2.eleven
    obtain ⟨⟨r0, r1, r2, r3, r4, r5, r6, r7, r8, r9, r10⟩, g0, g1, g2, g3, g4, g5, g6, g7, g8, g9, g10⟩ := b1.eleven
    clear b1 b2
    go_wp2
    refine bodyPost_ret (v := .agg #[.string id, .int .i64 lim, .int .i64 pos, .int .i64 most, .int .i64 sum, .slice A1 hs.length c1, .int .i64 sp, .int .i64 hd, .slice A3 cs.length c3, .slice A4 ss.length c4, .slice A6 sl.length c6]) (by simp [results, Tryz.results21, go_sem, r0, r1, r2, r3, r4, r5, r6, r7, r8, r9, r10]) rfl ?_
    have ht := (((((((((((Turned.refl w.heap.size (w.heap.size + 2) w3).set (b := w.heap.size + 1) 0 (.string id) (by omega) (by omega)).set (b := w.heap.size + 1) 1 (.int .i64 lim) (by omega) (by omega)).set (b := w.heap.size + 1) 2 (.int .i64 pos) (by omega) (by omega)).set (b := w.heap.size + 1) 3 (.int .i64 most) (by omega) (by omega)).set (b := w.heap.size + 1) 4 (.int .i64 sum) (by omega) (by omega)).set (b := w.heap.size + 1) 5 (.slice A1 hs.length c1) (by omega) (by omega)).set (b := w.heap.size + 1) 6 (.int .i64 sp) (by omega) (by omega)).set (b := w.heap.size + 1) 7 (.int .i64 hd) (by omega) (by omega)).set (b := w.heap.size + 1) 8 (.slice A3 cs.length c3) (by omega) (by omega)).set (b := w.heap.size + 1) 9 (.slice A4 ss.length c4) (by omega) (by omega)).set (b := w.heap.size + 1) 10 (.slice A6 sl.length c6) (by omega) (by omega)
    have hsz := ht.size
    rw [HAM.out]
    exact ⟨_, _, _, _, rfl, (HM3.out.turned ht (.inr (by omega)) (by omega)).mono (by omega) (by omega), HB3.out.trans (ht.below (by omega) (by omega))⟩
  · have HAM : Hid (am = (id, lim, pos, most, sum, ls, (sp, hd, cs, ss), sl)) := Lib.hid (by rw [HSW.out]; rfl)
    clear HSW
    obtain ⟨⟨p0, p1, p2, p3, p4, p5, p6, p7, p8, p9, p10⟩, -⟩ := C0.out.eleven
    go_wp2_with fail
    refine (HLV.out w3 HB3.out).mono ?_
    rintro e w5 ⟨u, rfl, hu, hb5⟩
    obtain ⟨AN, cN, rfl, -⟩ := Rep.slice_form hu.rd
    have z5 := hb5.size
    have HM5 := Lib.hid (HM3.out.below hb5 (by omega))
    have HU5 := Lib.hid hu
    have HB5 : Hid (Below w.heap.size w w5) := Lib.hid (HB3.out.trans (hb5.mono (by omega)))
    have D1 := Lib.hid (C1.out.below hb5 (by omega))
    have D2 := Lib.hid (C2.out.below hb5 (by omega))
    clear hu hb5 HM3 HB3 HLV C0 C1 C2 p0 p1 p2 p3 p4 p5 p6 p7 p8 p9 p10
    obtain ⟨⟨p0, p1, p2, p3, p4, p5, p6, p7, p8, p9, p10⟩, f0, f1, f2, f3, f4, f5, f6, f7, f8, f9, f10⟩ := D2.out.eleven
    have hq := (D2.out.set 5 (.slice AN ls.length cN))
    have ht5 := (Turned.refl w1.heap.size (w1.heap.size + 1) w5).set (b := w1.heap.size) 5 (.slice AN ls.length cN) (by omega) (by omega)
    go_upto_region 4 with fail
    obtain ⟨W6, hW6⟩ : ∃ W6, W6 = (w5.setCell ⟨w1.heap.size, 5, none⟩ (.slice AN ls.length cN)) := ⟨_, rfl⟩
    rw [← hW6] at hq ht5 ⊢
    clear hW6
    have z6 := ht5.size
    have HM6 := Lib.hid (swapHI (HM5.out.turned ht5 (.inl (Nat.le_refl _)) (by omega)) ((HU5.out.turned ht5 (.inr (by omega)) (Nat.le_refl _)).mono (lo' := w1.heap.size) (hi' := W6.heap.size) (by omega) (by omega)) (by omega) (by omega))
    have HB6 := Lib.hid (HB5.out.trans (ht5.below (B := w.heap.size) (by omega) (by omega)))
    have b1 := D1.out.under ht5 (by omega)
    have b2 : bk W6 w1.heap.size 29 [.string id, .int .i64 lim, .int .i64 pos, .int .i64 most, .int .i64 sum, .slice AN ls.length cN, .int .i64 sp, .int .i64 hd, .slice A3 cs.length c3, .slice A4 ss.length c4, .slice A6 sl.length c6] := hq
    clear hq ht5 HM5 HU5 HB5 D1 D2 p0 p1 p2 p3 p4 p5 p6 p7 p8 p9 p10 f0 f1 f2 f3 f4 f5 f6 f7 f8 f9 f10
    simp only [setH, aId, aLim, aPos, aMost, aSum, aR, aS] at HM6
    obtain ⟨⟨p0, p1, p2, p3, p4, p5, p6, p7, p8, p9, p10⟩, -⟩ := b2.eleven
    obtain ⟨⟨r0, r1, r2, r3, r4, r5, r6, r7, r8, r9, r10⟩, g0, g1, g2, g3, g4, g5, g6, g7, g8, g9, g10⟩ := b1.eleven
    clear b1 b2
    go_wp2
    refine bodyPost_ret (v := .agg #[.string id, .int .i64 lim, .int .i64 pos, .int .i64 most, .int .i64 sum, .slice AN ls.length cN, .int .i64 sp, .int .i64 hd, .slice A3 cs.length c3, .slice A4 ss.length c4, .slice A6 sl.length c6]) (by simp [results, Tryz.results21, go_sem, r0, r1, r2, r3, r4, r5, r6, r7, r8, r9, r10]) rfl ?_
    have ht := (((((((((((Turned.refl w.heap.size (w.heap.size + 2) W6).set (b := w.heap.size + 1) 0 (.string id) (by omega) (by omega)).set (b := w.heap.size + 1) 1 (.int .i64 lim) (by omega) (by omega)).set (b := w.heap.size + 1) 2 (.int .i64 pos) (by omega) (by omega)).set (b := w.heap.size + 1) 3 (.int .i64 most) (by omega) (by omega)).set (b := w.heap.size + 1) 4 (.int .i64 sum) (by omega) (by omega)).set (b := w.heap.size + 1) 5 (.slice AN ls.length cN) (by omega) (by omega)).set (b := w.heap.size + 1) 6 (.int .i64 sp) (by omega) (by omega)).set (b := w.heap.size + 1) 7 (.int .i64 hd) (by omega) (by omega)).set (b := w.heap.size + 1) 8 (.slice A3 cs.length c3) (by omega) (by omega)).set (b := w.heap.size + 1) 9 (.slice A4 ss.length c4) (by omega) (by omega)).set (b := w.heap.size + 1) 10 (.slice A6 sl.length c6) (by omega) (by omega)
    have hsz := ht.size
    rw [HAM.out]
    exact ⟨_, _, _, _, rfl, (HM6.out.turned ht (.inr (by omega)) (by omega)).mono (by omega) (by omega), HB6.out.trans (ht.below (by omega) (by omega))⟩
end Go.Proofs.YtnmijppppcgobaaGreatDoor
set_option linter.unusedVariables false
namespace Go.Proofs.YtnmijppppcgobaaGreatDoor
open Go.ChangeShapes Go.WideShapes Go.ChangeAt Go.RowKit

set_option maxRecDepth 100000 in
theorem implCompareId_any (x : HoldD) (id : ByteArray) (w : World) :
    Calls Tryz.prog 78 #[.agg #[.string x.1, .int .i64 x.2.1, .int .i64 x.2.2], .string id] w fun e w' => e = .returned (.int .i64 (Lib.compareBytes x.1.data.toList id.data.toList)) ∧ Below w.heap.size w w' := by
  have HB0 : Hid (Below w.heap.size w (w.alloc (.cells #[.string x.1, .int .i64 x.2.1, .int .i64 x.2.2] 33))) := Lib.hid ((Below.refl _ _).alloc (Nat.le_refl _) _)
  have HC := Lib.hid (fun W => Tryz.strings_Compare x.1 id W)
  go_enter Tryz.func78, Tryz.ntmps78
  go_wp2_with fail
  refine (HC.out _).mono ?_
  rintro e w1 ⟨rfl, rfl⟩
  go_wp2
  go_ret
  exact ⟨rfl, HB0.out⟩
/-- the place, over the first i elements -/
def placeTo (l : List HoldD) (id : ByteArray) (i : Nat) : Nat := ((l.take i).findIdx? fun x => strLt id x.1).getD l.length
set_option maxRecDepth 100000 in
theorem placeTo_end (l : List HoldD) (id : ByteArray) : placeTo l id l.length = placeH l id := by unfold placeTo placeH; rw [List.take_length]
set_option maxRecDepth 100000 in
theorem placeTo_not {l : List HoldD} {id : ByteArray} {i : Nat} {x : HoldD} (hx : l[i]? = some x) (h : strLt id x.1 = false) : placeTo l id (i + 1) = placeTo l id i := by
  obtain ⟨hi, rfl⟩ := List.getElem?_eq_some_iff.1 hx
  unfold placeTo
  rw [List.take_succ_eq_append_getElem hi, List.findIdx?_append, List.findIdx?_cons, if_neg (by simp [h])]
  cases (l.take i).findIdx? fun x => strLt id x.1 <;> simp
set_option maxRecDepth 100000 in
theorem placeTo_yes {l : List HoldD} {id : ByteArray} {i : Nat} {x : HoldD} (hx : l[i]? = some x) (h : strLt id x.1 = true) : (placeTo l id i < i ∧ placeTo l id (i + 1) = placeTo l id i) ∨ (i < placeTo l id i ∧ placeTo l id (i + 1) = i) := by
  obtain ⟨hi, rfl⟩ := List.getElem?_eq_some_iff.1 hx
  unfold placeTo
  rw [List.take_succ_eq_append_getElem hi, List.findIdx?_append, List.findIdx?_cons, if_pos h]
  cases hf : (l.take i).findIdx? fun x => strLt id x.1 with
  | none => exact .inr ⟨by simpa using hi, by simp; omega⟩
  | some k =>
    have := (List.findIdx?_eq_some_iff_getElem.1 hf).1
    rw [List.length_take] at this
    exact .inl ⟨by simp; omega, by simp⟩
set_option maxRecDepth 100000 in
theorem placeTo_le (l : List HoldD) (id : ByteArray) (i : Nat) : placeTo l id i ≤ l.length := by
  unfold placeTo
  cases hf : (l.take i).findIdx? fun x => strLt id x.1 with
  | none => exact Nat.le_refl _
  | some k =>
    have := (List.findIdx?_eq_some_iff_getElem.1 hf).1
    rw [List.length_take] at this
    simp; omega
set_option maxRecDepth 100000 in
theorem search_none {l : List HoldD} {id : ByteArray} (h : ∀ x ∈ l, x.1 ≠ id) : searchH l id = (placeH l id, false) := by
  have h1 : l.findIdx? (fun x => decide (x.1 = id)) = none := List.findIdx?_eq_none_iff.2 fun x hx => decide_eq_false (h x hx)
  unfold searchH
  rw [h1]
set_option maxRecDepth 100000 in
theorem search_some {l : List HoldD} {id : ByteArray} {i : Nat} {x : HoldD} (hx : l[i]? = some x) (he : x.1 = id) (h : ∀ y ∈ l.take i, y.1 ≠ id) : searchH l id = (i, true) := by
  obtain ⟨hi, rfl⟩ := List.getElem?_eq_some_iff.1 hx
  have h1 : l.findIdx? (fun x => decide (x.1 = id)) = some i := by
    rw [List.findIdx?_eq_some_iff_getElem]
    refine ⟨hi, decide_eq_true he, fun j hj => ?_⟩
    have hm : l[j] ∈ l.take i := by rw [List.mem_take_iff_getElem]; exact ⟨j, by omega, rfl⟩
    simpa using h _ hm
  unfold searchH
  rw [h1]
def searchV (p : Nat × Bool) : Value := .tuple #[.int .i64 (p.1 : Int), .bool p.2]
set_option maxRecDepth 100000 in
set_option maxHeartbeats 1600000 in
theorem implSearch_any (hi : Nat) (v : Value) (l : List HoldD) (id : ByteArray) (w : World) (hn : l.length ≤ 1048576) (h : HoldsR.rd hi w [v] l) (hh : hi ≤ w.heap.size) :
    Calls Tryz.prog 77 #[v, .string id, .func (.func 78) #[] #[]] w fun e w' => e = .returned (searchV (searchH l id)) ∧ Below w.heap.size w w' := by
  obtain ⟨A, c, rfl, hc, h⟩ := holds_rd h
  have HR := Lib.hid h
  clear h
  have HST : Hid (Value.int .i64 (l.length : Int) = .int .i64 (placeTo l id 0 : Nat)) := Lib.hid rfl
  go_enter Tryz.func77, Tryz.ntmps77
  go_wp2
  go_loopw [8, 16] (fun pv iv wr => ∃ i : Nat, i ≤ l.length ∧ iv = .int .i64 i ∧ pv = .int .i64 (placeTo l id i : Nat) ∧ Hid (∀ y ∈ l.take i, y.1 ≠ id) ∧ Hid (Below w.heap.size w wr) ∧ w.heap.size ≤ wr.heap.size) (fun _ iv _ => l.length - (intOf iv).toNat)
  case atStart => exact ⟨0, Nat.zero_le _, rfl, HST.out, Lib.hid (by simp), Lib.hid (Below.refl _ _), Nat.le_refl _⟩
  case round =>
    obtain ⟨i, hi', rfl, rfl, HN, HB, hz⟩ := hrel
    by_cases hin : i < l.length
    · obtain ⟨x, hx⟩ : ∃ x, l[i]? = some x := ⟨_, List.getElem?_eq_getElem hin⟩
      obtain ⟨b, off, rfl, hbl, c0, c1, c2⟩ := HR.out i x hx
      have HX := Lib.hid hx
      have HCI := Lib.hid (fun W => implCompareId_any x id W)
      have hpl := placeTo_le l id i
      clear hx
      have c0 := (HB.out.cell (p := ⟨b, off + i * 3, none⟩) (show b < w.heap.size by omega)).trans c0
      have c1 := (HB.out.cell (p := ⟨b, off + i * 3 + 1, none⟩) (show b < w.heap.size by omega)).trans c1
      have c2 := (HB.out.cell (p := ⟨b, off + i * 3 + 2, none⟩) (show b < w.heap.size by omega)).trans c2
      have g1 : (i : Int) < (l.length : Int) := by omega
      have g2 : 0 ≤ (i : Int) := by omega
      go_upto_region 5 with fail
      obtain ⟨W, hW⟩ : ∃ W, W = wr.alloc (.cells #[.string x.1, .int .i64 x.2.1, .int .i64 x.2.2] 33) := ⟨_, rfl⟩
      have b0 : bk W wr.heap.size 33 [.string x.1, .int .i64 x.2.1, .int .i64 x.2.2] := by rw [hW]; exact bk.new wr _ _
      have HB0 : Hid (Below w.heap.size w W) := Lib.hid (by rw [hW]; exact HB.out.alloc hz _)
      have z0 := b0.lt
      rw [← hW]
      clear hW c0 c1 c2
      obtain ⟨p0, p1, p2⟩ := b0.cells3
      go_wp2_with fail
      refine (HCI.out _).mono ?_
      rintro e w1 ⟨rfl, hb1⟩
      have HB1 : Hid (Below w.heap.size w w1) := Lib.hid (HB0.out.trans (hb1.mono (by omega)))
      have z1 := hb1.size
      clear hb1 p0 p1 p2 b0
      rcases str_cmp x.1 id with ⟨h1, h2, h3, h4⟩ | ⟨h1, h2⟩ | ⟨h1, h2, h3, h4⟩
      · have HP := Lib.hid (placeTo_not HX.out h3)
        have HN2 : Hid (∀ y ∈ l.take (i + 1), y.1 ≠ id) := Lib.hid (by
          obtain ⟨h5, h6⟩ := List.getElem?_eq_some_iff.1 HX.out
          rw [List.take_succ_eq_append_getElem h5, h6]
          intro y hy
          rcases List.mem_append.1 hy with hy | hy
          · exact HN.out y hy
          · rw [List.mem_singleton.1 hy]; exact h4)
        rw [h1]
        clear h1 h2 h3 h4
        go_wp2
        go_roundw
        case rel => exact ⟨i + 1, by omega, by go_num, by rw [HP.out], HN2, HB1, by omega⟩
        case measure => simp [intOf] <;> omega
      · have HV := Lib.hid (search_some HX.out h2 HN.out)
        rw [h1]
        clear h1 h2
        go_wp2
        refine bodyPost_ret (v := .tuple #[.int .i64 (i : Int), .bool true]) (by simp [results, Tryz.results77, go_sem]) rfl ?_
        exact ⟨by rw [HV.out]; rfl, HB1.out⟩
      · have hpy := placeTo_yes HX.out h2
        have HN2 : Hid (∀ y ∈ l.take (i + 1), y.1 ≠ id) := Lib.hid (by
          obtain ⟨h5, h6⟩ := List.getElem?_eq_some_iff.1 HX.out
          rw [List.take_succ_eq_append_getElem h5, h6]
          intro y hy
          rcases List.mem_append.1 hy with hy | hy
          · exact HN.out y hy
          · rw [List.mem_singleton.1 hy]; exact h4)
        rw [h1]
        clear h1 h2 h3 h4
        rcases hpy with ⟨g3, hp⟩ | ⟨g3, hp⟩
        · have HP := Lib.hid hp
          clear hp
          generalize placeTo l id i = p at g3 HP hpl
          have g4 : (p : Int) < (i : Int) := by omega
          go_wp2
          go_roundw
          case rel => exact ⟨i + 1, by omega, by go_num, by rw [HP.out]; first | rfl | (congr 1; omega), HN2, HB1, by omega⟩
          case measure => simp [intOf] <;> omega
        · have HP := Lib.hid hp
          clear hp
          generalize placeTo l id i = p at g3 HP hpl
          have g4 : (i : Int) < (p : Int) := by omega
          go_wp2
          go_roundw
          case rel => exact ⟨i + 1, by omega, by go_num, by rw [HP.out]; first | rfl | (congr 1; omega), HN2, HB1, by omega⟩
          case measure => simp [intOf] <;> omega
    · obtain rfl : i = l.length := by omega
      have HV : Hid (searchH l id = (placeTo l id l.length, false)) := Lib.hid (by rw [placeTo_end]; exact search_none (by have := HN.out; rwa [List.take_length] at this))
      go_wp2
      refine bodyPost_ret (v := .tuple #[.int .i64 (placeTo l id l.length : Nat), .bool false]) (by simp [results, Tryz.results77, go_sem]) rfl ?_
      exact ⟨by rw [HV.out]; rfl, HB.out⟩
set_option maxRecDepth 100000 in
theorem implHoldAt_any (hi : Nat) (v : Value) (l : List HoldD) (id : ByteArray) (w : World) (hn : l.length ≤ 1048576) (h : HoldsR.rd hi w [v] l) (hh : hi ≤ w.heap.size) :
    Calls Tryz.prog 30 #[v, .string id] w fun e w' => e = .returned (.int .i64 (findH l id)) ∧ Below w.heap.size w w' := by
  have HS := Lib.hid (implSearch_any hi v l id w hn h hh)
  have HF := Lib.hid (findH_search l id)
  clear h
  generalize searchH l id = q at HS HF
  obtain ⟨p, ok⟩ := q
  unfold searchV at HS
  go_enter Tryz.func30, Tryz.ntmps30
  go_wp2_with fail
  refine HS.out.mono ?_
  rintro e w1 ⟨rfl, hb⟩
  have HB := Lib.hid hb
  clear hb
  cases ok
  · go_wp2
    go_ret
    exact ⟨ret_int (by rw [HF.out]; rfl), HB.out⟩
  · go_wp2
    go_ret
    exact ⟨ret_int (by rw [HF.out]; rfl), HB.out⟩
end Go.Proofs.YtnmijppppcgobaaGreatDoor
set_option linter.unusedVariables false
namespace Go.Proofs.YtnmijppppcgobaaGreatDoor
open Go.ChangeShapes Go.WideShapes Go.ChangeAt Go.RowKit

set_option maxRecDepth 100000 in
/-- append(s, T{..}) where s has no room; a step of a region that draws its order -/
theorem app_full_step {P : Program} {ops : Array Oper} {o : Oper} {a : Act} {Kn : Act → World → Prop} {Q : Exit → Act → World → Prop} {E : Prop} {α : Type} (enc : α → List Value) (k : Nat) (hk : ∀ x, (enc x).length = k) (hk0 : 0 < k) (hone : ∀ x, ∀ u ∈ enc x, u.oneCell' = true)
    (t e : TypeId) (zs : Array Value) (bytes : Nat) (ht : P.underlying t = some (.slice e)) (hinfo : (P.info? e).map (fun i => (i.zero.map (·.cells), i.size, i.bytes)) = some (some zs, k, bytes)) (hzs : zs.size = k)
    (s x : Operand) (hgd : o.guard = none) (ho : o.op = .call { callee := .builtin .append, args := #[s, x], argTypes := #[t, t] })
    (W : World) (A : Option Addr) (l : List α) (y : α) (n m : Nat) (us : Array Value) (hus : us.toList = enc y) (hm : m = l.length) (hs : a.eval s = .slice A m m) (hx : a.eval x = .slice (some ⟨n, 0, none⟩) 1 1) (hn : n = W.heap.size)
    (hsrc : ∀ j z, l[j]? = some z → ∃ b off, A = some ⟨b, off, none⟩ ∧ b < W.heap.size ∧ atL W b (off + j * k) (enc z)) (h63 : l.length + 1 ≤ maxLen) (hbytes : (l.length + 1) * bytes ≤ 140737488355328)
    (h : ∀ A' c w', owE e k enc (W.heap.size + 1) w' (.slice A' (l.length + 1) c) (l ++ [y]) → l.length + 1 ≤ c → (W.alloc (.cells us e)).grownBy w' none → Kn (a.put o.dst (.slice A' (l.length + 1) c)) w') : if Region.wanted o (yielded ops a.tmps) = true then o.wp P a (W.alloc (.cells us e)) Kn Q else E := by
  rw [if_pos (by simp [Region.wanted, hgd])]
  subst hn hm
  obtain ⟨i, hi, hxx⟩ := Option.map_eq_some_iff.1 hinfo
  simp only [Prod.mk.injEq] at hxx
  obtain ⟨hz, hsize, hby⟩ := hxx
  obtain ⟨z, hzz, hzc⟩ := Option.map_eq_some_iff.1 hz
  have hcells : ∀ j u, (enc y)[j]? = some u → (W.alloc (.cells us e)).cell? ((⟨W.heap.size, 0, none⟩ : Addr).add j) = some u := by
    intro j u hu
    rw [add_off, Nat.zero_add, cell_of_row _ _ j us e (0, 0) (heap_alloc_new _ _), ← Array.getElem?_toList, hus]
    exact hu
  have key : ∃ v' w1, (Builtin.append_ #[t, t] o.type #[.slice A l.length l.length, .slice (some ⟨W.heap.size, 0, none⟩) 1 1]).run P (W.alloc (.cells us e)) = .ok v' w1 ∧ w1.ownsRow (W.heap.size + 1) e k v' (l.length + 1) (l.flatMap enc ++ enc y) ∧ (W.alloc (.cells us e)).grownBy w1 none := by
    cases A with
    | none =>
      obtain rfl : l = [] := by
        cases l with
        | nil => rfl
        | cons z l => obtain ⟨b, off, e', -⟩ := hsrc 0 z rfl; cases e'
      obtain ⟨v', w1, hrun, r1, r2, _⟩ := run_append_own (P := P) (W.alloc (.cells us e)) (W.heap.size + 1) t o.type e i z k bytes ht hi hzz hsize hby (by rw [hzc, hzs]) hk0 (.slice none 0 0) 0 [] (World.ownsRow_nil _ _ e k) ⟨W.heap.size, 0, none⟩ 1 1 (enc y) (by rw [hk]; omega) hcells (hone y) (by simpa using h63) (by simpa using hbytes) (by simp)
      exact ⟨v', w1, hrun, r1, r2⟩
    | some ad =>
      have holds : ∀ j u, (l.flatMap enc)[j]? = some u → (W.alloc (.cells us e)).cell? (ad.add j) = some u := by
        intro j u hu
        have hlt := (List.getElem?_eq_some_iff.1 hu).1
        have hlen := flat_len hk l
        rw [hlen] at hlt
        have hq : j / k < l.length := by rw [Nat.div_lt_iff_lt_mul hk0]; exact hlt
        have hr : j % k < k := Nat.mod_lt _ hk0
        have hj : j = j / k * k + j % k := by rw [Nat.mul_comm]; exact (Nat.div_add_mod j k).symm
        obtain ⟨b, off, e', hb, hat⟩ := hsrc (j / k) _ (List.getElem?_eq_getElem hq)
        obtain rfl := Option.some.inj e'
        obtain ⟨u', hu'⟩ : ∃ u', (enc l[j / k])[j % k]? = some u' := ⟨_, List.getElem?_eq_getElem (show j % k < (enc l[j / k]).length by have := hk l[j / k]; omega)⟩
        have h2 := flat_at hk l (j / k) _ (List.getElem?_eq_getElem hq) (j % k) u' hu'
        rw [← hj, hu] at h2
        obtain rfl := Option.some.inj h2
        have h3 := hat (j % k) u hu'
        rw [add_off, show off + j = off + j / k * k + j % k by omega]
        exact (((Below.refl W.heap.size W).alloc (Nat.le_refl _) _).cell (p := ⟨b, _, none⟩) hb).trans h3
      obtain ⟨v', w1, hrun, r1, r2⟩ := run_append_arg_grows (P := P) (W.alloc (.cells us e)) t o.type e i z k bytes ht hi hzz hsize hby (by rw [hzc, hzs]) hk0 ad l.length l.length (l.flatMap enc) (flat_len hk l) holds ⟨W.heap.size, 0, none⟩ 1 1 (enc y) (by rw [hk]; omega) hcells (by omega) h63 hbytes
      exact ⟨v', w1, hrun, by simpa using r1, r2⟩
  obtain ⟨v', w1, hr, hown, hgrow⟩ := key
  have ho' : owE e k enc (W.heap.size + 1) w1 v' (l ++ [y]) := by
    unfold owE
    rw [List.length_append, List.flatMap_append]
    simpa using hown
  obtain ⟨A', c, rfl, hc⟩ := ho'.form
  rw [List.length_append] at ho' hc hr
  unfold Oper.wp execOp
  simp only [ho, resolve, invoke, builtin, Sem.run_bind, Sem.run_pure, Result.andThen_ok, List.map_toArray, List.map_cons, List.map_nil, hs, hx, hr]
  exact h A' c w1 ho' hc hgrow
set_option maxRecDepth 100000 in
/-- where s[p:] lies -/
theorem slice_low {A : Option Addr} {n c p k b off : Nat} (hp : p < n) (hc : n ≤ c) (hA : A = some ⟨b, off, none⟩) : (if c = p then A else Option.map (fun x => x.add (p * k)) A) = some ⟨b, off + p * k, none⟩ := by
  subst hA
  rw [if_neg (by omega)]
  simp [add_off]
end Go.Proofs.YtnmijppppcgobaaGreatDoor
set_option linter.unusedVariables false
namespace Go.Proofs.YtnmijppppcgobaaGreatDoor
open Go.ChangeShapes Go.WideShapes Go.ChangeAt Go.RowKit

set_option maxRecDepth 100000 in
theorem drop_at {l : List HoldD} {p j : Nat} {y : HoldD} (h : (l.drop p)[j]? = some y) : l[p + j]? = some y := by rwa [List.getElem?_drop] at h
set_option maxRecDepth 100000 in
theorem take_at {l : List HoldD} {p j : Nat} {y : HoldD} (h : (l.take p)[j]? = some y) : l[j]? = some y := by
  rw [List.getElem?_take] at h
  split at h
  · exact h
  · cases h
set_option maxRecDepth 100000 in
set_option maxHeartbeats 6400000 in
theorem implHoldPut_any (hi : Nat) (v : Value) (l : List HoldD) (h : HoldD) (w : World) (hn : l.length ≤ 1048576) (hs : ∀ x ∈ l, x.1.size ≤ maxLen) (hhs : h.1.size ≤ maxLen) (hr : HoldsR.rd hi w [v] l) (hh : hi ≤ w.heap.size) :
    Calls Tryz.prog 128 #[v, .agg #[.string h.1, .int .i64 h.2.1, .int .i64 h.2.2]] w (holdsRes (putH l h).1 (putH l h).2 w) := by
  have HOK := Lib.hid (fun W (hW : Below w.heap.size w W) => implHoldsOk_any hi v l W hn hs (Rep.below (R := HoldsR) hr hW hh) (Nat.le_trans hh hW.size))
  have HSR := Lib.hid (fun W (hW : Below w.heap.size w W) => implSearch_any hi v l h.1 W hn (Rep.below (R := HoldsR) hr hW hh) (Nat.le_trans hh hW.size))
  obtain ⟨A, c, rfl, hc, -⟩ := holds_rd hr
  have hS := holds_at hr
  have HS := Lib.hid (fun V (hV : Below w.heap.size w V) (j : Nat) (y : HoldD) (hy : l[j]? = some y) => show ∃ b off, A = some ⟨b, off, none⟩ ∧ b < w.heap.size ∧ atL V b (off + j * 3) (hCells y) from by
    obtain ⟨b, off, e, hb, ha⟩ := hS j y hy
    exact ⟨b, off, e, by omega, fun t u hu => (hV.cell (p := ⟨b, _, none⟩) (show b < w.heap.size by omega)).trans (ha t u hu)⟩)
  have HSZ := Lib.hid hs
  have HHS := Lib.hid hhs
  have HNO : Hid (holdsOk l = false → putH l h = ([], false)) := Lib.hid putH_no
  have HYES := Lib.hid (fun h1 => @putH_yes l h h1)
  have HNOT := Lib.hid (@putH_not l h)
  have HIS := Lib.hid (fun hk => @insL_search l h hk)
  have HL4 : Hid (holdsOk l = true → l.length ≤ 4) := Lib.hid (fun h1 => by unfold holdsOk at h1; simp only [Bool.and_eq_true, decide_eq_true_eq] at h1; exact h1.2)
  have hple := searchH_le l h.1
  have hplt := searchH_lt l h.1
  clear hr hs hS
  generalize holdsOk l = ok at HOK HNO HYES HL4 HIS
  generalize searchH l h.1 = q at HSR HIS hple hplt
  obtain ⟨p, fd⟩ := q
  unfold searchV at HSR
  simp only at hple hplt HSR HIS
  have HLT := Lib.hid hplt
  clear hplt
  go_enter Tryz.func128, Tryz.ntmps128
  go_upto_region 1 with fail
  obtain ⟨W, hW⟩ : ∃ W, W = w.alloc (.cells #[.string h.1, .int .i64 h.2.1, .int .i64 h.2.2] 33) := ⟨_, rfl⟩
  have b0 : bk W w.heap.size 33 [.string h.1, .int .i64 h.2.1, .int .i64 h.2.2] := by rw [hW]; exact bk.new w _ _
  have HB0 : Hid (Below w.heap.size w W) := Lib.hid (by rw [hW]; exact (Below.refl _ _).alloc (Nat.le_refl _) _)
  rw [← hW]
  clear hW
  have z0 := b0.lt
  go_wp2_with fail
  refine (HOK.out W HB0.out).mono ?_
  rintro e w1 ⟨rfl, hb1⟩
  have HB1 : Hid (Below w.heap.size w w1) := Lib.hid (HB0.out.trans (hb1.mono (by omega)))
  have z1 := hb1.size
  replace b0 := b0.below hb1 z0
  clear hb1 HB0
  cases ok
  · have HPN := Lib.hid (HNO.out rfl)
    go_wp2
    refine bodyPost_ret (v := .tuple #[.slice none 0 0, .bool false]) (by simp [results, Tryz.results128, go_sem]) rfl ?_
    rw [HPN.out]
    exact ⟨_, rfl, holds_none _ _ _, HB1.out⟩
  have hl4 := HL4.out rfl
  have HIL := Lib.hid (HIS.out rfl)
  have HY := Lib.hid (HYES.out rfl)
  clear HL4 HIS HYES HNO HOK
  obtain ⟨p0, p1, p2⟩ := b0.cells3
  go_wp2_with fail
  refine (HSR.out w1 HB1.out).mono ?_
  rintro e w2 ⟨rfl, hb2⟩
  have HB2 : Hid (Below w.heap.size w w2) := Lib.hid (HB1.out.trans (hb2.mono (by omega)))
  have z2 := hb2.size
  replace b0 := b0.below hb2 (by omega)
  clear hb2 HB1 p0 p1 p2
  obtain ⟨p0, p1, p2⟩ := b0.cells3
  clear b0
  have hpc : p ≤ c := by omega
  have g1 : (p : Int) ≤ (l.length : Int) := by omega
  have g2 : 0 ≤ (p : Int) := by omega
  obtain ⟨l1, hl1⟩ : ∃ l1, l1 = l.take p := ⟨_, rfl⟩
  have hp1 : p = l1.length := by rw [hl1, List.length_take]; omega
  have hl14 : l1.length ≤ 4 := by omega
  have HP1 := Lib.hid hp1
  have HS1 := Lib.hid (fun V (hV : Below w.heap.size w V) (j : Nat) (y : HoldD) (hy : l1[j]? = some y) => show ∃ b off, A = some ⟨b, off, none⟩ ∧ b < V.heap.size ∧ atL V b (off + j * 3) (hCells y) from by
    rw [hl1] at hy
    obtain ⟨b, off, e, hb, ha⟩ := HS.out V hV j y (take_at hy)
    exact ⟨b, off, e, Nat.lt_of_lt_of_le hb hV.size, ha⟩)
  have hl1n : l1.length + 1 ≤ maxLen := by unfold maxLen; omega
  have hl1b : (l1.length + 1) * 32 ≤ 140737488355328 := by omega
  clear hp1
  go_upto_region 5 with fail
  obtain ⟨A2, hA2⟩ : ∃ A2, A2 = (if c = p then A else Option.map (fun x => x.add (p * 3)) A) := ⟨_, rfl⟩
  obtain ⟨c2, hc2⟩ : ∃ c2, c2 = c - p := ⟨_, rfl⟩
  rw [← hA2, ← hc2]
  cases fd
  · obtain ⟨m, hm⟩ : ∃ m, m = l.drop p := ⟨_, rfl⟩
    have hmn : l.length - p = m.length := by rw [hm, List.length_drop]
    have hm4 : m.length ≤ 4 := by omega
    have HIN : Hid (insL l h = l1 ++ h :: m) := Lib.hid (by rw [HIL.out, hl1, hm]; rfl)
    have HS2 := Lib.hid (fun V (hV : Below w.heap.size w V) (j : Nat) (y : HoldD) (hy : m[j]? = some y) => show ∃ b off, A2 = some ⟨b, off, none⟩ ∧ atL V b (off + j * 3) (hCells y) from by
      have hj := (List.getElem?_eq_some_iff.1 hy).1
      rw [hm] at hy
      obtain ⟨b, off, e, hb, ha⟩ := HS.out V hV (p + j) y (drop_at hy)
      exact ⟨b, off + p * 3, by rw [hA2]; exact slice_low (n := l.length) (by omega) hc e, by rw [show off + p * 3 + j * 3 = off + (p + j) * 3 by omega]; exact ha⟩)
    have HSM : Hid (∀ x ∈ l1 ++ h :: m, x.1.size ≤ maxLen) := Lib.hid (fun x hx => by
      rw [hl1, hm] at hx
      rcases List.mem_append.1 hx with hx | hx
      · exact HSZ.out x (List.mem_of_mem_take hx)
      · rcases List.mem_cons.1 hx with rfl | hx
        · exact HHS.out
        · exact HSZ.out x (List.mem_of_mem_drop hx))
    rw [hmn]
    clear hA2 hm hmn hl1 HS HSR HIL HLT HSZ HHS hc2
    go_upto_region 7 with fail
    go_region_law (refine app_full_step hCells 3 (fun _ => rfl) (by decide) hCells_one 23 33 #[.string ⟨#[]⟩, .int .i64 0, .int .i64 0] 32 Tryz.underlying23 infoHold rfl _ _ (by rfl) (by rfl) w2.drew A l1 h _ p _ (by rfl) HP1.out (by rfl) (by rfl) rfl (HS1.out w2.drew HB2.out.drew) hl1n hl1b ?_; intro A6 c6 w6 hown6 hc6 hg6; have z6 := hg6.size; have hb6 : Below w2.heap.size w2 w6 := ((Below.refl w2.heap.size w2).drew.alloc (Nat.le_refl _) (.cells #[.string h.1, .int .i64 h.2.1, .int .i64 h.2.2] 33)).grown hg6 (by simp) (by simp); have HO6 := Lib.hid hown6; have HB6 : Hid (Below w.heap.size w w6) := Lib.hid (HB2.out.trans (hb6.mono (by omega))); clear hown6 hg6 hb6)
    all_goals
      obtain ⟨L, hL⟩ : ∃ L, L = l1 ++ h :: m := ⟨_, rfl⟩
      have hLn : (l1 ++ [h]).length + m.length = L.length := by rw [hL]; simp; omega
      have hLm : l1.length + 1 + m.length = L.length := by rw [hL]; simp; omega
      have hLe : (l1 ++ [h]) ++ m = L := by rw [hL]; simp
      have hL5 : L.length ≤ 16 := by rw [hL]; simp; omega
      have hz6 : w2.heap.size + 1 ≤ w6.heap.size := by simpa using z6
      rw [← hL] at HIN HSM
      have HSS := Lib.hid (HS2.out w6 HB6.out)
      have hs1 : (l1 ++ [h]).length + m.length ≤ maxLen := by rw [hLn]; unfold maxLen; omega
      have hs2 : ((l1 ++ [h]).length + m.length) * 32 ≤ 140737488355328 := by rw [hLn]; omega
      clear HS1 HS2 hl1n hl1b hL z6 p0 p1 p2 HB2
      go_upto_region 8 with fail
      simp only [Act.put, List.getElem_toArray, List.getElem_cons_zero, List.getElem_cons_succ, List.setIfInBounds_toArray, List.set_cons_zero, List.set_cons_succ]
      go_wp2_with (at_builtin; go_loud (refine app_rows hCells 3 (fun _ => rfl) (by decide) hCells_one 23 33 #[.string ⟨#[]⟩, .int .i64 0, .int .i64 0] 32 Tryz.underlying23 infoHold rfl _ _ rfl rfl (w2.heap.size + 1) w6 _ (l1 ++ [h]) m _ _ (by rfl) (by rfl) HO6.out HSS.out hs1 hs2 hz6 ?_))
      intro A7 c7 w7 ho7 hg7 hb7
      have hz7 := hg7.size
      have HB7 : Hid (Below w.heap.size w w7) := Lib.hid (HB6.out.trans (hb7.mono (by omega)))
      have HO7 : Hid (owE 33 3 hCells (w2.heap.size + 1) w7 (.slice A7 L.length c7) L) := Lib.hid ho7
      have HM7 := Lib.hid (owE_holds HO7.out)
      have HOK7 := Lib.hid (implHoldsOk_any w7.heap.size _ L w7 (by omega) HSM.out HM7.out.rd (Nat.le_refl _))
      have HYF := Lib.hid (fun hk : holdsOk L = true => HY.out (by rw [HIN.out]; exact hk))
      have HNF := Lib.hid (fun hk : holdsOk L = false => HNOT.out (by rw [HIN.out]; exact hk))
      rw [HIN.out] at HYF
      clear ho7 hg7 hb7 HY HNOT HIN HSM HO6 HB6 HSS hLe hLn hLm hs1 hs2
      generalize holdsOk L = ok2 at HOK7 HYF HNF
      go_wp2_with fail
      refine HOK7.out.mono ?_
      rintro e w8 ⟨rfl, hb8⟩
      have HB8 : Hid (Below w.heap.size w w8) := Lib.hid (HB7.out.trans (hb8.mono (by omega)))
      have HM8 := Lib.hid (HM7.out.below hb8 (Nat.le_refl _))
      have hz8 := hb8.size
      clear hb8 HOK7 HB7 HM7
      cases ok2
      · go_wp2
        refine bodyPost_ret (v := .tuple #[.slice none 0 0, .bool false]) (by simp [results, Tryz.results128, go_sem]) rfl ?_
        rw [HNF.out (by trivial)]
        exact ⟨_, rfl, holds_none _ _ _, HB8.out⟩
      · go_wp2
        refine bodyPost_ret (v := .tuple #[.slice A7 L.length c7, .bool true]) (by simp [results, Tryz.results128, go_sem]) rfl ?_
        rw [HYF.out (by trivial)]
        exact ⟨_, rfl, HM8.out.mono (by omega) (by omega), HB8.out⟩
  · have hlt := HLT.out rfl
    obtain ⟨r, hr⟩ : ∃ r, l.length - p = r := ⟨_, rfl⟩
    have hr1 : 1 ≤ r := by omega
    have hrc : r ≤ c2 := by omega
    rw [hr]
    have HA2 := Lib.hid hA2
    have HC2 := Lib.hid hc2
    have HR := Lib.hid hr
    clear hA2 hc2 hr
    go_upto_region 7 with fail
    obtain ⟨A4, hA4⟩ : ∃ A4, A4 = (if c2 = 1 then A2 else Option.map (fun x => (⟨x.block, x.off + 3, none⟩ : Addr)) A2) := ⟨_, rfl⟩
    rw [← hA4]
    obtain ⟨m, hm⟩ : ∃ m, m = l.drop (p + 1) := ⟨_, rfl⟩
    have hmn : r - 1 = m.length := by rw [hm, List.length_drop]; have := HR.out; omega
    have hm4 : m.length ≤ 4 := by have := HR.out; omega
    have HIN : Hid (insL l h = l1 ++ h :: m) := Lib.hid (by rw [HIL.out, hl1, hm]; rfl)
    have HS2 := Lib.hid (fun V (hV : Below w.heap.size w V) (j : Nat) (y : HoldD) (hy : m[j]? = some y) => show ∃ b off, A4 = some ⟨b, off, none⟩ ∧ atL V b (off + j * 3) (hCells y) from by
      have hj := (List.getElem?_eq_some_iff.1 hy).1
      rw [hm] at hy
      obtain ⟨b, off, e, hb, ha⟩ := HS.out V hV (p + 1 + j) y (drop_at hy)
      exact ⟨b, off + p * 3 + 1 * 3, by rw [hA4, HA2.out, slice_low (n := l.length) (by omega) hc e, if_neg (by have := HR.out; have := HC2.out; omega)]; rfl, by rw [show off + p * 3 + 1 * 3 + j * 3 = off + (p + 1 + j) * 3 by omega]; exact ha⟩)
    have HSM : Hid (∀ x ∈ l1 ++ h :: m, x.1.size ≤ maxLen) := Lib.hid (fun x hx => by
      rw [hl1, hm] at hx
      rcases List.mem_append.1 hx with hx | hx
      · exact HSZ.out x (List.mem_of_mem_take hx)
      · rcases List.mem_cons.1 hx with rfl | hx
        · exact HHS.out
        · exact HSZ.out x (List.mem_of_mem_drop hx))
    rw [hmn]
    clear hA4 HA2 hm hmn hl1 HS HSR HIL HLT HSZ HHS HR HC2
    go_upto_region 7 with fail
    go_region_law (refine app_full_step hCells 3 (fun _ => rfl) (by decide) hCells_one 23 33 #[.string ⟨#[]⟩, .int .i64 0, .int .i64 0] 32 Tryz.underlying23 infoHold rfl _ _ (by rfl) (by rfl) w2.drew A l1 h _ p _ (by rfl) HP1.out (by rfl) (by rfl) rfl (HS1.out w2.drew HB2.out.drew) hl1n hl1b ?_; intro A6 c6 w6 hown6 hc6 hg6; have z6 := hg6.size; have hb6 : Below w2.heap.size w2 w6 := ((Below.refl w2.heap.size w2).drew.alloc (Nat.le_refl _) (.cells #[.string h.1, .int .i64 h.2.1, .int .i64 h.2.2] 33)).grown hg6 (by simp) (by simp); have HO6 := Lib.hid hown6; have HB6 : Hid (Below w.heap.size w w6) := Lib.hid (HB2.out.trans (hb6.mono (by omega))); clear hown6 hg6 hb6)
    all_goals
      obtain ⟨L, hL⟩ : ∃ L, L = l1 ++ h :: m := ⟨_, rfl⟩
      have hLn : (l1 ++ [h]).length + m.length = L.length := by rw [hL]; simp; omega
      have hLm : l1.length + 1 + m.length = L.length := by rw [hL]; simp; omega
      have hLe : (l1 ++ [h]) ++ m = L := by rw [hL]; simp
      have hL5 : L.length ≤ 16 := by rw [hL]; simp; omega
      have hz6 : w2.heap.size + 1 ≤ w6.heap.size := by simpa using z6
      rw [← hL] at HIN HSM
      have HSS := Lib.hid (HS2.out w6 HB6.out)
      have hs1 : (l1 ++ [h]).length + m.length ≤ maxLen := by rw [hLn]; unfold maxLen; omega
      have hs2 : ((l1 ++ [h]).length + m.length) * 32 ≤ 140737488355328 := by rw [hLn]; omega
      clear HS1 HS2 hl1n hl1b hL z6 p0 p1 p2 HB2
      go_upto_region 8 with fail
      simp only [Act.put, List.getElem_toArray, List.getElem_cons_zero, List.getElem_cons_succ, List.setIfInBounds_toArray, List.set_cons_zero, List.set_cons_succ]
      go_wp2_with (at_builtin; go_loud (refine app_rows hCells 3 (fun _ => rfl) (by decide) hCells_one 23 33 #[.string ⟨#[]⟩, .int .i64 0, .int .i64 0] 32 Tryz.underlying23 infoHold rfl _ _ rfl rfl (w2.heap.size + 1) w6 _ (l1 ++ [h]) m _ _ (by rfl) (by rfl) HO6.out HSS.out hs1 hs2 hz6 ?_))
      intro A7 c7 w7 ho7 hg7 hb7
      have hz7 := hg7.size
      have HB7 : Hid (Below w.heap.size w w7) := Lib.hid (HB6.out.trans (hb7.mono (by omega)))
      have HO7 : Hid (owE 33 3 hCells (w2.heap.size + 1) w7 (.slice A7 L.length c7) L) := Lib.hid ho7
      have HM7 := Lib.hid (owE_holds HO7.out)
      have HOK7 := Lib.hid (implHoldsOk_any w7.heap.size _ L w7 (by omega) HSM.out HM7.out.rd (Nat.le_refl _))
      have HYF := Lib.hid (fun hk : holdsOk L = true => HY.out (by rw [HIN.out]; exact hk))
      have HNF := Lib.hid (fun hk : holdsOk L = false => HNOT.out (by rw [HIN.out]; exact hk))
      rw [HIN.out] at HYF
      clear ho7 hg7 hb7 HY HNOT HIN HSM HO6 HB6 HSS hLe hLn hLm hs1 hs2
      generalize holdsOk L = ok2 at HOK7 HYF HNF
      go_wp2_with fail
      refine HOK7.out.mono ?_
      rintro e w8 ⟨rfl, hb8⟩
      have HB8 : Hid (Below w.heap.size w w8) := Lib.hid (HB7.out.trans (hb8.mono (by omega)))
      have HM8 := Lib.hid (HM7.out.below hb8 (Nat.le_refl _))
      have hz8 := hb8.size
      clear hb8 HOK7 HB7 HM7
      cases ok2
      · go_wp2
        refine bodyPost_ret (v := .tuple #[.slice none 0 0, .bool false]) (by simp [results, Tryz.results128, go_sem]) rfl ?_
        rw [HNF.out (by trivial)]
        exact ⟨_, rfl, holds_none _ _ _, HB8.out⟩
      · go_wp2
        refine bodyPost_ret (v := .tuple #[.slice A7 L.length c7, .bool true]) (by simp [results, Tryz.results128, go_sem]) rfl ?_
        rw [HYF.out (by trivial)]
        exact ⟨_, rfl, HM8.out.mono (by omega) (by omega), HB8.out⟩
end Go.Proofs.YtnmijppppcgobaaGreatDoor
set_option linter.unusedVariables false
namespace Go.Proofs.YtnmijppppcgobaaGreatDoor
open Go.ChangeShapes Go.WideShapes Go.ChangeAt Go.RowKit

set_option maxRecDepth 100000 in
set_option maxHeartbeats 4000000 in
theorem implTally_any (b : Nat) (T : TypeId) (CS : List Value) (x y dx dy : Int) (w : World) (hb : bk w b T CS) (h0 : CS[0]? = some (.int .i64 x)) (h1 : CS[1]? = some (.int .i64 y)) (hg : Handle w) :
    Calls Tryz.prog 151 #[.pointer (some ⟨b, 0, none⟩), .agg #[.int .i64 dx, .int .i64 dy]] w fun e w' => e = .returned (.tuple #[]) ∧ Turned b (b + 1) w w' ∧ bk w' b T ((CS.set 0 (.int .i64 (satVal x dx))).set 1 (.int .i64 (satVal y dy))) := by
  have hne := hg.ne hb h0
  have hlt := hb.lt
  have HG := Lib.hid hg
  have HBK := Lib.hid hb
  have H0 := Lib.hid h0
  have H1 := Lib.hid h1
  clear hg hb h0 h1
  go_enter Tryz.func151, Tryz.ntmps151
  go_upto_region 1 with fail
  obtain ⟨W, hW⟩ : ∃ W, W = w.alloc (.cells #[.int .i64 dx, .int .i64 dy] 104) := ⟨_, rfl⟩
  have b0 : bk W w.heap.size 104 [.int .i64 dx, .int .i64 dy] := by rw [hW]; exact bk.new w _ _
  have HB0 : Hid (Below w.heap.size w W) := Lib.hid (by rw [hW]; exact (Below.refl _ _).alloc (Nat.le_refl _) _)
  have z0 : W.heap.size = w.heap.size + 1 := by rw [hW]; simp
  rw [← hW]
  clear hW
  have HG1 := Lib.hid (HG.out.below HB0.out (Nat.le_refl _))
  have HK1 := Lib.hid (HBK.out.below HB0.out hlt)
  have B0 := Lib.hid b0
  have p0 := b0.cell 0
  have p1 := b0.cell 1
  have c0 := HK1.out.cell 0
  rw [H0.out] at c0
  have g0 := HG1.out
  unfold Handle at g0
  simp only [List.getElem?_cons_zero, List.getElem?_cons_succ] at p0 p1
  have n0 : w.heap.size ≠ b := by omega
  have n3 : b ≠ w.heap.size := by omega
  have n1 := Ne.symm hne
  have n2 : w.heap.size ≠ 1 := by have := HG.out.lt; omega
  clear b0
  go_region_law (go_simp; go_at_call 70; refine (implSat_any x dx W.drew HG1.out).mono ?_; rintro e w2 ⟨rfl, hb2⟩; have b2 := B0.out.drew.below hb2 (show w.heap.size < W.heap.size by omega); have q0 := b2.cell 0; have q1 := b2.cell 1; simp only [List.getElem?_cons_zero, List.getElem?_cons_succ] at q0 q1; have g2 : Handle w2 := Handle.below (w := W.drew) HG1.out hb2 (Nat.le_refl _); have HG2 := Lib.hid g2; unfold Handle at g2; have k2 := HK1.out.drew.below hb2 (show b < W.heap.size by omega); have d0 := k2.cell 0; have f0 := k2.frozen 0; rw [H0.out] at d0; have HK2 := Lib.hid k2; have B2 := Lib.hid b2; have HB2 := Lib.hid hb2; clear b2 k2 hb2)
  all_goals
    obtain ⟨W3, hW3⟩ : ∃ W3, W3 = w2.setCell ⟨b, 0, none⟩ (.int .i64 (satVal x dx)) := ⟨_, rfl⟩
    have z2 : W.heap.size ≤ w2.heap.size := HB2.out.size
    have HT3 := Lib.hid (((Turned.of_below (lo := b) (hi := b + 1) HB0.out).trans (Turned.of_below (lo := b) (hi := b + 1) (Below.refl W.heap.size W).drew)).trans ((Turned.of_below (lo := b) (hi := b + 1) HB2.out).set (b := b) 0 (.int .i64 (satVal x dx)) (Nat.le_refl _) (Nat.lt_succ_self _)))
    have HK3 := Lib.hid (HK2.out.set 0 (.int .i64 (satVal x dx)))
    have B3 := Lib.hid (B2.out.far (p := ⟨b, 0, none⟩) n0 (.int .i64 (satVal x dx)))
    have HG3 : Hid (Handle (w2.setCell ⟨b, 0, none⟩ (.int .i64 (satVal x dx)))) := Lib.hid ((cell_keep (Below.heap_setCell _ _ _ _ n1)).trans HG2.out)
    have z3 : w2.heap.size = (w2.setCell ⟨b, 0, none⟩ (.int .i64 (satVal x dx))).heap.size := by simp
    rw [← hW3] at HT3 HK3 B3 HG3 z3 ⊢
    clear hW3 p0 p1 c0 g0 q0 q1 g2 d0 f0 HK2 B2 HG2 HB2 HK1 B0 HG1
    have p0 := B3.out.cell 0
    have p1 := B3.out.cell 1
    have c1 := HK3.out.cell 1
    rw [List.getElem?_set_ne (by decide), H1.out] at c1
    simp only [List.getElem?_cons_zero, List.getElem?_cons_succ] at p0 p1
    have y3 := HK3.out.lt
    go_upto_region 2 with fail
    go_region_law (go_simp; go_at_call 70; refine (implSat_any y dy W3.drew HG3.out).mono ?_; rintro e w4 ⟨rfl, hb4⟩; have k4 := HK3.out.drew.below hb4 (show b < W3.heap.size from y3); have d1 := k4.cell 1; have f1 := k4.frozen 1; rw [List.getElem?_set_ne (by decide), H1.out] at d1; have HK4 := Lib.hid k4; have HB4 := Lib.hid hb4; clear k4 hb4)
    all_goals
      go_wp2
      refine bodyPost_end (results_none rfl _ _ _) rfl ?_
      exact ⟨rfl, (HT3.out.trans (Turned.of_below (lo := b) (hi := b + 1) (Below.refl W3.heap.size W3).drew)).trans ((Turned.of_below (lo := b) (hi := b + 1) HB4.out).set (b := b) 1 (.int .i64 (satVal y dy)) (Nat.le_refl _) (Nat.lt_succ_self _)), HK4.out.set 1 _⟩
set_option maxRecDepth 100000 in
theorem implNewest_any (B p g c : Nat) (sp hd : Int) (l : List TD) (w : World) (hw : Win B w p sp hd (.slice (some ⟨g, 0, none⟩) l.length c) l) (hl : 1 ≤ l.length) :
    Calls Tryz.prog 199 #[.pointer (some ⟨p, 0, none⟩)] w fun e w' => e = .returned (.pointer (some ⟨g, 0, none⟩)) ∧ w = w' := by
  obtain ⟨⟨p0, p1, p2⟩, -⟩ := hw.at_.three
  have g1 : (0 : Int) < (l.length : Int) := by omega
  clear hw
  go_enter Tryz.func199, Tryz.ntmps199
  go_wp2
  go_ret
  exact ⟨rfl, rfl⟩
set_option maxRecDepth 100000 in
/-- the first element of such a row: its two cells, and what the row is once they are others -/
theorem owE.first {T : TypeId} {B g c n : Nat} {w : World} {t : TD} {l : List TD} (h : owE T 2 tCells B w (.slice (some ⟨g, 0, none⟩) n c) (t :: l)) : ∃ CS, bk w g T CS ∧ CS[0]? = some (.int .i64 t.1) ∧ CS[1]? = some (.int .i64 t.2) ∧ ∀ (w' : World) (x y : Int), bk w' g T ((CS.set 0 (.int .i64 x)).set 1 (.int .i64 y)) → owE T 2 tCells B w' (.slice (some ⟨g, 0, none⟩) n c) ((x, y) :: l) := by
  obtain ⟨h1, h2⟩ := h
  rcases h2 with ⟨h', _⟩ | ⟨g', cap, cur, h', hB, hg, hn, hm, hs, ht⟩
  · simp at h'
  simp only [Value.slice.injEq, Option.some.injEq, Addr.mk.injEq, and_true] at h'
  obtain ⟨rfl, rfl, rfl⟩ := h'
  rw [List.length_cons] at hn ht
  have e2 : (l.length + 1) * 2 = l.length * 2 + 2 := by omega
  rw [e2, List.flatMap_cons] at ht
  have hlen : 2 ≤ cur.toList.length := by rw [Array.length_toList, hs]; omega
  have c0 : cur.toList[0]? = some (.int .i64 t.1) := by
    have := congrArg (fun L => L[0]?) ht
    simpa [tCells] using this
  have c1 : cur.toList[1]? = some (.int .i64 t.2) := by
    have := congrArg (fun L => L[1]?) ht
    simpa [tCells] using this
  refine ⟨cur.toList, by simpa [bk] using hg, c0, c1, fun w' x y hb => ⟨by simp only [List.flatMap_cons, List.length_append, List.length_cons] at h1 ⊢; simpa [tCells] using h1, Or.inr ⟨g, c, ((cur.toList.set 0 (.int .i64 x)).set 1 (.int .i64 y)).toArray, rfl, hB, hb, by rw [List.length_cons]; exact hn, hm, by simpa using hs, ?_⟩⟩⟩
  rw [List.length_cons, e2, List.flatMap_cons]
  show ((cur.toList.set 0 (.int .i64 x)).set 1 (.int .i64 y)).take (l.length * 2 + 2) = _
  rw [List.take_set, List.take_set, ht]
  rfl
end Go.Proofs.YtnmijppppcgobaaGreatDoor
set_option linter.unusedVariables false
namespace Go.Proofs.YtnmijppppcgobaaGreatDoor
open Go.ChangeShapes Go.WideShapes Go.ChangeAt Go.RowKit

set_option maxRecDepth 100000 in
theorem add_not {r : RingD} {now amount : Int} (h : (ringOk r && timeB now && isMon amount) = false) : ringAdd r now amount = r := by
  unfold ringAdd ringIn
  rw [← Bool.and_assoc, h]
  rfl
set_option maxRecDepth 100000 in
theorem add_win {r : RingD} {now amount : Int} (hok : ringOk r = true) (ht : timeB now = true) (hm : isMon amount = true) {t : TD} {l : List TD} (h : winRoll r.1 r.2.1 now (r.2.2.1.zip r.2.2.2) = t :: l) :
    ringAdd r now amount = (r.1, winHead r.1 r.2.1 now, ((satVal t.1 1, satVal t.2 amount) :: l).map Prod.fst, ((satVal t.1 1, satVal t.2 amount) :: l).map Prod.snd) := by
  unfold ringAdd ringIn
  rw [hok, ht, hm, roll_win hok ht, h]
  rfl
set_option maxRecDepth 100000 in
set_option maxHeartbeats 4000000 in
theorem implRingAdd_any (hi : Nat) (vc vs : Value) (r : RingD) (now amount : Int) (w : World) (hg : Handle w) (h1 : rd .i64 hi w vc r.2.2.1) (h2 : rd .i64 hi w vs r.2.2.2) (hh : hi ≤ w.heap.size) (hc : r.2.2.1.length ≤ 1048576) (hs : r.2.2.2.length ≤ 1048576) :
    Calls Tryz.prog 132 #[.agg #[.int .i64 r.1, .int .i64 r.2.1, vc, vs], .int .i64 now, .int .i64 amount] w (ringOne (ringAdd r now amount) w) := by
  have HG := Lib.hid hg
  obtain ⟨A1, c1, rfl, -⟩ := h1.form
  obtain ⟨A2, c2, rfl, -⟩ := h2.form
  have HCP := Lib.hid (fun W (hW : Below w.heap.size w W) => implCopy_any hi _ _ r W (h1.below hW hh) (h2.below hW hh) (Nat.le_trans hh hW.size) hc hs)
  have HCR := Lib.hid (fun W (hW : Below w.heap.size w W) => implCanRoll_any hi _ _ r now W (h1.below hW hh) (h2.below hW hh) (Nat.le_trans hh hW.size) hc hs)
  have HWA := Lib.hid (fun hk ht W (hW : Below w.heap.size w W) => implWindow_any hi _ _ r now W (h1.below hW hh) (h2.below hW hh) (Nat.le_trans hh hW.size) hk ht)
  have HMO := Lib.hid (fun W => implIsMon_any amount W)
  have HRW := Lib.hid (fun hk ht hm t l => add_win (r := r) (now := now) (amount := amount) hk ht hm (t := t) (l := l))
  have HRN := Lib.hid (fun h => add_not (r := r) (now := now) (amount := amount) h)
  have HLN := Lib.hid (fun hk => win_len (r := r) (now := now) hk)
  clear h1 h2 hg
  generalize ringOk r = ok at HCR HWA HRW HRN HLN
  generalize timeB now = tm at HCR HWA HRW HRN
  generalize isMon amount = mo at HMO HRW HRN
  obtain ⟨sp, hd, uc, us⟩ := r
  simp only at hc hs HCP HCR HWA HRW HRN HLN ⊢
  go_enter Tryz.func132, Tryz.ntmps132
  go_upto_region 1 with fail
  obtain ⟨W, hW⟩ : ∃ W, W = (w.alloc (.cells #[.int .i64 sp, .int .i64 hd, .slice A1 uc.length c1, .slice A2 us.length c2] 26)).alloc (.cells #[.int .i64 0, .int .i64 0, .slice none 0 0, .slice none 0 0] 26) := ⟨_, rfl⟩
  have b0 : bk W w.heap.size 26 [.int .i64 sp, .int .i64 hd, .slice A1 uc.length c1, .slice A2 us.length c2] := by rw [hW]; exact (bk.new w _ _).alloc _
  have b1 : bk W (w.heap.size + 1) 26 [.int .i64 0, .int .i64 0, .slice none 0 0, .slice none 0 0] := by rw [hW]; simpa using bk.new (w.alloc _) _ _
  have HB0 : Hid (Below w.heap.size w W) := Lib.hid (by rw [hW]; exact ((Below.refl _ _).alloc (Nat.le_refl _) _).alloc (by simp) _)
  have z0 : w.heap.size + 2 ≤ W.heap.size := by rw [hW]; simp
  rw [← hW]
  clear hW
  obtain ⟨⟨p0, p1, p2, p3⟩, -⟩ := b0.cells
  go_wp2_with fail
  refine (HCR.out W HB0.out).mono ?_
  rintro e w0 ⟨rfl, hb0⟩
  have y0 := hb0.size
  have HBX : Hid (Below w.heap.size w w0) := Lib.hid (HB0.out.trans (hb0.mono (by omega)))
  replace b0 := b0.below hb0 (by omega)
  replace b1 := b1.below hb0 (by omega)
  clear hb0 HB0 p0 p1 p2 p3 HCR
  obtain ⟨⟨p0, p1, p2, p3⟩, -⟩ := b0.cells
  cases hg : (ok && tm)
  · have HRF := Lib.hid (HRN.out (by rw [hg]; rfl))
    clear hg
    clear HRW HWA HLN b0 HRN
    go_wp2_with fail
    refine (HCP.out w0 HBX.out).mono ?_
    rintro e w1 ⟨vc', vs', rfl, hm1, hb1⟩
    clear p0 p1 p2 p3 HCP
    obtain ⟨vc2, vs2, hv, hnc, hns, hap⟩ := ring_mine hm1
    simp only [List.cons.injEq, and_true, true_and] at hv
    obtain ⟨rfl, rfl⟩ := hv
    obtain ⟨AU, cU, rfl, -⟩ := hnc.form
    obtain ⟨AV, cV, rfl, -⟩ := hns.form
    have z1 := hb1.size
    replace b1 := b1.below hb1 (by omega)
    have HB1 : Hid (Below w.heap.size w w1) := Lib.hid (HBX.out.trans (hb1.mono (by omega)))
    have HU := Lib.hid hnc
    have HV := Lib.hid hns
    have HAP := Lib.hid hap
    clear hm1 hb1 hnc hns hap
    obtain ⟨⟨r0, r1, r2, r3⟩, f0, f1, f2, f3⟩ := b1.cells
    clear b1
    go_wp2
    refine bodyPost_ret (v := .agg #[.int .i64 sp, .int .i64 hd, .slice AU uc.length cU, .slice AV us.length cV]) (by simp [results, Tryz.results132, go_sem, r0, r1, r2, r3]) rfl ?_
    rw [HRF.out]
    have ht := ((((Turned.refl (w.heap.size + 1) (w.heap.size + 2) w1).set (b := w.heap.size + 1) 0 (.int .i64 sp) (by omega) (by omega)).set (b := w.heap.size + 1) 1 (.int .i64 hd) (by omega) (by omega)).set (b := w.heap.size + 1) 2 (.slice AU uc.length cU) (by omega) (by omega)).set (b := w.heap.size + 1) 3 (.slice AV us.length cV) (by omega) (by omega)
    have hsz := ht.size
    exact ⟨_, _, rfl, ring_mine_of ((HU.out.turned ht (.inr (by omega)) (by omega)).mono (by omega) (by omega)) ((HV.out.turned ht (.inr (by omega)) (by omega)).mono (by omega) (by omega)) HAP.out, HB1.out.trans (ht.below (by omega) (by omega))⟩
  · simp only [Bool.and_eq_true] at hg
    obtain ⟨rfl, rfl⟩ := hg
    go_wp2_with fail
    refine (HMO.out _).mono ?_
    rintro e w9 ⟨rfl, rfl⟩
    cases mo
    · have HRF := Lib.hid (HRN.out (by trivial))
      clear HRW HWA HLN b0 HRN
      go_wp2_with fail
      refine (HCP.out w0 HBX.out).mono ?_
      rintro e w1 ⟨vc', vs', rfl, hm1, hb1⟩
      clear p0 p1 p2 p3 HCP
      obtain ⟨vc2, vs2, hv, hnc, hns, hap⟩ := ring_mine hm1
      simp only [List.cons.injEq, and_true, true_and] at hv
      obtain ⟨rfl, rfl⟩ := hv
      obtain ⟨AU, cU, rfl, -⟩ := hnc.form
      obtain ⟨AV, cV, rfl, -⟩ := hns.form
      have z1 := hb1.size
      replace b1 := b1.below hb1 (by omega)
      have HB1 : Hid (Below w.heap.size w w1) := Lib.hid (HBX.out.trans (hb1.mono (by omega)))
      have HU := Lib.hid hnc
      have HV := Lib.hid hns
      have HAP := Lib.hid hap
      clear hm1 hb1 hnc hns hap
      obtain ⟨⟨r0, r1, r2, r3⟩, f0, f1, f2, f3⟩ := b1.cells
      clear b1
      go_wp2
      refine bodyPost_ret (v := .agg #[.int .i64 sp, .int .i64 hd, .slice AU uc.length cU, .slice AV us.length cV]) (by simp [results, Tryz.results132, go_sem, r0, r1, r2, r3]) rfl ?_
      rw [HRF.out]
      have ht := ((((Turned.refl (w.heap.size + 1) (w.heap.size + 2) w1).set (b := w.heap.size + 1) 0 (.int .i64 sp) (by omega) (by omega)).set (b := w.heap.size + 1) 1 (.int .i64 hd) (by omega) (by omega)).set (b := w.heap.size + 1) 2 (.slice AU uc.length cU) (by omega) (by omega)).set (b := w.heap.size + 1) 3 (.slice AV us.length cV) (by omega) (by omega)
      have hsz := ht.size
      exact ⟨_, _, rfl, ring_mine_of ((HU.out.turned ht (.inr (by omega)) (by omega)).mono (by omega) (by omega)) ((HV.out.turned ht (.inr (by omega)) (by omega)).mono (by omega) (by omega)) HAP.out, HB1.out.trans (ht.below (by omega) (by omega))⟩
    have HRF := Lib.hid (HRW.out (by trivial) (by trivial) (by trivial))
    obtain ⟨l1, l2, l3⟩ := HLN.out (by trivial)
    clear HRN HRW HLN HCP b0
    go_wp2_with fail
    refine (HWA.out (by trivial) (by trivial) w0 HBX.out).mono ?_
    rintro e w5 ⟨p, v, rfl, hwin, hb5⟩
    have z5 := hb5.size
    have HB5 : Hid (Below w.heap.size w w5) := Lib.hid (HBX.out.trans (hb5.mono (by omega)))
    replace b1 := b1.below hb5 (by omega)
    have HG5 := Lib.hid (HG.out.below HB5.out (Nat.le_refl _))
    clear hb5 HBX p0 p1 p2 p3 HWA
    generalize winHead sp hd now = hd2 at hwin HRF
    generalize winRoll sp hd now (uc.zip us) = wl at hwin HRF l1
    cases wl with
    | nil => exact absurd l1 (by simp; omega)
    | cons t tl =>
    have HRF := Lib.hid (HRF.out t tl rfl)
    have HL1 : Hid ((t :: tl).length ≤ 8) := Lib.hid (by omega)
    clear l1
    obtain ⟨A, c, rfl, -⟩ := hwin.row.form
    obtain ⟨g, rfl, hBg, hgl⟩ : ∃ g, A = some ⟨g, 0, none⟩ ∧ w0.heap.size ≤ g ∧ g < w5.heap.size := by
      rcases hwin.row.2 with ⟨h', h0⟩ | ⟨g, cap, cur, h', hB, hg, -⟩
      · simp at h0
      · simp only [Value.slice.injEq] at h'
        exact ⟨g, h'.1, hB, (Array.getElem?_eq_some_iff.1 hg).1⟩
    have hpg : p ≠ g := fun e => hwin.far (by rw [e]; rfl)
    have HWI := Lib.hid hwin
    have HPL := Lib.hid hwin.low
    have b1' := Lib.hid b1
    clear hwin b1
    go_wp2_with fail
    refine (implNewest_any _ p g c sp hd2 (t :: tl) w5 HWI.out (by simp)).mono ?_
    rintro e w7 ⟨rfl, rfl⟩
    obtain ⟨CS, hCS, hC0, hC1, hnew⟩ := HWI.out.row.first
    have HCS := Lib.hid hCS
    have HC0 := Lib.hid hC0
    have HC1 := Lib.hid hC1
    have HNW := Lib.hid hnew
    clear hCS hC0 hC1 hnew
    go_wp2_with fail
    refine (implTally_any g _ CS t.1 t.2 1 amount w5 HCS.out HC0.out HC1.out HG5.out).mono ?_
    rintro e w6 ⟨rfl, ht6, hk6⟩
    have z6 := ht6.size
    have HWN : Hid (Win w0.heap.size w6 p sp hd2 (.slice (some ⟨g, 0, none⟩) (t :: tl).length c) ((satVal t.1 1, satVal t.2 amount) :: tl)) := Lib.hid ⟨HWI.out.at_.turned ht6 (by omega), HNW.out w6 _ _ hk6, HPL.out, by simpa [Value.ownBlock] using Ne.symm hpg⟩
    have HB6 : Hid (Below w.heap.size w w6) := Lib.hid (HB5.out.trans (ht6.below (by omega) (by omega)))
    have b1 := b1'.out.turned ht6 (by omega)
    clear ht6 hk6 HNW HC0 HC1 HCS HWI HG5 HB5 b1'
    go_wp2_with fail
    refine (implRingOf_any _ p sp hd2 _ _ w6 HWN.out HL1.out).mono ?_
    rintro e w1 ⟨vc', vs', rfl, hm1, hb1⟩
    simp only at hm1
    generalize ((satVal t.1 1, satVal t.2 amount) :: tl).map Prod.fst = uc at HRF hm1
    generalize ((satVal t.1 1, satVal t.2 amount) :: tl).map Prod.snd = us at HRF hm1
    obtain ⟨vc2, vs2, hv, hnc, hns, hap⟩ := ring_mine hm1
    simp only [List.cons.injEq, and_true, true_and] at hv
    obtain ⟨rfl, rfl⟩ := hv
    obtain ⟨AU, cU, rfl, -⟩ := hnc.form
    obtain ⟨AV, cV, rfl, -⟩ := hns.form
    have z1 := hb1.size
    replace b1 := b1.below hb1 (by omega)
    have HB1 : Hid (Below w.heap.size w w1) := Lib.hid (HB6.out.trans (hb1.mono (by omega)))
    have HU := Lib.hid hnc
    have HV := Lib.hid hns
    have HAP := Lib.hid hap
    clear hm1 hb1 hnc hns hap
    obtain ⟨⟨r0, r1, r2, r3⟩, f0, f1, f2, f3⟩ := b1.cells
    clear b1
    go_wp2
    refine bodyPost_ret (v := .agg #[.int .i64 sp, .int .i64 hd2, .slice AU uc.length cU, .slice AV us.length cV]) (by simp [results, Tryz.results132, go_sem, r0, r1, r2, r3]) rfl ?_
    rw [HRF.out]
    have ht := ((((Turned.refl (w.heap.size + 1) (w.heap.size + 2) w1).set (b := w.heap.size + 1) 0 (.int .i64 sp) (by omega) (by omega)).set (b := w.heap.size + 1) 1 (.int .i64 hd2) (by omega) (by omega)).set (b := w.heap.size + 1) 2 (.slice AU uc.length cU) (by omega) (by omega)).set (b := w.heap.size + 1) 3 (.slice AV us.length cV) (by omega) (by omega)
    have hsz := ht.size
    exact ⟨_, _, rfl, ring_mine_of ((HU.out.turned ht (.inr (by omega)) (by omega)).mono (by omega) (by omega)) ((HV.out.turned ht (.inr (by omega)) (by omega)).mono (by omega) (by omega)) HAP.out, HB1.out.trans (ht.below (by omega) (by omega))⟩
end Go.Proofs.YtnmijppppcgobaaGreatDoor
