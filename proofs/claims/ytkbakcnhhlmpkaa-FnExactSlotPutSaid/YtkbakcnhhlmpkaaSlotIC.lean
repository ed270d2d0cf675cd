/- slices.Grow, slices.Concat, slices.Clone over slots; slotsCopy of the program; no conditions. -/
import Derived.Test.YtkbakcnhhlmpkaaSlotIF
import Derived.Test.YtkbakcnhhlmpkaaSlotC
import Derived.Test.YtkbakcnhhlmpkaaAppRows
import Derived.Lib.SliceRun
import Derived.Lib.AppendZeros
set_option linter.unusedVariables false
namespace Go.Proofs.Ytkbakcnhhlmpkaa
open Go.ChangeShapes Go.WideShapes Go.ChangeAt Go.RowKit

/-- where slots are read, each with the slice that its reply lies in -/
def seenAt (hi : Nat) (w : World) (A : Option Addr) (ps : List SlotV) : Prop := ∀ (j : Nat) (z : SlotV), ps[j]? = some z → ∃ b off, A = some ⟨b, off, none⟩ ∧ b < hi ∧ atL w b (off + j * 3) (sCells z) ∧ rd .u8 hi w (sv z) z.1.2.2
set_option maxRecDepth 100000 in
theorem seenAt.below {hi : Nat} {w w' : World} {A : Option Addr} {ps : List SlotV} (h : seenAt hi w A ps) (hb : Below w.heap.size w w') (hh : hi ≤ w.heap.size) : seenAt hi w' A ps := fun j z hz => by
  obtain ⟨b, off, e, hb', ha, hr⟩ := h j z hz
  exact ⟨b, off, e, hb', fun t u hu => (hb.cell (p := ⟨b, _, none⟩) (show b < w.heap.size by omega)).trans (ha t u hu), hr.below hb hh⟩
set_option maxRecDepth 100000 in
theorem slots_seen {hi : Nat} {w : World} {v : Value} {l : List SlotD} (h : SlotsR.rd hi w [v] l) : ∃ A c ps, v = .slice A l.length c ∧ ps.map (·.1) = l ∧ seenAt hi w A ps := by
  obtain ⟨A, c, rfl, hc, h⟩ := slots_rd h
  have hall : ∀ j : Nat, ∃ a : Option Addr × Nat, ∀ x, l[j]? = some x → ∃ b off, A = some ⟨b, off, none⟩ ∧ b < hi ∧ atL w b (off + j * 3) (sCells (x, a)) ∧ rd .u8 hi w (sv (x, a)) x.2.2 := fun j => by
    cases hx : l[j]? with
    | none => exact ⟨(none, 0), fun x hx' => by cases hx'⟩
    | some y =>
      obtain ⟨b, off, A', c', e, hb, q0, q1, q2, hr⟩ := h j y hx
      refine ⟨(A', c'), fun x hx' => ?_⟩
      cases hx'
      refine ⟨b, off, e, hb, fun t u hu => ?_, hr⟩
      match t, hu with
      | 0, hu => cases hu; exact q0
      | 1, hu => cases hu; exact q1
      | 2, hu => cases hu; exact q2
      | n + 3, hu => simp [sCells] at hu
  obtain ⟨f, hf⟩ := Classical.skolem.1 hall
  refine ⟨A, c, (List.range l.length).map fun j => ((l.getD j (⟨#[]⟩, ⟨#[]⟩, []), f j) : SlotV), rfl, ?_, fun j z hz => ?_⟩
  · rw [List.map_map]
    refine List.ext_getElem (by simp) fun j h1 h2 => ?_
    simp only [List.getElem_map, List.getElem_range, Function.comp]
    rw [List.getD_eq_getElem?_getD, List.getElem?_eq_getElem h2]; rfl
  · rw [List.getElem?_map] at hz
    obtain ⟨k, hk, rfl⟩ := Option.map_eq_some_iff.1 hz
    obtain ⟨h1, h2⟩ := List.getElem?_eq_some_iff.1 hk
    rw [List.length_range] at h1
    rw [List.getElem_range] at h2
    subst h2
    have hg : l.getD j (⟨#[]⟩, ⟨#[]⟩, []) = l[j] := by rw [List.getD_eq_getElem?_getD, List.getElem?_eq_getElem h1]; rfl
    rw [hg]
    exact hf j _ (List.getElem?_eq_getElem h1)
set_option maxRecDepth 100000 in
theorem nil_slots (A : Option Addr) (n c n' c' : Nat) (w : World) : (binOp .eql 34 (.slice A n c) (.slice none n' c')).run Try.prog w = .ok (.bool A.isNone) w := Lib.run_eql_slice_nil w _ _ A n c n' c' Try.underlying34
/-- a row of slots of the call's own, the replies lie where they lay -/
def slotsHeld (ps : List SlotV) (w : World) (e : Ending) (w' : World) : Prop := ∃ A c, e = .returned (.slice A ps.length c) ∧ owE 27 3 sCells w.heap.size w' (.slice A ps.length c) ps ∧ Below w.heap.size w w'
set_option maxRecDepth 100000 in
set_option maxHeartbeats 1600000 in
theorem cloneSlots_any (hi : Nat) (A : Option Addr) (c : Nat) (ps : List SlotV) (w : World) (hn : ps.length ≤ 1048577) (h : seenAt hi w A ps) (hh : hi ≤ w.heap.size) :
    Calls Try.prog 46 #[.slice A ps.length c] w (slotsHeld ps w) := by
  have HS : Hid (∀ V, Below w.heap.size w V → ∀ (j : Nat) (y : SlotV), ps[j]? = some y → ∃ b off, A = some ⟨b, off, none⟩ ∧ atL V b (off + j * 3) (sCells y)) := Lib.hid fun V hV j y hy => by
    obtain ⟨b, off, e, hb, ha, -⟩ := h.below hV hh j y hy
    exact ⟨b, off, e, ha⟩
  have q33 := nil_slots
  cases A with
  | none =>
    obtain rfl : ps = [] := by
      cases ps with
      | nil => rfl
      | cons y l => obtain ⟨b, off, e, -⟩ := h 0 y rfl; cases e
    clear h
    go_enter Try.func46, Try.ntmps46
    go_wp2
    go_ret
    exact ⟨none, 0, rfl, owE_none _ _ _ _ _, Below.refl _ _⟩
  | some ad =>
    clear h
    go_enter Try.func46, Try.ntmps46
    go_wp2_with (at_builtin; refine app_rows sCells 3 (fun _ => rfl) (by decide) sCells_one 34 27 #[.string ⟨#[]⟩, .string ⟨#[]⟩, .slice none 0 0] 56 Try.underlying34 infoSlot rfl _ _ rfl rfl w.heap.size (w.alloc (.cells #[] 27)) _ [] ps (some ad) c (by rfl) (by rfl) (owE_empty _ _ _ _ w (Nat.le_refl _)) (HS.out _ ((Below.refl _ _).alloc (Nat.le_refl _) _)) (by unfold maxLen; simp; omega) (by simp; omega) (by simp) ?_)
    intro A1 c1 w1 ho1 hg1 hb1
    have HB1 : Hid (Below w.heap.size w w1) := Lib.hid (((Below.refl w.heap.size w).alloc (Nat.le_refl _) _).trans hb1)
    have HO : Hid (owE 27 3 sCells w.heap.size w1 (.slice A1 ps.length c1) ps) := Lib.hid (by simpa using ho1)
    clear ho1 hg1 hb1
    go_wp2
    go_ret
    exact ⟨A1, c1, by simp, HO.out, HB1.out⟩
set_option maxRecDepth 100000 in
set_option maxHeartbeats 1600000 in
theorem growSlots_any (n : Nat) (w : World) (h0 : 0 < n) (hn : n ≤ 2097154) :
    Calls Try.prog 45 #[.slice none 0 0, .int .i64 n] w (slotsHeld [] w) := by
  obtain ⟨i, hi, hxx⟩ := Option.map_eq_some_iff.1 infoSlot
  simp only [Prod.mk.injEq] at hxx
  obtain ⟨hz, hsize, hby⟩ := hxx
  obtain ⟨z, hzz, hzc⟩ := Option.map_eq_some_iff.1 hz
  have hrun := Lib.run_append_nil_zeros (P := Try.prog) w 34 3 34 27 i z .i64 .i64 Try.underlying34 Try.underlying3 hi hzz n h0 (by rw [hsize]; decide) (by omega) (by rw [hby]; omega)
  have hge := grownCap_ge w n 0 27
  have hle := grownCap_le_maxLen w n 0 27 (by unfold maxLen; omega)
  generalize hC : grownCap w n 0 27 = C at hrun hge hle
  obtain ⟨W, hW⟩ : ∃ W, W = w.drew.alloc (.cells (Builtin.zeroCells z.cells n ++ Builtin.zeroCells z.cells (C - n)) 27) := ⟨_, rfl⟩
  have HB : Hid (Below w.heap.size w W) := Lib.hid (by rw [hW]; exact ((Below.refl w.heap.size w).drew).alloc (Nat.le_refl _) _)
  have HO : Hid (owE 27 3 sCells w.heap.size W (.slice (some ⟨w.heap.size, 0, none⟩) 0 C) []) := Lib.hid (by
    refine ⟨rfl, Or.inr ⟨w.heap.size, C, _, rfl, Nat.le_refl _, by rw [hW]; exact heap_alloc_new w.drew _, Nat.zero_le _, hle, ?_, rfl⟩⟩
    rw [Array.size_append, size_zeroCells, size_zeroCells, hzc, ← Nat.add_mul]
    show (n + (C - n)) * 3 = C * 3
    rw [show n + (C - n) = C by omega])
  rw [← hW] at hrun
  have HRUN := Lib.hid hrun
  clear hrun hW hC hi hz hsize hby hzz hzc
  have g0 : ¬ ((n : Int) < 0) := by omega
  have g1 : (0 : Int) < (n : Int) := by omega
  have hw1 : wrap64 (n : Int) = (n : Int) := by unfold wrap64; omega
  unfold maxLen at hle
  go_enter Try.func45, Try.ntmps45
  go_wp2_with (at_builtin; refine Lib.wpList_append_run _ rfl _ _ _ _ rfl _ _ rfl rfl _ _ HRUN.out ?_)
  go_wp2
  go_ret
  exact ⟨_, _, rfl, HO.out, HB.out⟩
def catTo (a b i : Nat) : Nat := if i = 0 then 0 else if i = 1 then a else a + b
def catRow (xs ys : List SlotV) (i : Nat) : List SlotV := if i = 0 then [] else if i = 1 then xs else xs ++ ys
set_option maxRecDepth 100000 in
theorem catRow_len (xs ys : List SlotV) (i : Nat) : (catRow xs ys i).length = catTo xs.length ys.length i := by
  unfold catRow catTo
  split
  · rfl
  · split
    · rfl
    · exact List.length_append ..
set_option maxRecDepth 100000 in
set_option maxHeartbeats 3200000 in
theorem concatSlots_any (g cg c1 c2 : Nat) (A1 A2 : Option Addr) (xs ys : List SlotV) (w : World) (hbk : bk w g 34 [.slice A1 xs.length c1, .slice A2 ys.length c2]) (hc : 2 ≤ cg) (hx : seenAt w.heap.size w A1 xs) (hy : seenAt w.heap.size w A2 ys) (h1 : xs.length ≤ 1048576) (h2 : ys.length ≤ 1048576) (h0 : 0 < ys.length) :
    Calls Try.prog 40 #[.slice (some ⟨g, 0, none⟩) 2 cg] w (slotsHeld (xs ++ ys) w) := by
  have HK := Lib.hid hbk
  have HX : Hid (∀ V, Below w.heap.size w V → ∀ (j : Nat) (y : SlotV), xs[j]? = some y → ∃ b off, A1 = some ⟨b, off, none⟩ ∧ atL V b (off + j * 3) (sCells y)) := Lib.hid fun V hV j y hj => by
    obtain ⟨b, off, e, hb, ha, -⟩ := hx.below hV (Nat.le_refl _) j y hj
    exact ⟨b, off, e, ha⟩
  have HY : Hid (∀ V, Below w.heap.size w V → ∀ (j : Nat) (y : SlotV), ys[j]? = some y → ∃ b off, A2 = some ⟨b, off, none⟩ ∧ atL V b (off + j * 3) (sCells y)) := Lib.hid fun V hV j y hj => by
    obtain ⟨b, off, e, hb, ha, -⟩ := hy.below hV (Nat.le_refl _) j y hj
    exact ⟨b, off, e, ha⟩
  have hg := hbk.lt
  have k0 := hbk.cell 0
  have k1 := hbk.cell 1
  simp only [List.getElem?_cons_zero, List.getElem?_cons_succ] at k0 k1
  clear hx hy hbk
  have HG := Lib.hid (growSlots_any (xs.length + ys.length) w (by omega) (by omega))
  have HS0 : Hid (Value.int .i64 0 = .int .i64 (catTo xs.length ys.length 0 : Nat)) := Lib.hid rfl
  go_enter Try.func40, Try.ntmps40
  go_wp2
  go_loopw [3, 11] (fun sv iv wr => ∃ i : Nat, i ≤ 2 ∧ iv = .int .i64 i ∧ sv = .int .i64 (catTo xs.length ys.length i : Nat) ∧ w = wr) (fun _ iv _ => 2 - (intOf iv).toNat)
  case atStart => exact ⟨0, by omega, rfl, HS0.out, rfl⟩
  case round =>
    obtain ⟨i, hi, rfl, rfl, rfl⟩ := hrel
    have hcase : i = 0 ∨ i = 1 ∨ i = 2 := by omega
    rcases hcase with rfl | rfl | rfl
    · rw [show catTo xs.length ys.length 0 = 0 from rfl]
      have m1 : Hid ((xs.length : Int) = (catTo xs.length ys.length 1 : Nat)) := Lib.hid rfl
      have m9 : Hid (Value.int .i64 (xs.length : Int) = .int .i64 (catTo xs.length ys.length 1 : Nat)) := Lib.hid rfl
      have n1 : ¬ ((xs.length : Int) < 0) := by omega
      have n2 : IntKind.i64.wrap (0 + (xs.length : Int)) = (xs.length : Int) := by rw [IntKind.wrap_i64]; omega
      go_wp2
      go_roundw
      case rel => exact ⟨1, by omega, rfl, m9.out, by first | trivial | rfl⟩
      case measure => simp [intOf] <;> omega
    · rw [show catTo xs.length ys.length 1 = xs.length from rfl]
      have m1 : Hid (Value.int .i64 ((xs.length : Int) + (ys.length : Int)) = .int .i64 (catTo xs.length ys.length 2 : Nat)) := Lib.hid (by show _ = Value.int .i64 ((xs.length + ys.length : Nat) : Int); simp)
      have n1 : ¬ ((xs.length : Int) + (ys.length : Int) < 0) := by omega
      have n2 : IntKind.i64.wrap ((xs.length : Int) + (ys.length : Int)) = (xs.length : Int) + (ys.length : Int) := by rw [IntKind.wrap_i64]; omega
      go_wp2
      go_roundw
      case rel => exact ⟨2, by omega, rfl, m1.out, by first | trivial | rfl⟩
      case measure => simp [intOf] <;> omega
    · rw [show catTo xs.length ys.length 2 = xs.length + ys.length from rfl]
      go_wp2_with fail
      refine HG.out.mono ?_
      rintro e w1 ⟨A, c, rfl, ho1, hb1⟩
      have HB1 := Lib.hid hb1
      have z1 := hb1.size
      have HO1 : Hid (owE 27 3 sCells w.heap.size w1 (.slice A (catRow xs ys 0).length c) (catRow xs ys 0)) := Lib.hid ho1
      have HN0 : Hid (Value.slice A ([] : List SlotV).length c = .slice A (catRow xs ys 0).length c) := Lib.hid rfl
      clear ho1 hb1 HG
      go_wp2
      go_loopw [6, 27] (fun sv iv wr => ∃ (i : Nat) (A : Option Addr) (c : Nat), i ≤ 2 ∧ iv = .int .i64 i ∧ sv = .slice A (catRow xs ys i).length c ∧ Hid (owE 27 3 sCells w.heap.size wr (.slice A (catRow xs ys i).length c) (catRow xs ys i)) ∧ Hid (Below w.heap.size w wr) ∧ w.heap.size ≤ wr.heap.size) (fun _ iv _ => 2 - (intOf iv).toNat)
      case atStart => exact ⟨0, A, c, by omega, rfl, HN0.out, HO1, HB1, z1⟩
      case round =>
        obtain ⟨i, A, c, hi', rfl, rfl, HO, HB, hz⟩ := hrel
        have hcase : i = 0 ∨ i = 1 ∨ i = 2 := by omega
        have k0 := (HB.out.cell (p := ⟨g, 0, none⟩) hg).trans k0
        have k1 := (HB.out.cell (p := ⟨g, 1, none⟩) hg).trans k1
        rcases hcase with rfl | rfl | rfl
        · rw [show catRow xs ys 0 = [] from rfl] at HO ⊢
          go_wp2_with (at_builtin; refine app_rows sCells 3 (fun _ => rfl) (by decide) sCells_one 34 27 #[.string ⟨#[]⟩, .string ⟨#[]⟩, .slice none 0 0] 56 Try.underlying34 infoSlot rfl _ _ rfl rfl w.heap.size _ _ [] xs A1 c1 (by rfl) (by rfl) HO.out (HX.out _ HB.out) (by unfold maxLen; simp; omega) (by simp; omega) hz ?_)
          intro A2 c2 w2 ho2 hg2 hb2
          have HB2 : Hid (Below w.heap.size w w2) := Lib.hid (HB.out.trans hb2)
          have HO2 : Hid (owE 27 3 sCells w.heap.size w2 (.slice A2 (catRow xs ys 1).length c2) (catRow xs ys 1)) := Lib.hid (by simpa [catRow] using ho2)
          have z2 := HB2.out.size
          have HN1 : Hid (([] : List SlotV).length + xs.length = (catRow xs ys 1).length) := Lib.hid (by simp [catRow])
          clear ho2 hg2 hb2
          go_wp2
          go_roundw
          case rel => exact ⟨1, A2, c2, by omega, rfl, by rw [← HN1.out]; simp, HO2, HB2, z2⟩
          case measure => simp [intOf] <;> omega
        · rw [show catRow xs ys 1 = xs from rfl] at HO ⊢
          go_wp2_with (at_builtin; refine app_rows sCells 3 (fun _ => rfl) (by decide) sCells_one 34 27 #[.string ⟨#[]⟩, .string ⟨#[]⟩, .slice none 0 0] 56 Try.underlying34 infoSlot rfl _ _ rfl rfl w.heap.size _ _ xs ys A2 c2 (by rfl) (by rfl) HO.out (HY.out _ HB.out) (by unfold maxLen; omega) (by omega) hz ?_)
          intro A3 c3 w2 ho2 hg2 hb2
          have HB2 : Hid (Below w.heap.size w w2) := Lib.hid (HB.out.trans hb2)
          have HO2 : Hid (owE 27 3 sCells w.heap.size w2 (.slice A3 (catRow xs ys 2).length c3) (catRow xs ys 2)) := Lib.hid (by simpa [catRow] using ho2)
          have z2 := HB2.out.size
          have HN1 : Hid (xs.length + ys.length = (catRow xs ys 2).length) := Lib.hid (by simp [catRow])
          clear ho2 hg2 hb2
          go_wp2
          go_roundw
          case rel => exact ⟨2, A3, c3, by omega, rfl, by rw [← HN1.out], HO2, HB2, z2⟩
          case measure => simp [intOf] <;> omega
        · rw [show catRow xs ys 2 = xs ++ ys from rfl] at HO ⊢
          go_wp2
          go_ret
          exact ⟨A, c, rfl, HO.out, HB.out⟩
end Go.Proofs.Ytkbakcnhhlmpkaa
