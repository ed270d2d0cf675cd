/- Fields and messages: what the law package's marks and looks at the marks do; no conditions. -/
import Derived.Test.YtkkbhlaakhkjnaaField
import Derived.Test.YtkkbhlaakhkjnaaStrS
set_option linter.unusedVariables false
namespace Go.Proofs.Ytkkbhlaakhkjnaa
open Go.ChangeShapes Go.WideShapes Go.ChangeAt Go.RowKit

def fieldMark (k : Int) (j : Nat) : FieldD := (k + 2 * (j : Int), ⟨(markOf (k + 2 * (j : Int) + 1)).toArray⟩)
def fieldsMark (k : Int) (n : Nat) : List FieldD := (List.range n).map (fieldMark k)
set_option maxRecDepth 100000 in
theorem fieldsMark_len (k : Int) (n : Nat) : (fieldsMark k n).length = n := by simp [fieldsMark]
set_option maxRecDepth 100000 in
theorem fieldsMark_get (k : Int) (n j : Nat) (h : j < n) : (fieldsMark k n).getD j (0, ⟨#[]⟩) = fieldMark k j := by simp [fieldsMark, h]
set_option maxRecDepth 100000 in
theorem fieldsMark_at (k : Int) (n j : Nat) (h : j < n) : (fieldsMark k n)[j]? = some (fieldMark k j) := by simp [fieldsMark, h]
set_option maxRecDepth 100000 in
/-- a slice of fields of one's own: empty, or one block that may be written -/
theorem fields_own {lo hi : Nat} {w : World} {v : Value} {l : List FieldD} (h : FieldsR.mine lo hi w [v] l) :
    ∃ A c, v = .slice A l.length c ∧ l.length ≤ c ∧ (l = [] ∨ ∃ b off, A = some ⟨b, off, none⟩ ∧ lo ≤ b ∧ b < hi ∧ roomL w b off (l.length * 2)) := by
  obtain ⟨F, ⟨A, c, hv, hc, h⟩, -, hF⟩ := h
  simp only [List.cons.injEq, and_true] at hv
  refine ⟨A, c, hv, hc, ?_⟩
  rcases h with ⟨rfl, _⟩ | ⟨b, off, Fs, rfl, rfl, hl, h⟩
  · exact .inl rfl
  · have hb := hF b (List.mem_cons_self ..)
    refine .inr ⟨b, off, rfl, hb.1, hb.2, fun t ht => ?_⟩
    have hj : t / 2 < l.length := by omega
    obtain ⟨xs, h1, h2, h3⟩ := h (t / 2) _ _ (List.getElem?_eq_getElem hj) (List.getElem?_eq_getElem (by omega))
    rw [field_own] at h1
    obtain ⟨rfl, -⟩ := h1
    have hk : FieldR.k = 2 := rfl
    rw [hk] at h2 h3
    have e : off + t = off + t / 2 * 2 + t % 2 := by omega
    rw [e]
    refine ⟨?_, h3 (t % 2) (by omega)⟩
    rcases Nat.mod_two_eq_zero_or_one t with m | m
    · rw [m]; exact ⟨_, h2 0 _ rfl⟩
    · rw [m]; exact ⟨_, h2 1 _ rfl⟩
set_option maxRecDepth 100000 in
set_option maxHeartbeats 1600000 in
theorem markFields_any (lo hi : Nat) (v : Value) (l : List FieldD) (k : Int) (w : World) (hn : l.length ≤ 2000000) (hk0 : 0 < k) (hk1 : k ≤ 1000000) (h : FieldsR.mine lo hi w [v] l) (hh : hi ≤ w.heap.size) :
    Calls Try.prog 20 #[v, .int .i64 k] w fun e w' => e = .returned (.int .i64 (k + 2 * (l.length : Int))) ∧ FieldsR.mine lo hi w' [v] (fieldsMark k l.length) ∧ Turned lo hi w w' := by
  obtain ⟨A, c, rfl, hc, hm⟩ := fields_own h
  clear h
  rcases hm with rfl | ⟨b, off, rfl, h1, h2, hm⟩
  · go_enter Try.func20, Try.ntmps20
    go_wp2
    go_loop [1, 5] (fun kv iv => iv = .int .i64 0 ∧ kv = .int .i64 k) (fun _ _ => 0)
    case atStart => exact ⟨rfl, rfl⟩
    case round =>
      obtain ⟨rfl, rfl⟩ := hrel
      go_wp2
      go_ret
      exact ⟨by simp, ⟨[], ⟨A, c, rfl, hc, .inl ⟨rfl, rfl⟩⟩, List.nodup_nil, by simp⟩, Turned.refl _ _ _⟩
  generalize l.length = n at hn hc hm ⊢
  have HM := Lib.hid hm
  clear hm
  go_enter Try.func20, Try.ntmps20
  go_wp2
  go_loopw [1, 5] (fun kv iv wr => ∃ i : Nat, i ≤ n ∧ iv = .int .i64 i ∧ kv = .int .i64 (k + 2 * (i : Int)) ∧ Hid (filled wr b off 2 n i fun j => fCells (fieldMark k j)) ∧ Hid (Turned lo hi w wr) ∧ w.heap.size ≤ wr.heap.size) (fun _ iv _ => n - (intOf iv).toNat)
  case atStart => exact ⟨0, Nat.zero_le _, rfl, val_int (by simp), Lib.hid (filled.start HM.out), Lib.hid (Turned.refl _ _ _), Nat.le_refl _⟩
  case round =>
    obtain ⟨i, hi', rfl, rfl, HF, HT, hz⟩ := hrel
    by_cases hin : i < n
    · obtain ⟨⟨u0, d0⟩, f0⟩ := HF.out.cells hin 0 (by omega)
      obtain ⟨⟨u1, d1⟩, f1⟩ := HF.out.cells hin 1 (by omega)
      simp only [Nat.add_zero] at d0 f0
      have g1 : (i : Int) < (n : Int) := by omega
      have g2 : 0 ≤ (i : Int) := by omega
      go_wp2_with fail
      refine (markText_any (k + 2 * (i : Int) + 1) _ (by omega) (by omega)).mono ?_
      rintro e w2 ⟨rfl, hb2⟩
      have hblk := hb2.block b (show b < _ by simp [World.setCell]; omega)
      have d1 := (hb2.cell (p := ⟨b, off + i * 2 + 1, none⟩) (show b < _ by simp [World.setCell]; omega)).trans ((World.cell?_setCell_other _ _ _ _ (by simp)).trans d1)
      have f1 : w2.frozen? ⟨b, off + i * 2 + 1, none⟩ = false := (hb2.frozen (p := ⟨b, off + i * 2 + 1, none⟩) (show b < _ by simp [World.setCell]; omega)).trans (by simpa using f1)
      have hz2 := hb2.size
      have hz3 : wr.heap.size ≤ w2.heap.size := by simpa [World.setCell] using hz2
      have HT2 : Hid (Turned lo hi w w2) := Lib.hid ((HT.out.set (b := b) (off + i * 2) (.int .i64 (k + 2 * (i : Int))) h1 h2).trans (Turned.of_below hb2))
      have HK := Lib.hid hblk
      clear hb2 hz2 hblk
      go_wp2
      go_roundw
      case rel => exact ⟨i + 1, by omega, by go_num, val_int (by omega), Lib.hid ((HF.out.next hin (fun _ _ => rfl)).keep (set_congr HK.out _ _)), Lib.hid (HT2.out.set _ _ h1 h2), by simp [World.setCell]; omega⟩
      case measure => simp [intOf] <;> omega
    · obtain rfl : i = n := by omega
      go_wp2
      go_ret
      refine ⟨rfl, ?_, HT.out⟩
      refine fields_mine (fieldsMark_len k i).symm hc h1 h2 ⟨HF.out.room, fun j hj => ?_⟩
      rw [fieldsMark_get k i j hj]
      exact HF.out.at_ j hj
set_option maxRecDepth 100000 in
theorem markOf_size (k : Int) (h : k ≤ 1000000000) : (markOf k).length ≤ 21 := by
  have := mark_len k h
  unfold markOf
  simp; omega
set_option maxRecDepth 100000 in
set_option maxHeartbeats 1600000 in
theorem heldFields_any (hi : Nat) (v : Value) (n : Nat) (k : Int) (w : World) (hn : n ≤ 2000000) (hk0 : 0 < k) (hk1 : k ≤ 1000000) (h : FieldsR.rd hi w [v] (fieldsMark k n)) (hh : hi ≤ w.heap.size) :
    Calls Try.prog 21 #[v, .int .i64 k] w fun e w' => e = .returned (.int .i64 (k + 2 * (n : Int))) ∧ Below w.heap.size w w' := by
  obtain ⟨A, c, hv, hc, h'⟩ := fields_rd h
  rw [fieldsMark_len] at hv hc
  have HR := Lib.hid h'
  clear h h'
  subst hv
  go_enter Try.func21, Try.ntmps21
  go_wp2
  go_loopw [1, 5] (fun kv iv wr => ∃ i : Nat, i ≤ n ∧ iv = .int .i64 i ∧ kv = .int .i64 (k + 2 * (i : Int)) ∧ Hid (Below w.heap.size w wr) ∧ w.heap.size ≤ wr.heap.size) (fun _ iv _ => n - (intOf iv).toNat)
  case atStart => exact ⟨0, Nat.zero_le _, rfl, val_int (by simp), Lib.hid (Below.refl _ _), Nat.le_refl _⟩
  case round =>
    obtain ⟨i, hi', rfl, rfl, HB, hz⟩ := hrel
    by_cases hin : i < n
    · obtain ⟨b, off, rfl, hb, c0, c1⟩ := HR.out i _ (fieldsMark_at k n i hin)
      have c0 := (HB.out.cell (p := ⟨b, _, none⟩) (show b < w.heap.size by omega)).trans c0
      have c1 := (HB.out.cell (p := ⟨b, _, none⟩) (show b < w.heap.size by omega)).trans c1
      simp only [fieldMark] at c0 c1
      have g1 : (i : Int) < (n : Int) := by omega
      have g2 : 0 ≤ (i : Int) := by omega
      have hml := markOf_size (k + 2 * (i : Int) + 1) (by omega)
      have HX : Hid (∀ w', Calls Try.prog 26 #[.int .i64 (k + 2 * (i : Int) + 1)] w' fun e w'' => e = .returned (.string ⟨(markOf (k + 2 * (i : Int) + 1)).toArray⟩) ∧ Below w'.heap.size w' w'') := Lib.hid fun w' => markText_any _ w' (by omega) (by omega)
      generalize markOf (k + 2 * (i : Int) + 1) = mk at c1 hml HX
      go_wp2
      go_region_held3 (fun w' => w'.cell? ⟨b, off + i * 2 + 1, none⟩ = some (.string ⟨mk.toArray⟩)) (go_keep) ((go_at_call 26; refine (HX.out _).mono ?_; rintro e w2 ⟨rfl, hb2⟩; have q := (hb2.cell (p := ⟨b, off + i * 2 + 1, none⟩) (show b < wr.heap.size by omega)).trans c1))
      have hz2 : wr.heap.size ≤ w2.heap.size := hb2.size
      have HB2 : Hid (Below w.heap.size w w2) := Lib.hid ((HB.out.trans (below_drew _ _)).trans (hb2.mono hz))
      clear hb2
      go_wp2
      go_roundw
      case rel => exact ⟨i + 1, by omega, by go_num, val_int (by omega), HB2, by omega⟩
      case measure => simp [intOf] <;> omega
    · obtain rfl : i = n := by omega
      go_wp2
      go_ret
      exact ⟨rfl, HB.out⟩
def msgMark (m : MsgD) (k : Int) : List FieldD := fieldsMark k m.2.length
set_option maxRecDepth 100000 in
theorem markMsg_any (lo hi : Nat) (v : Value) (m : MsgD) (k : Int) (w : World) (hn : m.2.length ≤ 2000000) (hk0 : 0 < k) (hk1 : k ≤ 1000000) (h : FieldsR.mine lo hi w [v] m.2) (hh : hi ≤ w.heap.size) :
    Calls Try.prog 13 #[.agg #[.string m.1, v], .int .i64 k] w fun e w' => e = .returned (.int .i64 (k + 2 * (m.2.length : Int))) ∧ FieldsR.mine lo hi w' [v] (msgMark m k) ∧ Turned lo hi w w' := by
  obtain ⟨A, c, rfl, -⟩ := Rep.slice_form h.rd
  have H := Lib.hid h
  clear h
  have HB0 : Hid (∀ o, Below w.heap.size w (w.alloc o)) := Lib.hid fun o => (Below.refl _ _).alloc (Nat.le_refl _) o
  go_enter Try.func13, Try.ntmps13
  go_wp2_with fail
  refine (markFields_any lo hi _ m.2 k _ hn hk0 hk1 (H.out.below (HB0.out _) hh) (by simp; omega)).mono ?_
  rintro e w2 ⟨rfl, hm, ht⟩
  have HM := Lib.hid hm
  have HT := Lib.hid ht
  clear hm ht
  go_wp2
  go_ret
  exact ⟨rfl, HM.out, (Turned.of_below (HB0.out _)).trans HT.out⟩
set_option maxRecDepth 100000 in
theorem heldMsg_any (hi : Nat) (v : Value) (t : ByteArray) (n : Nat) (k : Int) (w : World) (hn : n ≤ 2000000) (hk0 : 0 < k) (hk1 : k ≤ 1000000) (h : FieldsR.rd hi w [v] (fieldsMark k n)) (hh : hi ≤ w.heap.size) :
    Calls Try.prog 14 #[.agg #[.string t, v], .int .i64 k] w fun e w' => e = .returned (.int .i64 (k + 2 * (n : Int))) ∧ Below w.heap.size w w' := by
  obtain ⟨A, c, hv, -⟩ := Rep.slice_form h
  have H := Lib.hid h
  clear h
  subst hv
  have HB0 : Hid (∀ o, Below w.heap.size w (w.alloc o)) := Lib.hid fun o => (Below.refl _ _).alloc (Nat.le_refl _) o
  go_enter Try.func14, Try.ntmps14
  go_wp2_with fail
  refine (heldFields_any hi _ n k _ hn hk0 hk1 (Rep.below (R := FieldsR) H.out (HB0.out _) hh) (by simp; omega)).mono ?_
  rintro e w2 ⟨rfl, hb⟩
  have HB : Hid (Below w.heap.size w w2) := Lib.hid ((HB0.out _).trans (hb.mono (by simp)))
  have hp : 0 ≤ k + 2 * (n : Int) := by omega
  clear hb
  go_wp2
  go_ret
  exact ⟨rfl, HB.out⟩
end Go.Proofs.Ytkkbhlaakhkjnaa
