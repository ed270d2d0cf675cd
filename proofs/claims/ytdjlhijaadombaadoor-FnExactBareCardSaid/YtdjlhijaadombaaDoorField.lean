/- Fields and messages: their layout, and what the law package's helpers do with them; no conditions. -/
import Derived.Test.YtdjlhijaadombaaDoorRowS
import Derived.Deep.RegionHeld3
set_option linter.unusedVariables false
namespace Go.Proofs.YtdjlhijaadombaaDoor
open Go.ChangeShapes Go.WideShapes Go.ChangeAt Go.RowKit

abbrev FieldD := Int × ByteArray
abbrev MsgD := ByteArray × List FieldD
def noF : FieldD := (0, ⟨#[]⟩)
def FieldR : Rep FieldD := Rep.pair (Rep.int .i64) Rep.str
def FieldsR : Rep (List FieldD) := FieldR.slice
def MsgR : Rep MsgD := Rep.pair Rep.str FieldsR
def fCells (x : FieldD) : List Value := [.int .i64 x.1, .string x.2]
set_option maxRecDepth 100000 in
theorem field_rd {hi : Nat} {w : World} {cs : List Value} {x : FieldD} : FieldR.rd hi w cs x ↔ cs = fCells x := by
  constructor
  · rintro ⟨a, b, rfl, rfl, rfl⟩; rfl
  · rintro rfl; exact ⟨[_], [_], rfl, rfl, rfl⟩
set_option maxRecDepth 100000 in
theorem field_own {w : World} {cs : List Value} {x : FieldD} {F : List Nat} : FieldR.own w cs x F ↔ cs = fCells x ∧ F = [] := by
  constructor
  · rintro ⟨a, b, G, H, rfl, rfl, ⟨rfl, rfl⟩, ⟨rfl, rfl⟩⟩; exact ⟨rfl, rfl⟩
  · rintro ⟨rfl, rfl⟩; exact ⟨[_], [_], [], [], rfl, rfl, ⟨rfl, rfl⟩, ⟨rfl, rfl⟩⟩
set_option maxRecDepth 100000 in
/-- a slice of fields: its value and its cells -/
theorem fields_rd {hi : Nat} {w : World} {v : Value} {l : List FieldD} (h : FieldsR.rd hi w [v] l) :
    ∃ A c, v = .slice A l.length c ∧ l.length ≤ c ∧ ∀ j x, l[j]? = some x → ∃ b off, A = some ⟨b, off, none⟩ ∧ b < hi ∧ w.cell? ⟨b, off + j * 2, none⟩ = some (.int .i64 x.1) ∧ w.cell? ⟨b, off + j * 2 + 1, none⟩ = some (.string x.2) := by
  obtain ⟨A, c, hv, hc, hj⟩ := h
  simp only [List.cons.injEq, and_true] at hv
  refine ⟨A, c, hv, hc, fun j x hx => ?_⟩
  obtain ⟨b, off, xs, hA, hb, hr, ha⟩ := hj j x hx
  rw [field_rd] at hr
  subst hr
  exact ⟨b, off, hA, hb, ha 0 _ rfl, ha 1 _ rfl⟩
set_option maxRecDepth 100000 in
/-- a row of fields in one block of one's own -/
theorem fields_mine {lo hi : Nat} {w : World} {b off c n : Nat} {l : List FieldD} (hn : n = l.length) (hc : n ≤ c) (h1 : lo ≤ b) (h2 : b < hi) (h : filled w b off 2 n n fun j => fCells (l.getD j (0, ⟨#[]⟩))) : FieldsR.mine lo hi w [.slice (some ⟨b, off, none⟩) n c] l := by
  subst hn
  refine ⟨b :: List.flatten (l.map fun _ => []), ⟨some ⟨b, off, none⟩, c, rfl, hc, .inr ⟨b, off, _, rfl, rfl, by simp, fun j x G hx hG => ?_⟩⟩, ?_, ?_⟩
  · have hj := (List.getElem?_eq_some_iff.1 hx).1
    have hG' : G = [] := by rw [List.getElem?_map, hx] at hG; simpa using hG.symm
    subst hG'
    have hx' : l.getD j (0, ⟨#[]⟩) = x := by rw [List.getD_eq_getElem?_getD, hx]; rfl
    have ha := h.at_ j hj
    rw [hx'] at ha
    exact ⟨_, field_own.2 ⟨rfl, rfl⟩, ha, fun t ht => (h.cells hj t ht).2⟩
  · have : List.flatten (l.map fun _ => ([] : List Nat)) = [] := by simp
    rw [this]; simp
  · have : List.flatten (l.map fun _ => ([] : List Nat)) = [] := by simp
    rw [this]
    intro b' hb'
    rw [List.mem_singleton.1 hb']
    exact ⟨h1, h2⟩

set_option maxRecDepth 100000 in
theorem below_drew (w : World) (B : Nat) : Below B w w.drew := ⟨rfl, rfl, rfl, Nat.le_refl _, fun _ _ => rfl⟩
set_option maxRecDepth 100000 in
theorem bcell {W w1 : World} (hb : Below W.heap.size W w1) : (∀ b o, b < W.heap.size → w1.cell? ⟨b, o, none⟩ = W.cell? ⟨b, o, none⟩) ∧ (∀ b o, b < W.heap.size → w1.frozen? ⟨b, o, none⟩ = W.frozen? ⟨b, o, none⟩) :=
  ⟨fun b o h => hb.cell (p := ⟨b, o, none⟩) h, fun b o h => hb.frozen (p := ⟨b, o, none⟩) h⟩
set_option maxRecDepth 100000 in
theorem infoField : (Tryd.prog.info? 41).map (fun i => (i.zero.map (·.cells), i.size, i.bytes)) = some (some #[.int .i64 0, .string ⟨#[]⟩], 2, 24) := by kernel_rfl
set_option maxRecDepth 100000 in
theorem getD_of {α : Type} {l : List α} {j : Nat} {x d : α} (h : l[j]? = some x) : l.getD j d = x := by rw [List.getD_eq_getElem?_getD, h]; rfl
set_option maxRecDepth 100000 in
theorem eqField_any (no : Int) (s : ByteArray) (w : World) :
    Calls Tryd.prog 28 #[.agg #[.int .i64 no, .string s], .agg #[.int .i64 no, .string s]] w fun e w' => e = .returned (.bool true) ∧ Below w.heap.size w w' := by
  go_enter Tryd.func28, Tryd.ntmps28
  go_wp2
  go_ret
  exact ⟨rfl, ((Below.refl _ _).alloc (Nat.le_refl _) _).alloc (by simp) _⟩
set_option maxRecDepth 100000 in
set_option maxHeartbeats 1600000 in
theorem eqFields_any (hi1 hi2 : Nat) (va vb : Value) (l : List FieldD) (w : World) (hn : l.length ≤ 4611686018427387904) (h1 : FieldsR.rd hi1 w [va] l) (h2 : FieldsR.rd hi2 w [vb] l) (hh1 : hi1 ≤ w.heap.size) (hh2 : hi2 ≤ w.heap.size) :
    Calls Tryd.prog 21 #[va, vb] w fun e w' => e = .returned (.bool true) ∧ Below w.heap.size w w' := by
  obtain ⟨A1, c1, rfl, -, h1⟩ := fields_rd h1
  obtain ⟨A2, c2, rfl, -, h2⟩ := fields_rd h2
  have H1 := Lib.hid h1
  have H2 := Lib.hid h2
  clear h1 h2
  go_enter Tryd.func21, Tryd.ntmps21
  go_wp2
  go_loopw [5] (fun iv wr => ∃ k : Nat, k ≤ l.length ∧ iv = .int .i64 k ∧ Hid (Below w.heap.size w wr) ∧ w.heap.size ≤ wr.heap.size) (fun iv _ => l.length - (intOf iv).toNat)
  case atStart => exact ⟨0, Nat.zero_le _, rfl, Lib.hid (Below.refl _ _), Nat.le_refl _⟩
  case round =>
    obtain ⟨k, hk, rfl, HB, hz⟩ := hrel
    by_cases hlt : k < l.length
    · obtain ⟨x, hx⟩ : ∃ x, l[k]? = some x := ⟨_, List.getElem?_eq_getElem hlt⟩
      obtain ⟨b1, o1, rfl, hb1, x1, y1⟩ := H1.out k x hx
      obtain ⟨b2, o2, rfl, hb2, x2, y2⟩ := H2.out k x hx
      have x1 := (HB.out.cell (p := ⟨b1, _, none⟩) (show b1 < w.heap.size by omega)).trans x1
      have y1 := (HB.out.cell (p := ⟨b1, _, none⟩) (show b1 < w.heap.size by omega)).trans y1
      have x2 := (HB.out.cell (p := ⟨b2, _, none⟩) (show b2 < w.heap.size by omega)).trans x2
      have y2 := (HB.out.cell (p := ⟨b2, _, none⟩) (show b2 < w.heap.size by omega)).trans y2
      have g1 : (k : Int) < (l.length : Int) := by omega
      have g2 : 0 ≤ (k : Int) := by omega
      clear hx
      go_wp2
      go_region_held3 (fun w' => w'.cell? ⟨b1, o1 + k * 2, none⟩ = some (.int .i64 x.1) ∧ w'.cell? ⟨b1, o1 + k * 2 + 1, none⟩ = some (.string x.2) ∧ w'.cell? ⟨b2, o2 + k * 2, none⟩ = some (.int .i64 x.1) ∧ w'.cell? ⟨b2, o2 + k * 2 + 1, none⟩ = some (.string x.2)) (go_keep) ((go_at_call 28; refine (eqField_any x.1 x.2 _).mono ?_; rintro e w2 ⟨rfl, hb⟩; have q1 := (hb.cell (p := ⟨b1, o1 + k * 2, none⟩) (show b1 < wr.heap.size by omega)).trans x1; have q2 := (hb.cell (p := ⟨b1, o1 + k * 2 + 1, none⟩) (show b1 < wr.heap.size by omega)).trans y1; have q3 := (hb.cell (p := ⟨b2, o2 + k * 2, none⟩) (show b2 < wr.heap.size by omega)).trans x2; have q4 := (hb.cell (p := ⟨b2, o2 + k * 2 + 1, none⟩) (show b2 < wr.heap.size by omega)).trans y2))
      have hz2 := hb.size
      have HB2 : Hid (Below w.heap.size w w2) := Lib.hid ((HB.out.trans (below_drew _ _)).trans (hb.mono hz))
      clear hb
      go_wp2
      go_roundw
      case rel => exact ⟨k + 1, by omega, by go_num, HB2, by have : wr.heap.size ≤ w2.heap.size := hz2; omega⟩
      case measure => simp [intOf] <;> omega
    · go_wp2
      go_ret
      exact ⟨rfl, HB.out⟩

set_option maxRecDepth 100000 in
theorem eqMsg_any (hi1 hi2 : Nat) (va vb : Value) (m : MsgD) (w : World) (hs : m.1.size ≤ 1048576) (hn : m.2.length ≤ 4611686018427387904) (h1 : FieldsR.rd hi1 w [va] m.2) (h2 : FieldsR.rd hi2 w [vb] m.2) (hh1 : hi1 ≤ w.heap.size) (hh2 : hi2 ≤ w.heap.size) :
    Calls Tryd.prog 12 #[.agg #[.string m.1, va], .agg #[.string m.1, vb]] w fun e w' => e = .returned (.bool true) ∧ Below w.heap.size w w' := by
  obtain ⟨A1, c1, rfl, -⟩ := Rep.slice_form h1
  obtain ⟨A2, c2, rfl, -⟩ := Rep.slice_form h2
  have H1 := Lib.hid h1
  have H2 := Lib.hid h2
  clear h1 h2
  have hb0 : Hid (∀ o1 o2, Below w.heap.size w ((w.alloc o1).alloc o2)) := Lib.hid fun o1 o2 => ((Below.refl _ _).alloc (Nat.le_refl _) _).alloc (by simp) _
  go_enter Tryd.func12, Tryd.ntmps12
  go_wp2_with fail
  refine (eqFields_any hi1 hi2 _ _ m.2 _ hn (Rep.below (R := FieldsR) H1.out (hb0.out _ _) hh1) (Rep.below (R := FieldsR) H2.out (hb0.out _ _) hh2) (by simp; omega) (by simp; omega)).mono ?_
  rintro e w1 ⟨rfl, hb⟩
  have hb1 : Below w.heap.size w w1 := (hb0.out _ _).trans (hb.mono (by simp; omega))
  clear hb
  go_wp2
  go_ret
  exact ⟨rfl, hb1⟩

/-- what is left of a bound, or -1 -/
def leftOf (left : Int) (need : Nat) (r : Int) : Prop := r = -1 ∨ (r = left - need ∧ 0 ≤ r)
def szRes (left : Int) (need : Nat) (w : World) (e : Ending) (w' : World) : Prop := ∃ r, e = .returned (.int .i64 r) ∧ leftOf left need r ∧ Below w.heap.size w w'
/-- the sizes of the first elements -/
def sumTo {α : Type} (f : α → Nat) (l : List α) (i : Nat) : Nat := ((l.take i).map f).sum
set_option maxRecDepth 100000 in
theorem sumTo_next {α : Type} (f : α → Nat) (l : List α) (i : Nat) (x : α) (h : l[i]? = some x) : sumTo f l (i + 1) = sumTo f l i + f x := by
  obtain ⟨hi, rfl⟩ := List.getElem?_eq_some_iff.1 h
  unfold sumTo
  rw [List.take_succ_eq_append_getElem hi, List.map_append, List.sum_append]
  simp
set_option maxRecDepth 100000 in
theorem sumTo_le {α : Type} (f : α → Nat) (l : List α) (i : Nat) : sumTo f l i ≤ (l.map f).sum := by
  unfold sumTo
  have h : (l.map f).sum = ((l.take i).map f).sum + ((l.drop i).map f).sum := by rw [← List.sum_append, ← List.map_append, List.take_append_drop]
  omega
set_option maxRecDepth 100000 in
theorem sumTo_all {α : Type} (f : α → Nat) (l : List α) : sumTo f l l.length = (l.map f).sum := by unfold sumTo; rw [List.take_length]
set_option maxRecDepth 100000 in
theorem le_sum {α : Type} (f : α → Nat) {l : List α} {x : α} (h : x ∈ l) : f x ≤ (l.map f).sum := by
  induction l with
  | nil => cases h
  | cons y l ih =>
    rw [List.map_cons, List.sum_cons]
    rcases List.mem_cons.1 h with rfl | h
    · omega
    · have := ih h; omega
def fieldsSz (l : List FieldD) : Nat := l.length + (l.map fun x => x.2.size).sum
def msgSz (m : MsgD) : Nat := m.1.size + fieldsSz m.2
end Go.Proofs.YtdjlhijaadombaaDoor
