/- Fields and messages: their layout, and what the law package's helpers do with them; no conditions. -/
import Derived.Test.YtpeeagkfhdeagaaGreatDoorRowS
import Derived.Deep.RegionHeld3
set_option linter.unusedVariables false
namespace Go.Proofs.YtpeeagkfhdeagaaGreatDoor
open Go.ChangeShapes Go.WideShapes Go.ChangeAt Go.RowKit

abbrev FieldD := Int × ByteArray
abbrev MsgD := ByteArray × List FieldD
def noF : FieldD := (0, ⟨#[]⟩)
def FieldR : Rep FieldD := Rep.pair (Rep.int .i64) Rep.str
def FieldsR : Rep (List FieldD) := FieldR.slice
def MsgR : Rep MsgD := Rep.pair Rep.str FieldsR
def fCells (x : FieldD) : List Value := [.int .i64 x.1, .string x.2]
set_option maxRecDepth 100000 in
theorem field_rd {hi : Nat} {w : World} {cs : List Value} {x : FieldD} : FieldR.rd hi w cs x ↔ cs = fCells x := by
  constructor
  · rintro ⟨a, b, rfl, rfl, rfl⟩; rfl
  · rintro rfl; exact ⟨[_], [_], rfl, rfl, rfl⟩
set_option maxRecDepth 100000 in
theorem field_own {w : World} {cs : List Value} {x : FieldD} {F : List Nat} : FieldR.own w cs x F ↔ cs = fCells x ∧ F = [] := by
  constructor
  · rintro ⟨a, b, G, H, rfl, rfl, ⟨rfl, rfl⟩, ⟨rfl, rfl⟩⟩; exact ⟨rfl, rfl⟩
  · rintro ⟨rfl, rfl⟩; exact ⟨[_], [_], [], [], rfl, rfl, ⟨rfl, rfl⟩, ⟨rfl, rfl⟩⟩
set_option maxRecDepth 100000 in
/-- a slice of fields: its value and its cells -/
theorem fields_rd {hi : Nat} {w : World} {v : Value} {l : List FieldD} (h : FieldsR.rd hi w [v] l) :
    ∃ A c, v = .slice A l.length c ∧ l.length ≤ c ∧ ∀ j x, l[j]? = some x → ∃ b off, A = some ⟨b, off, none⟩ ∧ b < hi ∧ w.cell? ⟨b, off + j * 2, none⟩ = some (.int .i64 x.1) ∧ w.cell? ⟨b, off + j * 2 + 1, none⟩ = some (.string x.2) := by
  obtain ⟨A, c, hv, hc, hj⟩ := h
  simp only [List.cons.injEq, and_true] at hv
  refine ⟨A, c, hv, hc, fun j x hx => ?_⟩
  obtain ⟨b, off, xs, hA, hb, hr, ha⟩ := hj j x hx
  rw [field_rd] at hr
  subst hr
  exact ⟨b, off, hA, hb, ha 0 _ rfl, ha 1 _ rfl⟩
set_option maxRecDepth 100000 in
/-- a row of fields in one block of one's own -/
theorem fields_mine {lo hi : Nat} {w : World} {b off c n : Nat} {l : List FieldD} (hn : n = l.length) (hc : n ≤ c) (h1 : lo ≤ b) (h2 : b < hi) (h : filled w b off 2 n n fun j => fCells (l.getD j (0, ⟨#[]⟩))) : FieldsR.mine lo hi w [.slice (some ⟨b, off, none⟩) n c] l := by
  subst hn
  refine ⟨b :: List.flatten (l.map fun _ => []), ⟨some ⟨b, off, none⟩, c, rfl, hc, .inr ⟨b, off, _, rfl, rfl, by simp, fun j x G hx hG => ?_⟩⟩, ?_, ?_⟩
  · have hj := (List.getElem?_eq_some_iff.1 hx).1
    have hG' : G = [] := by rw [List.getElem?_map, hx] at hG; simpa using hG.symm
    subst hG'
    have hx' : l.getD j (0, ⟨#[]⟩) = x := by rw [List.getD_eq_getElem?_getD, hx]; rfl
    have ha := h.at_ j hj
    rw [hx'] at ha
    exact ⟨_, field_own.2 ⟨rfl, rfl⟩, ha, fun t ht => (h.cells hj t ht).2⟩
  · have : List.flatten (l.map fun _ => ([] : List Nat)) = [] := by simp
    rw [this]; simp
  · have : List.flatten (l.map fun _ => ([] : List Nat)) = [] := by simp
    rw [this]
    intro b' hb'
    rw [List.mem_singleton.1 hb']
    exact ⟨h1, h2⟩

set_option maxRecDepth 100000 in
theorem below_drew (w : World) (B : Nat) : Below B w w.drew := ⟨rfl, rfl, rfl, Nat.le_refl _, fun _ _ => rfl⟩
set_option maxRecDepth 100000 in
theorem bcell {W w1 : World} (hb : Below W.heap.size W w1) : (∀ b o, b < W.heap.size → w1.cell? ⟨b, o, none⟩ = W.cell? ⟨b, o, none⟩) ∧ (∀ b o, b < W.heap.size → w1.frozen? ⟨b, o, none⟩ = W.frozen? ⟨b, o, none⟩) :=
  ⟨fun b o h => hb.cell (p := ⟨b, o, none⟩) h, fun b o h => hb.frozen (p := ⟨b, o, none⟩) h⟩
set_option maxRecDepth 100000 in
theorem getD_of {α : Type} {l : List α} {j : Nat} {x d : α} (h : l[j]? = some x) : l.getD j d = x := by rw [List.getD_eq_getElem?_getD, h]; rfl
/-- what is left of a bound, or -1 -/
def leftOf (left : Int) (need : Nat) (r : Int) : Prop := r = -1 ∨ (r = left - need ∧ 0 ≤ r)
def szRes (left : Int) (need : Nat) (w : World) (e : Ending) (w' : World) : Prop := ∃ r, e = .returned (.int .i64 r) ∧ leftOf left need r ∧ Below w.heap.size w w'
/-- the sizes of the first elements -/
def sumTo {α : Type} (f : α → Nat) (l : List α) (i : Nat) : Nat := ((l.take i).map f).sum
set_option maxRecDepth 100000 in
theorem sumTo_next {α : Type} (f : α → Nat) (l : List α) (i : Nat) (x : α) (h : l[i]? = some x) : sumTo f l (i + 1) = sumTo f l i + f x := by
  obtain ⟨hi, rfl⟩ := List.getElem?_eq_some_iff.1 h
  unfold sumTo
  rw [List.take_succ_eq_append_getElem hi, List.map_append, List.sum_append]
  simp
set_option maxRecDepth 100000 in
theorem sumTo_le {α : Type} (f : α → Nat) (l : List α) (i : Nat) : sumTo f l i ≤ (l.map f).sum := by
  unfold sumTo
  have h : (l.map f).sum = ((l.take i).map f).sum + ((l.drop i).map f).sum := by rw [← List.sum_append, ← List.map_append, List.take_append_drop]
  omega
set_option maxRecDepth 100000 in
theorem sumTo_all {α : Type} (f : α → Nat) (l : List α) : sumTo f l l.length = (l.map f).sum := by unfold sumTo; rw [List.take_length]
set_option maxRecDepth 100000 in
theorem le_sum {α : Type} (f : α → Nat) {l : List α} {x : α} (h : x ∈ l) : f x ≤ (l.map f).sum := by
  induction l with
  | nil => cases h
  | cons y l ih =>
    rw [List.map_cons, List.sum_cons]
    rcases List.mem_cons.1 h with rfl | h
    · omega
    · have := ih h; omega
def fieldsSz (l : List FieldD) : Nat := l.length + (l.map fun x => x.2.size).sum
def msgSz (m : MsgD) : Nat := m.1.size + fieldsSz m.2
end Go.Proofs.YtpeeagkfhdeagaaGreatDoor
