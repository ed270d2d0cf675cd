/- How Lean's data lie in Go's memory: numbers, texts, bools, structs (cells in a row) and slices of these; reading, and memory of one's own; no conditions. -/
import Derived.Test.YtpeeagkfhdeagaaDoorNums
set_option linter.unusedVariables false
namespace Go.Proofs.YtpeeagkfhdeagaaDoor
open Go.ChangeShapes Go.WideShapes Go.ChangeAt Go.RowKit

/-- a type's layout: how many cells; which cells read as which data below block hi; which are memory of one's own in the blocks F -/
structure Rep (α : Type) where
  k : Nat
  rd : Nat → World → List Value → α → Prop
  own : World → List Value → α → List Nat → Prop
  rd_len : ∀ {hi w cs x}, rd hi w cs x → cs.length = k
  rd_keep : ∀ {hi w w' cs x}, rd hi w cs x → (∀ b, b < hi → w'.heap[b]? = w.heap[b]?) → rd hi w' cs x
  rd_mono : ∀ {hi hi' w cs x}, rd hi w cs x → hi ≤ hi' → rd hi' w cs x
  own_keep : ∀ {w w' cs x F}, own w cs x F → (∀ b ∈ F, w'.heap[b]? = w.heap[b]?) → own w' cs x F
  own_rd : ∀ {hi w cs x F}, own w cs x F → (∀ b ∈ F, b < hi) → rd hi w cs x
  one : ∀ {hi w cs x}, rd hi w cs x → ∀ c ∈ cs, c.oneCell' = true

def Rep.one1 {α : Type} (f : α → Value) (hf : ∀ x, (f x).oneCell' = true) : Rep α where
  k := 1
  rd _ _ cs x := cs = [f x]
  own _ cs x F := cs = [f x] ∧ F = []
  rd_len := by rintro hi w cs x rfl; rfl
  rd_keep := fun h _ => h
  rd_mono := fun h _ => h
  own_keep := fun h _ => h
  own_rd := fun h _ => h.1
  one := by rintro hi w cs x rfl c hc; rw [List.mem_singleton.1 hc]; exact hf x
def Rep.int (K : IntKind) : Rep Int := Rep.one1 (Value.int K) (fun _ => rfl)
def Rep.str : Rep ByteArray := Rep.one1 Value.string (fun _ => rfl)
def Rep.bool : Rep Bool := Rep.one1 Value.bool (fun _ => rfl)
def Rep.pair {α β : Type} (R : Rep α) (S : Rep β) : Rep (α × β) where
  k := R.k + S.k
  rd hi w cs x := ∃ a b, cs = a ++ b ∧ R.rd hi w a x.1 ∧ S.rd hi w b x.2
  own w cs x F := ∃ a b G H, cs = a ++ b ∧ F = G ++ H ∧ R.own w a x.1 G ∧ S.own w b x.2 H
  rd_len := by rintro hi w cs x ⟨a, b, rfl, h1, h2⟩; rw [List.length_append, R.rd_len h1, S.rd_len h2]
  rd_keep := by rintro hi w w' cs x ⟨a, b, rfl, h1, h2⟩ hk; exact ⟨a, b, rfl, R.rd_keep h1 hk, S.rd_keep h2 hk⟩
  rd_mono := by rintro hi hi' w cs x ⟨a, b, rfl, h1, h2⟩ hk; exact ⟨a, b, rfl, R.rd_mono h1 hk, S.rd_mono h2 hk⟩
  own_keep := by rintro w w' cs x F ⟨a, b, G, H, rfl, rfl, h1, h2⟩ hk; exact ⟨a, b, G, H, rfl, rfl, R.own_keep h1 fun b hb => hk b (List.mem_append_left _ hb), S.own_keep h2 fun b hb => hk b (List.mem_append_right _ hb)⟩
  own_rd := by rintro hi w cs x F ⟨a, b, G, H, rfl, rfl, h1, h2⟩ hk; exact ⟨a, b, rfl, R.own_rd h1 fun b hb => hk b (List.mem_append_left _ hb), S.own_rd h2 fun b hb => hk b (List.mem_append_right _ hb)⟩
  one := by
    rintro hi w cs x ⟨a, b, rfl, h1, h2⟩ c hc
    rcases List.mem_append.1 hc with h | h
    · exact R.one h1 c h
    · exact S.one h2 c h

set_option maxRecDepth 100000 in
theorem cell_keep {w w' : World} {b o : Nat} (h : w'.heap[b]? = w.heap[b]?) : w'.cell? ⟨b, o, none⟩ = w.cell? ⟨b, o, none⟩ := World.cell?_of_block (a := ⟨b, o, none⟩) h
set_option maxRecDepth 100000 in
theorem frozen_keep {w w' : World} {b o : Nat} (h : w'.heap[b]? = w.heap[b]?) : w'.frozen? ⟨b, o, none⟩ = w.frozen? ⟨b, o, none⟩ := World.frozen?_of_block (a := ⟨b, o, none⟩) h

/-- element j of a row of elements of k cells each, from cell off on -/
def atL (w : World) (b o : Nat) (xs : List Value) : Prop := ∀ t u, xs[t]? = some u → w.cell? ⟨b, o + t, none⟩ = some u
def freeL (w : World) (b o n : Nat) : Prop := ∀ t, t < n → w.frozen? ⟨b, o + t, none⟩ = false
def Rep.slice {α : Type} (R : Rep α) : Rep (List α) where
  k := 1
  rd hi w cs l := ∃ A c, cs = [.slice A l.length c] ∧ l.length ≤ c ∧ ∀ j x, l[j]? = some x → ∃ b off xs, A = some ⟨b, off, none⟩ ∧ b < hi ∧ R.rd hi w xs x ∧ atL w b (off + j * R.k) xs
  own w cs l F := ∃ A c, cs = [.slice A l.length c] ∧ l.length ≤ c ∧ ((l = [] ∧ F = []) ∨ ∃ b off Fs, A = some ⟨b, off, none⟩ ∧ F = b :: List.flatten Fs ∧ Fs.length = l.length ∧ ∀ j x G, l[j]? = some x → Fs[j]? = some G → ∃ xs, R.own w xs x G ∧ atL w b (off + j * R.k) xs ∧ freeL w b (off + j * R.k) R.k)
  rd_len := by rintro hi w cs x ⟨A, c, rfl, _⟩; rfl
  rd_keep := by
    rintro hi w w' cs l ⟨A, c, rfl, hc, h⟩ hk
    refine ⟨A, c, rfl, hc, fun j x hx => ?_⟩
    obtain ⟨b, off, xs, rfl, hb, hr, ha⟩ := h j x hx
    exact ⟨b, off, xs, rfl, hb, R.rd_keep hr hk, fun t u hu => (cell_keep (hk b hb)).trans (ha t u hu)⟩
  rd_mono := by
    rintro hi hi' w cs l ⟨A, c, rfl, hc, h⟩ hk
    refine ⟨A, c, rfl, hc, fun j x hx => ?_⟩
    obtain ⟨b, off, xs, rfl, hb, hr, ha⟩ := h j x hx
    exact ⟨b, off, xs, rfl, by omega, R.rd_mono hr hk, ha⟩
  own_keep := by
    rintro w w' cs l F ⟨A, c, rfl, hc, h⟩ hk
    refine ⟨A, c, rfl, hc, ?_⟩
    rcases h with h | ⟨b, off, Fs, rfl, rfl, hl, h⟩
    · exact .inl h
    · refine .inr ⟨b, off, Fs, rfl, rfl, hl, fun j x G hx hG => ?_⟩
      obtain ⟨xs, h1, h2, h3⟩ := h j x G hx hG
      have hb := hk b (List.mem_cons_self ..)
      exact ⟨xs, R.own_keep h1 fun b' hb' => hk b' (List.mem_cons_of_mem _ (List.mem_flatten.2 ⟨G, List.mem_of_getElem? hG, hb'⟩)), fun t u hu => (cell_keep hb).trans (h2 t u hu), fun t ht => (frozen_keep hb).trans (h3 t ht)⟩
  own_rd := by
    rintro hi w cs l F ⟨A, c, rfl, hc, h⟩ hk
    refine ⟨A, c, rfl, hc, fun j x hx => ?_⟩
    rcases h with ⟨rfl, _⟩ | ⟨b, off, Fs, rfl, rfl, hl, h⟩
    · simp at hx
    · have hj : j < l.length := (List.getElem?_eq_some_iff.1 hx).1
      have hG : Fs[j]? = some (Fs[j]'(by omega)) := List.getElem?_eq_getElem (by omega)
      obtain ⟨xs, h1, h2, h3⟩ := h j x _ hx hG
      exact ⟨b, off, xs, rfl, hk b (List.mem_cons_self ..), R.own_rd h1 fun b' hb' => hk b' (List.mem_cons_of_mem _ (List.mem_flatten.2 ⟨_, List.mem_of_getElem? hG, hb'⟩)), h2⟩
  one := by rintro hi w cs x ⟨A, c, rfl, _⟩ v hv; rw [List.mem_singleton.1 hv]; rfl

/-- memory of one's own from block lo up to block hi, no block twice -/
def Rep.mine {α : Type} (R : Rep α) (lo hi : Nat) (w : World) (cs : List Value) (x : α) : Prop := ∃ F, R.own w cs x F ∧ F.Nodup ∧ ∀ b ∈ F, lo ≤ b ∧ b < hi
section
variable {α β : Type} {R : Rep α} {S : Rep β} {lo lo' hi hi' B : Nat} {w w' : World} {cs : List Value} {x : α}
set_option maxRecDepth 100000 in
theorem Rep.mine.rd (h : R.mine lo hi w cs x) : R.rd hi w cs x := by
  obtain ⟨F, h1, _, h3⟩ := h
  exact R.own_rd h1 fun b hb => (h3 b hb).2
set_option maxRecDepth 100000 in
theorem Rep.mine.mono (h : R.mine lo hi w cs x) (h1 : lo' ≤ lo) (h2 : hi ≤ hi') : R.mine lo' hi' w cs x := by
  obtain ⟨F, h3, h4, h5⟩ := h
  exact ⟨F, h3, h4, fun b hb => by have := h5 b hb; omega⟩
set_option maxRecDepth 100000 in
theorem Rep.mine.keep (h : R.mine lo hi w cs x) (hk : ∀ b, lo ≤ b → b < hi → w'.heap[b]? = w.heap[b]?) : R.mine lo hi w' cs x := by
  obtain ⟨F, h3, h4, h5⟩ := h
  exact ⟨F, R.own_keep h3 fun b hb => hk b (h5 b hb).1 (h5 b hb).2, h4, h5⟩
set_option maxRecDepth 100000 in
theorem Rep.mine.below (h : R.mine lo hi w cs x) (hb : Below B w w') (hB : hi ≤ B) : R.mine lo hi w' cs x := h.keep fun b _ h2 => hb.block b (by omega)
set_option maxRecDepth 100000 in
theorem Rep.below (h : R.rd hi w cs x) (hb : Below B w w') (hB : hi ≤ B) : R.rd hi w' cs x := R.rd_keep h fun b h2 => hb.block b (by omega)
end
/-- only blocks from lo up to hi have turned, and new ones have come -/
structure Turned (lo hi : Nat) (w w' : World) : Prop where
  os : w'.os = w.os
  tape : w'.tape = w.tape
  output : w'.output = w.output
  size : w.heap.size ≤ w'.heap.size
  block : ∀ b, b < w.heap.size → (b < lo ∨ hi ≤ b) → w'.heap[b]? = w.heap[b]?
set_option maxRecDepth 100000 in
theorem Turned.refl (lo hi : Nat) (w : World) : Turned lo hi w w := ⟨rfl, rfl, rfl, Nat.le_refl _, fun _ _ _ => rfl⟩
set_option maxRecDepth 100000 in
theorem Turned.trans {lo hi : Nat} {u v w : World} (h : Turned lo hi u v) (g : Turned lo hi v w) : Turned lo hi u w :=
  ⟨g.os.trans h.os, g.tape.trans h.tape, g.output.trans h.output, Nat.le_trans h.size g.size, fun b h1 h2 => (g.block b (Nat.lt_of_lt_of_le h1 h.size) h2).trans (h.block b h1 h2)⟩
set_option maxRecDepth 100000 in
theorem Turned.mono {lo hi lo' hi' : Nat} {u v : World} (h : Turned lo hi u v) (h1 : lo' ≤ lo) (h2 : hi ≤ hi') : Turned lo' hi' u v :=
  ⟨h.os, h.tape, h.output, h.size, fun b hb hh => h.block b hb (by omega)⟩
set_option maxRecDepth 100000 in
theorem Turned.of_below {lo hi : Nat} {u v : World} (h : Below u.heap.size u v) : Turned lo hi u v := ⟨h.os, h.tape, h.output, h.size, fun b hb _ => h.block b hb⟩
set_option maxRecDepth 100000 in
theorem Turned.below {lo hi B : Nat} {u v : World} (h : Turned lo hi u v) (hB : B ≤ lo) (hs : B ≤ u.heap.size) : Below B u v := ⟨h.os, h.tape, h.output, h.size, fun b hb => h.block b (by omega) (by omega)⟩
set_option maxRecDepth 100000 in
theorem Turned.set {lo hi : Nat} {u v : World} (h : Turned lo hi u v) {b : Nat} (o : Nat) (x : Value) (h1 : lo ≤ b) (h2 : b < hi) : Turned lo hi u (v.setCell ⟨b, o, none⟩ x) :=
  ⟨h.os, h.tape, h.output, by simpa [World.setCell] using h.size, fun k hk hh => (Below.heap_setCell _ _ _ _ (show k ≠ b by omega)).trans (h.block k hk hh)⟩
set_option maxRecDepth 100000 in
theorem Turned.of_grown {lo hi : Nat} {u v : World} {row : Option Nat} (h : u.grownBy v row) (hr : ∀ b, row = some b → lo ≤ b ∧ b < hi) : Turned lo hi u v :=
  ⟨h.os, h.tape, h.output, h.size, fun b hb hh => h.block b hb (fun e => by have := hr b e.symm; omega)⟩
section
variable {α : Type} {R : Rep α} {lo hi lo' hi' : Nat} {w w' : World} {cs : List Value} {x : α}
set_option maxRecDepth 100000 in
theorem Rep.turned (h : R.rd hi w cs x) (ht : Turned lo' hi' w w') (h1 : hi ≤ lo') (h2 : hi ≤ w.heap.size) : R.rd hi w' cs x := R.rd_keep h fun b hb => ht.block b (by omega) (by omega)
set_option maxRecDepth 100000 in
theorem Rep.mine.turned (h : R.mine lo hi w cs x) (ht : Turned lo' hi' w w') (h1 : hi ≤ lo' ∨ hi' ≤ lo) (h2 : hi ≤ w.heap.size) : R.mine lo hi w' cs x := h.keep fun b hb1 hb2 => ht.block b (by omega) (by omega)
end

set_option maxRecDepth 100000 in
theorem Rep.slice_form {α : Type} {R : Rep α} {hi : Nat} {w : World} {v : Value} {l : List α} (h : R.slice.rd hi w [v] l) : ∃ A c, v = .slice A l.length c ∧ l.length ≤ c := by
  obtain ⟨A, c, hv, hc, _⟩ := h
  exact ⟨A, c, by simpa using hv, hc⟩
/-! slices of numbers in the elder words -/
set_option maxRecDepth 100000 in
theorem atL_one {w : World} {b o : Nat} {u : Value} : atL w b o [u] ↔ w.cell? ⟨b, o, none⟩ = some u := by
  constructor
  · intro h; exact h 0 u rfl
  · intro h t v hv
    cases t with
    | zero => cases hv; exact h
    | succ t => simp at hv
set_option maxRecDepth 100000 in
theorem Rep.of_rd {K : IntKind} {hi : Nat} {w : World} {v : Value} {l : List Int} (h : Proofs.YtpeeagkfhdeagaaDoor.rd K hi w v l) : (Rep.slice (Rep.int K)).rd hi w [v] l := by
  obtain ⟨A, c, rfl, hc, hj⟩ := h
  refine ⟨A, c, rfl, hc, fun j x hx => ?_⟩
  have hl : j < l.length := (List.getElem?_eq_some_iff.1 hx).1
  obtain ⟨b, off, rfl, hb, hcell⟩ := hj j hl
  refine ⟨b, off, [.int K x], rfl, hb, rfl, atL_one.2 ?_⟩
  show w.cell? ⟨b, off + j * 1, none⟩ = _
  rw [Nat.mul_one, hcell, List.getD_eq_getElem?_getD, hx]
  rfl
set_option maxRecDepth 100000 in
theorem Rep.to_rd {K : IntKind} {hi : Nat} {w : World} {cs : List Value} {l : List Int} (h : (Rep.slice (Rep.int K)).rd hi w cs l) : ∃ v, cs = [v] ∧ Proofs.YtpeeagkfhdeagaaDoor.rd K hi w v l := by
  obtain ⟨A, c, rfl, hc, hj⟩ := h
  refine ⟨_, rfl, A, c, rfl, hc, fun j hl => ?_⟩
  obtain ⟨b, off, xs, rfl, hb, hx, hcell⟩ := hj j _ (List.getElem?_eq_getElem hl)
  have hx' : xs = [.int K l[j]] := hx
  subst hx'
  refine ⟨b, off, rfl, hb, ?_⟩
  have := atL_one.1 hcell
  rw [show off + j * (Rep.int K).k = off + j from by show off + j * 1 = _; rw [Nat.mul_one]] at this
  rw [this, List.getD_eq_getElem?_getD, List.getElem?_eq_getElem hl]
  rfl
end Go.Proofs.YtpeeagkfhdeagaaDoor
