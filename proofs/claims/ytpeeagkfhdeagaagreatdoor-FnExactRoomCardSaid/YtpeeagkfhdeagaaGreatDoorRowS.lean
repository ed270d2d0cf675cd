/- Rows of structs that a call fills or marks, element by element; no conditions. -/
import Derived.Test.YtpeeagkfhdeagaaGreatDoorRep
import Derived.Laws.MakeOwn
set_option linter.unusedVariables false
namespace Go.Proofs.YtpeeagkfhdeagaaGreatDoor
open Go.ChangeShapes Go.WideShapes Go.ChangeAt Go.RowKit

/-- cells stored one behind the other -/
def setsAt (w : World) (b o : Nat) : List Value → World
  | [] => w
  | u :: us => setsAt (w.setCell ⟨b, o, none⟩ u) b (o + 1) us
/-- n cells from o on are there and may be written -/
def roomL (w : World) (b o n : Nat) : Prop := ∀ t, t < n → (∃ u, w.cell? ⟨b, o + t, none⟩ = some u) ∧ w.frozen? ⟨b, o + t, none⟩ = false
set_option maxRecDepth 100000 in
theorem roomL.set {w : World} {b o n : Nat} (h : roomL w b o n) (p : Nat) (x : Value) : roomL (w.setCell ⟨b, p, none⟩ x) b o n := fun t ht => by
  obtain ⟨⟨u, hu⟩, hf⟩ := h t ht
  refine ⟨?_, by simpa using hf⟩
  by_cases e : p = o + t
  · subst e; exact ⟨_, World.cell?_setCell_same w _ x hu⟩
  · exact ⟨u, (World.cell?_setCell_other _ _ _ _ (fun he => e (by have := congrArg Addr.off he; simp at this; omega))).trans hu⟩
set_option maxRecDepth 100000 in
theorem roomL.keep {w w' : World} {b o n : Nat} (h : roomL w b o n) (hk : w'.heap[b]? = w.heap[b]?) : roomL w' b o n := fun t ht => by
  obtain ⟨⟨u, hu⟩, hf⟩ := h t ht
  exact ⟨⟨u, (cell_keep hk).trans hu⟩, (frozen_keep hk).trans hf⟩
set_option maxRecDepth 100000 in
theorem roomL.sub {w : World} {b o n o' n' : Nat} (h : roomL w b o n) (h1 : o ≤ o') (h2 : o' + n' ≤ o + n) : roomL w b o' n' := fun t ht => by
  have := h (o' - o + t) (by omega)
  rwa [show o + (o' - o + t) = o' + t by omega] at this
set_option maxRecDepth 100000 in
theorem roomL.free {w : World} {b o n : Nat} (h : roomL w b o n) : freeL w b o n := fun t ht => (h t ht).2
set_option maxRecDepth 100000 in
theorem atL.keep {w w' : World} {b o : Nat} {us : List Value} (h : atL w b o us) (hk : w'.heap[b]? = w.heap[b]?) : atL w' b o us := fun t u hu => (cell_keep hk).trans (h t u hu)
set_option maxRecDepth 100000 in
theorem atL.set_far {w : World} {b o p : Nat} {us : List Value} (h : atL w b o us) (hp : p < o ∨ o + us.length ≤ p) (x : Value) : atL (w.setCell ⟨b, p, none⟩ x) b o us := fun t u hu => by
  have ht := (List.getElem?_eq_some_iff.1 hu).1
  exact (World.cell?_setCell_other _ _ _ _ (fun he => by have := congrArg Addr.off he; simp at this; omega)).trans (h t u hu)
set_option maxRecDepth 100000 in
theorem setsAt_far (us : List Value) : ∀ (w : World) (b o : Nat) (vs : List Value) (p : Nat), atL w b p vs → (p + vs.length ≤ o ∨ o + us.length ≤ p) → atL (setsAt w b o us) b p vs := by
  induction us with
  | nil => intro w b o vs p h _; exact h
  | cons u us ih =>
    intro w b o vs p h hp
    simp only [List.length_cons] at hp
    exact ih _ b (o + 1) vs p (h.set_far (by omega) u) (by omega)
set_option maxRecDepth 100000 in
theorem setsAt_room (us : List Value) : ∀ (w : World) (b o p n : Nat), roomL w b p n → roomL (setsAt w b o us) b p n := by
  induction us with
  | nil => intro w b o p n h; exact h
  | cons u us ih => intro w b o p n h; exact ih _ b (o + 1) p n (h.set _ _)
set_option maxRecDepth 100000 in
theorem setsAt_at (us : List Value) : ∀ (w : World) (b o : Nat), roomL w b o us.length → atL (setsAt w b o us) b o us := by
  induction us with
  | nil => intro w b o _ t u hu; simp at hu
  | cons u us ih =>
    intro w b o h t v hv
    have hroom := h.set o u
    obtain ⟨⟨x, hx⟩, _⟩ := h 0 (by simp)
    have h0 : atL (w.setCell ⟨b, o, none⟩ u) b o [u] := atL_one.2 (World.cell?_setCell_same w ⟨b, o, none⟩ u hx)
    have h1 := setsAt_far us (w.setCell ⟨b, o, none⟩ u) b (o + 1) [u] o h0 (.inl (by simp))
    have h2 := ih (w.setCell ⟨b, o, none⟩ u) b (o + 1) (hroom.sub (by omega) (by simp; omega))
    cases t with
    | zero => cases hv; exact atL_one.1 h1
    | succ t =>
      have := h2 t v (by simpa using hv)
      rwa [show o + 1 + t = o + (t + 1) by omega] at this
set_option maxRecDepth 100000 in
theorem setsAt_turned {lo hi : Nat} {u : World} (us : List Value) : ∀ (w : World) (b o : Nat), Turned lo hi u w → lo ≤ b → b < hi → Turned lo hi u (setsAt w b o us) := by
  induction us with
  | nil => intro w b o h _ _; exact h
  | cons v us ih => intro w b o h h1 h2; exact ih _ b (o + 1) (h.set o v h1 h2) h1 h2
set_option maxRecDepth 100000 in
theorem setsAt_below {B : Nat} {u : World} (us : List Value) : ∀ (w : World) (b o : Nat), Below B u w → B ≤ b → Below B u (setsAt w b o us) := by
  induction us with
  | nil => intro w b o h _; exact h
  | cons v us ih => intro w b o h h1; exact ih _ b (o + 1) (h.setCell h1 _) h1

/-- of n elements of k cells each in block b the first i hold E 0, E 1, ..; all cells are there and may be written -/
structure filled (w : World) (b off k n i : Nat) (E : Nat → List Value) : Prop where
  room : roomL w b off (n * k)
  at_ : ∀ j, j < i → atL w b (off + j * k) (E j)
set_option maxRecDepth 100000 in
theorem filled.start {w : World} {b off k n : Nat} {E : Nat → List Value} (h : roomL w b off (n * k)) : filled w b off k n 0 E := ⟨h, fun j hj => absurd hj (by omega)⟩
set_option maxRecDepth 100000 in
theorem filled.keep {w w' : World} {b off k n i : Nat} {E : Nat → List Value} (h : filled w b off k n i E) (hk : w'.heap[b]? = w.heap[b]?) : filled w' b off k n i E := ⟨h.room.keep hk, fun j hj => (h.at_ j hj).keep hk⟩
set_option maxRecDepth 100000 in
theorem mul_step {j k i : Nat} (h : j < i) : j * k + k ≤ i * k := by
  have : (j + 1) * k ≤ i * k := Nat.mul_le_mul_right k h
  rwa [Nat.add_mul, Nat.one_mul] at this
set_option maxRecDepth 100000 in
theorem filled.next {w : World} {b off k n i : Nat} {E : Nat → List Value} (h : filled w b off k n i E) (hi : i < n) (hE : ∀ j, j ≤ i → (E j).length = k) : filled (setsAt w b (off + i * k) (E i)) b off k n (i + 1) E := by
  have hik := mul_step (k := k) hi
  refine ⟨setsAt_room _ _ _ _ _ _ h.room, fun j hj => ?_⟩
  by_cases e : j = i
  · subst e
    exact setsAt_at _ _ _ _ (h.room.sub (by omega) (by rw [hE j (Nat.le_refl _)]; omega))
  · have hjk := mul_step (k := k) (show j < i by omega)
    exact setsAt_far _ _ _ _ _ _ (h.at_ j (by omega)) (.inl (by rw [hE j (by omega)]; omega))
set_option maxRecDepth 100000 in
theorem room_new (w : World) (cs : Array Value) (T : TypeId) : roomL (w.alloc (.cells cs T)) w.heap.size 0 cs.size := fun t ht => by
  have hb := heap_alloc_new w (.cells cs T)
  rw [Nat.zero_add]
  refine ⟨⟨cs[t], ?_⟩, ?_⟩
  · rw [cell_of_row _ _ t cs T (0, 0) hb]; exact Array.getElem?_eq_getElem ht
  · unfold World.frozen?; rw [hb]; simp
set_option maxRecDepth 100000 in
theorem room_made (w : World) (z : Array Value) (n : Nat) (T : TypeId) : roomL (w.alloc (.cells (madeCells z n) T)) w.heap.size 0 n := by
  have := room_new w (madeCells z n) T
  rwa [size_madeCells] at this
set_option maxRecDepth 100000 in
/-- what make lays, elements of k cells -/
theorem make_run {P : Program} (t e : TypeId) (zs : Array Value) (k bytes : Nat) (ht : P.underlying t = some (.slice e)) (hinfo : (P.info? e).map (fun i => (i.zero.map (·.cells), i.size, i.bytes)) = some (some zs, k, bytes)) (n : Nat) (hb : bytes * n ≤ 281474976710656) (hn : n ≤ 1000000000000) :
    ∀ w, (Instr.makeSlice t (.int .i64 n) (.int .i64 n)).run P w = .ok (.slice (some ⟨w.heap.size, 0, none⟩) n n) (w.alloc (.cells (madeCells zs (n * k)) e)) := by
  intro w
  obtain ⟨i, hi, hx⟩ := Option.map_eq_some_iff.1 hinfo
  simp only [Prod.mk.injEq] at hx
  obtain ⟨hz, h1, h2⟩ := hx
  obtain ⟨z, hzz, rfl⟩ := Option.map_eq_some_iff.1 hz
  subst h1
  subst h2
  have := run_make (P := P) w t e i z ht hi hzz .i64 .i64 n n (by omega) (by omega) (by rw [← Int.natCast_mul]; omega) (by omega)
  rw [this]
  rfl
set_option maxRecDepth 100000 in
theorem set_congr {w w' : World} {b : Nat} (h : w'.heap[b]? = w.heap[b]?) (o : Nat) (x : Value) : (w'.setCell ⟨b, o, none⟩ x).heap[b]? = (w.setCell ⟨b, o, none⟩ x).heap[b]? := by
  simp only [World.setCell, Array.getElem?_modify, h]
set_option maxRecDepth 100000 in
/-- a cell of element j -/
theorem filled.cells {w : World} {b off k n i j : Nat} {E : Nat → List Value} (h : filled w b off k n i E) (hj : j < n) (t : Nat) (ht : t < k) : (∃ u, w.cell? ⟨b, off + j * k + t, none⟩ = some u) ∧ w.frozen? ⟨b, off + j * k + t, none⟩ = false := by
  have hjk := mul_step (k := k) hj
  have := h.room (j * k + t) (by omega)
  rwa [← Nat.add_assoc] at this
end Go.Proofs.YtpeeagkfhdeagaaGreatDoor
