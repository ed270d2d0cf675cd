/- Slices of numbers: what such a slice reads as, and what the law package's helpers do with it; no conditions. -/
import Derived.Test.YtpeeagkfhdeagaaGreatDoorBase
import Derived.BigQuiet
import Derived.Deep.QuietTactic
import Derived.Deep.RegionWith
import Derived.Deep.OwnRows
import Derived.OwnWalk
import Derived.Laws.AppendOwn
import Derived.Laws.BytesArg
set_option linter.unusedVariables false
namespace Go.Proofs.YtpeeagkfhdeagaaGreatDoor
open Go.ChangeShapes Go.WideShapes Go.ChangeAt Go.RowKit

/-- the slice v reads as the numbers l of kind K; its block lies below hi -/
def rd (K : IntKind) (hi : Nat) (w : World) (v : Value) (l : List Int) : Prop :=
  ∃ (A : Option Addr) (c : Nat), v = .slice A l.length c ∧ l.length ≤ c ∧ ∀ j, j < l.length → ∃ b off : Nat, A = some ⟨b, off, none⟩ ∧ b < hi ∧ w.cell? ⟨b, off + j, none⟩ = some (.int K (l.getD j 0))
/-- the same; its block lies from lo on; its cells may be written -/
def nums (K : IntKind) (lo hi : Nat) (w : World) (v : Value) (l : List Int) : Prop :=
  ∃ (A : Option Addr) (c : Nat), v = .slice A l.length c ∧ l.length ≤ c ∧ ∀ j, j < l.length → ∃ b off : Nat, A = some ⟨b, off, none⟩ ∧ lo ≤ b ∧ b < hi ∧ w.cell? ⟨b, off + j, none⟩ = some (.int K (l.getD j 0)) ∧ w.frozen? ⟨b, off + j, none⟩ = false
/-- the block of a slice that is not empty -/
def blk : Value → Option Nat
  | .slice (some a) (_ + 1) _ => some a.block
  | _ => none

set_option maxRecDepth 100000 in
theorem nums.rd {K : IntKind} {lo hi : Nat} {w : World} {v : Value} {l : List Int} (h : nums K lo hi w v l) : rd K hi w v l := by
  obtain ⟨A, c, rfl, hc, hj⟩ := h
  refine ⟨A, c, rfl, hc, fun j hl => ?_⟩
  obtain ⟨b, off, e, _, h2, h3, _⟩ := hj j hl
  exact ⟨b, off, e, h2, h3⟩
set_option maxRecDepth 100000 in
theorem rd.below {K : IntKind} {hi B : Nat} {w w' : World} {v : Value} {l : List Int} (h : rd K hi w v l) (hb : Below B w w') (hB : hi ≤ B) : rd K hi w' v l := by
  obtain ⟨A, c, rfl, hc, hj⟩ := h
  refine ⟨A, c, rfl, hc, fun j hl => ?_⟩
  obtain ⟨b, off, e, h2, h3⟩ := hj j hl
  exact ⟨b, off, e, h2, (hb.cell (p := ⟨b, _, none⟩) (Nat.lt_of_lt_of_le h2 hB)).trans h3⟩
set_option maxRecDepth 100000 in
theorem rd.mono {K : IntKind} {hi hi' : Nat} {w : World} {v : Value} {l : List Int} (h : rd K hi w v l) (hh : hi ≤ hi') : rd K hi' w v l := by
  obtain ⟨A, c, rfl, hc, hj⟩ := h
  refine ⟨A, c, rfl, hc, fun j hl => ?_⟩
  obtain ⟨b, off, e, h2, h3⟩ := hj j hl
  exact ⟨b, off, e, Nat.lt_of_lt_of_le h2 hh, h3⟩
set_option maxRecDepth 100000 in
theorem nums.below {K : IntKind} {lo hi B : Nat} {w w' : World} {v : Value} {l : List Int} (h : nums K lo hi w v l) (hb : Below B w w') (hB : hi ≤ B) : nums K lo hi w' v l := by
  obtain ⟨A, c, rfl, hc, hj⟩ := h
  refine ⟨A, c, rfl, hc, fun j hl => ?_⟩
  obtain ⟨b, off, e, h1, h2, h3, h4⟩ := hj j hl
  exact ⟨b, off, e, h1, h2, (hb.cell (p := ⟨b, _, none⟩) (Nat.lt_of_lt_of_le h2 hB)).trans h3, (hb.frozen (p := ⟨b, _, none⟩) (Nat.lt_of_lt_of_le h2 hB)).trans h4⟩
set_option maxRecDepth 100000 in
theorem nums.mono {K : IntKind} {lo lo' hi hi' : Nat} {w : World} {v : Value} {l : List Int} (h : nums K lo hi w v l) (hl : lo' ≤ lo) (hh : hi ≤ hi') : nums K lo' hi' w v l := by
  obtain ⟨A, c, rfl, hc, hj⟩ := h
  refine ⟨A, c, rfl, hc, fun j hl' => ?_⟩
  obtain ⟨b, off, e, h1, h2, h3⟩ := hj j hl'
  exact ⟨b, off, e, Nat.le_trans hl h1, Nat.lt_of_lt_of_le h2 hh, h3⟩
set_option maxRecDepth 100000 in
theorem nums.blk {K : IntKind} {lo hi : Nat} {w : World} {v : Value} {l : List Int} (h : nums K lo hi w v l) : ∀ k, blk v = some k → lo ≤ k ∧ k < hi := by
  obtain ⟨A, c, rfl, hc, hj⟩ := h
  intro k hk
  cases A with
  | none => simp [Proofs.YtpeeagkfhdeagaaGreatDoor.blk] at hk
  | some a =>
    cases hn : l.length with
    | zero => rw [hn] at hk; simp [Proofs.YtpeeagkfhdeagaaGreatDoor.blk] at hk
    | succ n =>
      rw [hn] at hk
      obtain ⟨b, off, e, h1, h2, _⟩ := hj 0 (by omega)
      simp only [Option.some.injEq] at e
      subst e
      simp only [Proofs.YtpeeagkfhdeagaaGreatDoor.blk, Option.some.injEq] at hk
      subst hk
      exact ⟨h1, h2⟩
set_option maxRecDepth 100000 in
theorem nums.grown {K : IntKind} {lo hi : Nat} {w w' : World} {v : Value} {l : List Int} {row : Option Nat} (h : nums K lo hi w v l) (hg : w.grownBy w' row) (hh : hi ≤ w.heap.size) (hr : ∀ k, row = some k → k < lo ∨ hi ≤ k) : nums K lo hi w' v l := by
  obtain ⟨A, c, rfl, hc, hj⟩ := h
  refine ⟨A, c, rfl, hc, fun j hl' => ?_⟩
  obtain ⟨b, off, e, h1, h2, h3, h4⟩ := hj j hl'
  have hb : w'.heap[b]? = w.heap[b]? := hg.block b (by omega) (fun e => by have := hr b e.symm; omega)
  exact ⟨b, off, e, h1, h2, (World.cell?_of_block (a := ⟨b, _, none⟩) hb).trans h3, (World.frozen?_of_block (a := ⟨b, _, none⟩) hb).trans h4⟩
set_option maxRecDepth 100000 in
theorem below_of_grown {w w' : World} {row : Option Nat} {B : Nat} (hg : w.grownBy w' row) (hB : B ≤ w.heap.size) (hr : ∀ k, row = some k → B ≤ k) : Below B w w' := (Below.refl B w).grown hg hB hr
set_option maxRecDepth 100000 in
theorem map_getD {K : IntKind} {l : List Int} {j : Nat} (h : j < l.length) : (l.map (Value.int K))[j]? = some (.int K (l.getD j 0)) := by
  rw [List.getElem?_map, List.getElem?_eq_getElem h, List.getD_eq_getElem?_getD, List.getElem?_eq_getElem h]; rfl
set_option maxRecDepth 100000 in
theorem nums_of_own {K : IntKind} {lo : Nat} {w : World} {v : Value} {l : List Int} {e : TypeId} {n : Nat} (h : w.ownsRow lo e 1 v n (l.map (Value.int K))) : nums K lo w.heap.size w v l := by
  have hn : n = l.length := by have := h.1; simp at this; omega
  subst hn
  rcases h.2 with ⟨rfl, h0⟩ | ⟨g, cap, cur, rfl, hg, hh, h1, h2, h3, h4⟩
  · exact ⟨none, 0, by rw [h0], by omega, fun j hj => by omega⟩
  · refine ⟨_, cap, rfl, h1, fun j hj => ⟨g, 0, rfl, hg, (Array.getElem?_eq_some_iff.1 hh).1, ?_, ?_⟩⟩
    · have hc : w.cell? ⟨g, 0 + j, none⟩ = _ := h.cellAt (0 + j) (by omega)
      rw [hc, Nat.zero_add]
      exact map_getD hj
    · exact h.frozenAt (0 + j)
set_option maxRecDepth 100000 in
theorem nums_none (K : IntKind) (lo hi : Nat) (w : World) : nums K lo hi w (.slice none 0 0) [] := ⟨none, 0, rfl, Nat.le_refl _, fun j hj => by simp at hj⟩


/-- the marks from k on -/
def marksL (f : Int → Int) (k : Int) (n : Nat) : List Int := (List.range n).map fun (i : Nat) => f (k + (i : Int))
set_option maxRecDepth 100000 in
theorem marks_length (f : Int → Int) (k : Int) (n : Nat) : (marksL f k n).length = n := by simp [marksL]
set_option maxRecDepth 100000 in
theorem marks_getD (f : Int → Int) (k : Int) (n j : Nat) (h : j < n) : (marksL f k n).getD j 0 = f (k + j) := by simp [marksL, h]
/-- of n places the first i hold marks; all may be written -/
def mkd (K : IntKind) (f : Int → Int) (lo hi : Nat) (w : World) (A : Option Addr) (k : Int) (i n : Nat) : Prop :=
  ∀ j, j < n → ∃ b off : Nat, A = some ⟨b, off, none⟩ ∧ lo ≤ b ∧ b < hi ∧ w.frozen? ⟨b, off + j, none⟩ = false ∧ (∃ u, w.cell? ⟨b, off + j, none⟩ = some u) ∧ (j < i → w.cell? ⟨b, off + j, none⟩ = some (.int K (f (k + j))))
set_option maxRecDepth 100000 in
theorem mkd.start {K : IntKind} {f : Int → Int} {lo hi : Nat} {w : World} {A : Option Addr} {l : List Int} {k : Int}
    (h : ∀ j, j < l.length → ∃ b off : Nat, A = some ⟨b, off, none⟩ ∧ lo ≤ b ∧ b < hi ∧ w.cell? ⟨b, off + j, none⟩ = some (.int K (l.getD j 0)) ∧ w.frozen? ⟨b, off + j, none⟩ = false) : mkd K f lo hi w A k 0 l.length := fun j hj => by
  obtain ⟨b, off, e, h1, h2, h3, h4⟩ := h j hj
  exact ⟨b, off, e, h1, h2, h4, ⟨_, h3⟩, fun h => by omega⟩
set_option maxRecDepth 100000 in
theorem mkd.done {K : IntKind} {f : Int → Int} {lo hi : Nat} {w : World} {A : Option Addr} {c n : Nat} {k : Int} (h : mkd K f lo hi w A k n n) (hc : n ≤ c) : nums K lo hi w (.slice A n c) (marksL f k n) := by
  refine ⟨A, c, by rw [marks_length], by rw [marks_length]; exact hc, fun j hj => ?_⟩
  rw [marks_length] at hj
  obtain ⟨b, off, e, h1, h2, h4, _, h3⟩ := h j hj
  exact ⟨b, off, e, h1, h2, by rw [marks_getD f k n j hj]; exact h3 hj, h4⟩
set_option maxRecDepth 100000 in
theorem mkd.set {K : IntKind} {f : Int → Int} {lo hi : Nat} {w : World} {b off : Nat} {k : Int} {i n : Nat} {x : Int} (h : mkd K f lo hi w (some ⟨b, off, none⟩) k i n) (hi' : i < n) (hx : x = f (k + i)) : mkd K f lo hi (w.setCell ⟨b, off + i, none⟩ (.int K x)) (some ⟨b, off, none⟩) k (i + 1) n := by
  subst hx
  intro j hj
  have hf : ∀ a, (w.setCell ⟨b, off + i, none⟩ (.int K (f (k + i)))).frozen? a = w.frozen? a := fun a => by simp
  obtain ⟨b', off', e, h1, h2, h3, ⟨u, hu⟩, h5⟩ := h j hj
  simp only [Option.some.injEq, Addr.mk.injEq, and_true] at e
  obtain ⟨rfl, rfl⟩ := e
  refine ⟨b, off, rfl, h1, h2, (hf _).trans h3, ?_⟩
  by_cases e : i = j
  · subst e
    have := World.cell?_setCell_same w ⟨b, off + i, none⟩ (.int K (f (k + i))) hu
    exact ⟨⟨_, this⟩, fun _ => this⟩
  · have hne : ∀ x, (w.setCell ⟨b, off + i, none⟩ x).cell? ⟨b, off + j, none⟩ = w.cell? ⟨b, off + j, none⟩ := fun x => World.cell?_setCell_other _ _ _ _ (fun he => e (by have := congrArg Addr.off he; simp at this; omega))
    exact ⟨⟨u, (hne _).trans hu⟩, fun hlt => (hne _).trans (h5 (by omega))⟩
set_option maxRecDepth 100000 in
theorem grown_set {w w' : World} {b : Nat} (h : w.grownBy w' (some b)) (o : Nat) (x : Value) : w.grownBy (w'.setCell ⟨b, o, none⟩ x) (some b) :=
  ⟨h.os, h.tape, h.output, by simpa [World.setCell] using h.size, fun k hk hne => (Below.heap_setCell _ _ _ _ (fun e => hne (by rw [e]))).trans (h.block k hk hne)⟩
set_option maxRecDepth 100000 in
theorem grown_refl (w : World) (row : Option Nat) : w.grownBy w row := ⟨rfl, rfl, rfl, Nat.le_refl _, fun _ _ _ => rfl⟩
set_option maxRecDepth 100000 in
theorem grown_none {w w' : World} {row : Option Nat} (h : w.grownBy w' none) : w.grownBy w' row := ⟨h.os, h.tape, h.output, h.size, fun k hk _ => h.block k hk (by simp)⟩

/-- of n cells of a row the first i hold these numbers -/
def part (K : IntKind) (b : Nat) (T : TypeId) (n : Nat) (w : World) (l : List Int) (i : Nat) : Prop := w.rowIs b T n (fun j => if j < i then .int K (l.getD j 0) else .int K 0)
set_option maxRecDepth 100000 in
theorem part.set {K : IntKind} {b : Nat} {T : TypeId} {n : Nat} {w : World} {l : List Int} {i : Nat} {x : Int} (h : part K b T n w l i) (hx : x = l.getD i 0) : part K b T n (w.setCell ⟨b, i, none⟩ (.int K x)) l (i + 1) := by
  refine (World.rowIs.set h i _).congr fun j hj => ?_
  by_cases e : j = i
  · subst e
    rw [if_pos rfl, if_pos (by omega), hx]
  · rw [if_neg e]
    by_cases h1 : j < i
    · rw [if_pos h1, if_pos (by omega)]
    · rw [if_neg h1, if_neg (by omega)]
set_option maxRecDepth 100000 in
theorem part.done {K : IntKind} {b lo : Nat} {T : TypeId} {w : World} {l : List Int} (h : part K b T l.length w l l.length) (hlo : lo ≤ b) : nums K lo w.heap.size w (.slice (some ⟨b, 0, none⟩) l.length l.length) l :=
  ⟨_, _, rfl, Nat.le_refl _, fun j hj => ⟨b, 0, rfl, hlo, World.rowIs.lt h, by
    have := World.rowIs.cell h (i := 0 + j) (by omega)
    rw [this, Nat.zero_add, if_pos hj], World.rowIs.frozen h _⟩⟩
set_option maxRecDepth 100000 in
theorem part.start {K : IntKind} {T : TypeId} {b n : Nat} {w : World} {l : List Int} (h : w.rowIs b T n (fun _ => .int K 0)) : part K b T n w l 0 := h.congr fun j _ => by rw [if_neg (by omega)]


set_option maxRecDepth 100000 in
theorem one_cellAt (w : World) (x : Value) (T : TypeId) : ∀ (j : Nat) (u : Value), [x][j]? = some u → (w.alloc (.cells #[x] T)).cell? ((⟨w.heap.size, 0, none⟩ : Addr).add j) = some u := by
  intro j u hu
  have hj : j = 0 := by have := (List.getElem?_eq_some_iff.1 hu).1; simp at this; omega
  subst hj
  have : x = u := by simpa using hu
  subst this
  have e : (⟨w.heap.size, 0, none⟩ : Addr).add 0 = ⟨w.heap.size, 0, none⟩ := by unfold Addr.add; rfl
  rw [e]
  simp
set_option maxRecDepth 100000 in
/-- append of one element of one cell onto a row of the call's own -/
theorem app_one {P : Program} {ops : Array Oper} {rest : List Oper} {o : Oper} {a : Act} {Q : Exit → Act → World → Prop} {α : Type} (f : α → Value) (hf : ∀ x, (f x).oneCell' = true)
    (t e : TypeId) (z : Value) (bytes : Nat) (ht : P.underlying t = some (.slice e)) (hinfo : (P.info? e).map (fun i => (i.zero, i.size, i.bytes)) = some (some z, 1, bytes)) (hzs : z.cells.size = 1)
    (s x : Operand) (hgd : o.guard = none) (ho : o.op = .call { callee := .builtin .append, args := #[s, x], argTypes := #[t, t] })
    (w0 W : World) (v : Value) (l : List α) (y : α) (hs : a.eval s = v) (hx : a.eval x = .slice (some ⟨W.heap.size, 0, none⟩) 1 1)
    (hown : W.ownsRow w0.heap.size e 1 v l.length (l.map f)) (hb : Below w0.heap.size w0 W) (h63 : l.length + 1 ≤ maxLen) (hbytes : (l.length + 1) * bytes ≤ 140737488355328)
    (h : ∀ v' w', w'.ownsRow w0.heap.size e 1 v' (l ++ [y]).length ((l ++ [y]).map f) → Below w0.heap.size w0 w' → wpList P ops Q rest (a.put o.dst v') w') : wpList P ops Q (o :: rest) a (W.alloc (.cells #[f y] e)) := by
  obtain ⟨i0, hi, hz0, hz1, hz2⟩ := info_parts hinfo
  refine wpList_append_own _ hgd s x t ho w0.heap.size e i0 z 1 bytes ht hi hz0 hz1 hz2 hzs (by decide) v l.length (l.map f) hs (hown.alloc _) ⟨W.heap.size, 0, none⟩ 1 1 [f y] hx rfl (one_cellAt W _ _) (fun u hu => by simp at hu; subst hu; exact hf y) h63 hbytes (by simp; have := hb.size; omega) ?_
  intro v' w1 hown' hgrow _
  refine h v' w1 ?_ ((hb.alloc hb.size (.cells #[f y] e)).grown hgrow (by simp; have := hb.size; omega) (fun k hk => ((hown.alloc (.cells #[f y] e)).lt k hk).1))
  rw [List.length_append, List.map_append]
  exact hown'
set_option maxRecDepth 100000 in
/-- .. in a region that draws its order -/
theorem app_one_step {P : Program} {ops : Array Oper} {o : Oper} {a : Act} {K : Act → World → Prop} {Q : Exit → Act → World → Prop} {E : Prop} {α : Type} (f : α → Value) (hf : ∀ x, (f x).oneCell' = true)
    (t e : TypeId) (z : Value) (bytes : Nat) (ht : P.underlying t = some (.slice e)) (hinfo : (P.info? e).map (fun i => (i.zero, i.size, i.bytes)) = some (some z, 1, bytes)) (hzs : z.cells.size = 1)
    (s x : Operand) (hgd : o.guard = none) (ho : o.op = .call { callee := .builtin .append, args := #[s, x], argTypes := #[t, t] })
    (w0 W : World) (v : Value) (l : List α) (y : α) (hs : a.eval s = v) (hx : a.eval x = .slice (some ⟨W.heap.size, 0, none⟩) 1 1)
    (hown : W.ownsRow w0.heap.size e 1 v l.length (l.map f)) (hb : Below w0.heap.size w0 W) (h63 : l.length + 1 ≤ maxLen) (hbytes : (l.length + 1) * bytes ≤ 140737488355328)
    (h : ∀ v' w', w'.ownsRow w0.heap.size e 1 v' (l ++ [y]).length ((l ++ [y]).map f) → Below w0.heap.size w0 w' → K (a.put o.dst v') w') :
    if Region.wanted o (yielded ops a.tmps) = true then Oper.wp P o a (W.alloc (.cells #[f y] e)).drew K Q else E := by
  have hw : Region.wanted o (yielded ops a.tmps) = true := by simp [Region.wanted, hgd]
  rw [if_pos hw]
  obtain ⟨i0, hi, hz0, hz1, hz2⟩ := info_parts hinfo
  refine wp_append_own (W.alloc (.cells #[f y] e)).drew s x t ho w0.heap.size e i0 z 1 bytes ht hi hz0 hz1 hz2 hzs (by decide) v l.length (l.map f) hs (hown.alloc (.cells #[f y] e)) ⟨W.heap.size, 0, none⟩ 1 1 [f y] hx rfl (one_cellAt W _ _) (fun u hu => by simp at hu; subst hu; exact hf y) h63 hbytes (by simp; have := hb.size; omega) ?_
  intro v' w1 hown' hgrow _
  refine h v' w1 ?_ ((hb.alloc hb.size (.cells #[f y] e)).drew.grown hgrow (by simp; have := hb.size; omega) (fun k hk => ((hown.alloc (.cells #[f y] e)).lt k hk).1))
  rw [List.length_append, List.map_append]
  exact hown'
set_option maxRecDepth 100000 in
theorem int_one (K : IntKind) : ∀ x : Int, (Value.int K x).oneCell' = true := fun _ => rfl

/-- a row of the call's own, from block B on: it holds these numbers, and may be appended to -/
def ow (T : TypeId) (K : IntKind) (B : Nat) (w : World) (v : Value) (L : List Int) : Prop := w.ownsRow B T 1 v L.length (L.map (Value.int K))
set_option maxRecDepth 100000 in
theorem ow.nums {T : TypeId} {K : IntKind} {B : Nat} {w : World} {v : Value} {L : List Int} (h : ow T K B w v L) : nums K B w.heap.size w v L := nums_of_own h
set_option maxRecDepth 100000 in
theorem ow_none (T : TypeId) (K : IntKind) (B : Nat) (w : World) : ow T K B w (.slice none 0 0) [] := ⟨rfl, Or.inl ⟨rfl, rfl⟩⟩
set_option maxRecDepth 100000 in
theorem ow.mono {T : TypeId} {K : IntKind} {B B' : Nat} {w : World} {v : Value} {L : List Int} (h : ow T K B w v L) (hB : B' ≤ B) : ow T K B' w v L := by
  refine ⟨h.1, ?_⟩
  rcases h.2 with hn | ⟨g, cap, cur, rfl, hb, rest⟩
  · exact .inl hn
  · exact .inr ⟨g, cap, cur, rfl, Nat.le_trans hB hb, rest⟩
set_option maxRecDepth 100000 in
theorem ow.below {T : TypeId} {K : IntKind} {B C : Nat} {w w' : World} {v : Value} {L : List Int} (h : ow T K B w v L) (hb : Below C w w') (hC : w.heap.size ≤ C) : ow T K B w' v L := by
  refine ⟨h.1, ?_⟩
  rcases h.2 with hn | ⟨g, cap, cur, rfl, hB, hg, rest⟩
  · exact .inl hn
  · exact .inr ⟨g, cap, cur, rfl, hB, (hb.block g (Nat.lt_of_lt_of_le (Array.getElem?_eq_some_iff.1 hg).1 hC)).trans hg, rest⟩
/-- a new slice of these bytes, and a bool -/
def resB (L : List Int) (ok : Bool) (w : World) (e : Ending) (w' : World) : Prop := ∃ v, e = .returned (.tuple #[v, .bool ok]) ∧ ow 5 .u8 w.heap.size w' v L ∧ Below w.heap.size w w'
def byteOf (z : Int) : UInt8 := UInt8.ofNat z.toNat
set_option maxRecDepth 100000 in
/-- the string of a slice of bytes -/
theorem str_of_rd {hi : Nat} {w : World} {v : Value} {l : List Int} (h : rd .u8 hi w v l) : (convert 69 9 v).run Tryz.prog w = .ok (.string ⟨(l.map byteOf).toArray⟩) w := by
  obtain ⟨A, c, rfl, hc, hj⟩ := h
  cases l with
  | nil =>
    cases A with
    | none => exact run_convert_bytes_nil w 69 5 Tryz.underlying69 Tryz.underlying5 0 c 9 Tryz.underlying9
    | some a =>
      show (convert 69 9 (.slice (some a) 0 c)).run Tryz.prog w = _
      rw [run_convert_bytes_string w 69 9 5 _ 0 c Tryz.underlying69 Tryz.underlying5 Tryz.underlying9, run_bytesToString w _ 0 c [] rfl]
      rfl
  | cons x l =>
    obtain ⟨b, off, rfl, -, -⟩ := hj 0 (by simp)
    have hj' : ∀ i, i < (x :: l).length → w.cell? ⟨b, off + i, none⟩ = some (.int .u8 ((x :: l).getD i 0)) := fun i hi => by
      obtain ⟨b', off', e, _, hc⟩ := hj i hi
      simp only [Option.some.injEq, Addr.mk.injEq, and_true] at e
      obtain ⟨rfl, rfl⟩ := e
      exact hc
    exact run_convert_bytes_arg w 69 5 Tryz.underlying69 Tryz.underlying5 b off (x :: l).length c (x :: l) rfl hj' 9 Tryz.underlying9
set_option maxRecDepth 100000 in
theorem str_of_own {w : World} {B : Nat} {T : TypeId} {n : Nat} {v : Value} {l : List Int} (h : w.ownsRow B T 1 v n (l.map (Value.int .u8))) : (convert 69 9 v).run Tryz.prog w = .ok (.string ⟨(l.map byteOf).toArray⟩) w := str_of_rd (nums_of_own h).rd
def isBytes (l : List Int) : Prop := ∀ z ∈ l, 0 ≤ z ∧ z ≤ 255
set_option maxRecDepth 100000 in
theorem isBytes.getD {l : List Int} (h : isBytes l) (k : Nat) : 0 ≤ l.getD k 0 ∧ l.getD k 0 ≤ 255 := by
  rw [List.getD_eq_getElem?_getD]
  cases hg : l[k]? with
  | none => simp
  | some z => exact h z (List.mem_of_getElem? hg)
def isInts (l : List Int) : Prop := ∀ z ∈ l, -9223372036854775808 ≤ z ∧ z ≤ 9223372036854775807
set_option maxRecDepth 100000 in
theorem isInts.getD {l : List Int} (h : isInts l) (k : Nat) : -9223372036854775808 ≤ l.getD k 0 ∧ l.getD k 0 ≤ 9223372036854775807 := by
  rw [List.getD_eq_getElem?_getD]
  cases hg : l[k]? with
  | none => simp
  | some z => exact h z (List.mem_of_getElem? hg)
set_option maxRecDepth 100000 in
theorem rd.form {K : IntKind} {hi : Nat} {w : World} {v : Value} {l : List Int} (h : rd K hi w v l) : ∃ A c, v = .slice A l.length c ∧ l.length ≤ c := by
  obtain ⟨A, c, rfl, hc, _⟩ := h
  exact ⟨A, c, rfl, hc⟩
set_option maxRecDepth 100000 in
theorem nums.form {K : IntKind} {lo hi : Nat} {w : World} {v : Value} {l : List Int} (h : nums K lo hi w v l) : ∃ A c, v = .slice A l.length c ∧ l.length ≤ c := h.rd.form
end Go.Proofs.YtpeeagkfhdeagaaGreatDoor
