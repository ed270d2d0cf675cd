/- A message in memory whose list of fields grows by append; no conditions. -/
import Derived.Test.YtdjlhijaadombaaGreatDoorField
import Derived.Test.YtdjlhijaadombaaGreatDoorAppS
set_option linter.unusedVariables false
namespace Go.Proofs.YtdjlhijaadombaaGreatDoor
open Go.ChangeShapes Go.WideShapes Go.ChangeAt Go.RowKit

/-- block b holds a message with the type t and the list v, a row of one's own beyond b that reads L -/
structure growMsg (b : Nat) (t : ByteArray) (w0 w : World) (v : Value) (L : List FieldD) : Prop where
  blk : w.heap[b]? = some (.cells #[.string t, v] 28 (0, 0))
  own : owE 45 2 fCells (b + 1) w v L
  below : Below b w0 w
section
variable {b : Nat} {t : ByteArray} {w0 w w' : World} {v v' : Value} {L : List FieldD} {y : FieldD} {o : Obj}
set_option maxRecDepth 100000 in
theorem growMsg.lt (h : growMsg b t w0 w v L) : b < w.heap.size := lt_of_block h.blk
set_option maxRecDepth 100000 in
theorem growMsg.cell0 (h : growMsg b t w0 w v L) : w.cell? ⟨b, 0, none⟩ = some (.string t) := cell_of_row _ _ 0 _ _ (0, 0) h.blk
set_option maxRecDepth 100000 in
theorem growMsg.cell1 (h : growMsg b t w0 w v L) : w.cell? ⟨b, 1, none⟩ = some v := cell_of_row _ _ 1 _ _ (0, 0) h.blk
set_option maxRecDepth 100000 in
theorem growMsg.free (h : growMsg b t w0 w v L) (i : Nat) : w.frozen? ⟨b, i, none⟩ = false := by unfold World.frozen?; rw [h.blk]; simp
set_option maxRecDepth 100000 in
theorem growMsg.ne (h : growMsg b t w0 w v L) : v.ownBlock ≠ some b := fun e => by have := (h.own.lt b e).1; omega
set_option maxRecDepth 100000 in
theorem growMsg.alloc (h : growMsg b t w0 w v L) (o : Obj) : growMsg b t w0 (w.alloc o) v L :=
  ⟨(Below.heap_alloc w o b h.lt).trans h.blk, h.own.alloc o, h.below.alloc (Nat.le_of_lt h.lt) o⟩
set_option maxRecDepth 100000 in
theorem growMsg.keepBelow {C : Nat} (h : growMsg b t w0 w v L) (hb : Below C w w') (hC : w.heap.size ≤ C := by exact Nat.le_refl _) : growMsg b t w0 w' v L :=
  ⟨(hb.block b (Nat.lt_of_lt_of_le h.lt hC)).trans h.blk, h.own.below hb hC, h.below.trans (hb.mono (Nat.le_trans (Nat.le_of_lt h.lt) hC))⟩
set_option maxRecDepth 100000 in
theorem growMsg.rebase (h : growMsg b t w0 w v L) : growMsg b t w w v L := ⟨h.blk, h.own, Below.refl _ _⟩
set_option maxRecDepth 100000 in
/-- another block, below, has turned -/
theorem growMsg.moved {g : Nat} (h : growMsg b t w0 w v L) (hg : w.grownBy w' (some g)) (hgb : g < b) : growMsg b t w' w' v L :=
  ⟨(hg.block b h.lt (fun e => by simp at e; omega)).trans h.blk, h.own.grown hg (fun q hq e => by have := (h.own.lt q hq).1; simp at e; omega), Below.refl _ _⟩
set_option maxRecDepth 100000 in
theorem growMsg.start (t : ByteArray) (w : World) : growMsg w.heap.size t w (w.alloc (.cells #[.string t, .slice none 0 0] 28)) (.slice none 0 0) [] :=
  ⟨heap_alloc_new _ _, owE_none _ _ _ _ _, (Below.refl _ _).alloc (Nat.le_refl _) _⟩
set_option maxRecDepth 100000 in
/-- the world behind an append and the store of the new list -/
theorem growMsg.app (h : growMsg b t w0 w v L) (hg : (w.alloc o).grownBy w' v.ownBlock) (ho : owE 45 2 fCells (b + 1) w' v' (L ++ [y])) : growMsg b t w0 (w'.setCell ⟨b, 1, none⟩ v') v' (L ++ [y]) := by
  have hb : w'.heap[b]? = w.heap[b]? := (hg.block b (by have := h.lt; simp; omega) (fun e => h.ne e.symm)).trans (Below.heap_alloc w o b h.lt)
  refine ⟨?_, ho.set (fun e => by have := (ho.lt b e).1; omega) 1 v', ?_⟩
  · have h1 := hb.trans h.blk
    simp [World.setCell, Array.getElem?_modify, h1]
  · exact (((h.below.alloc (Nat.le_of_lt h.lt) o).grown hg (by have := h.below.size; have := h.lt; simp; omega) (fun k hk => by have := (h.own.lt k hk).1; omega))).setCell (p := ⟨b, 1, none⟩) (Nat.le_refl _) _
set_option maxRecDepth 100000 in
/-- the cell and its mark, for the store -/
theorem growMsg.app_cell (h : growMsg b t w0 w v L) (hg : (w.alloc o).grownBy w' v.ownBlock) : w'.cell? ⟨b, 1, none⟩ = some v ∧ w'.frozen? ⟨b, 1, none⟩ = false := by
  have hb : w'.heap[b]? = w.heap[b]? := (hg.block b (by have := h.lt; simp; omega) (fun e => h.ne e.symm)).trans (Below.heap_alloc w o b h.lt)
  exact ⟨(cell_keep hb).trans h.cell1, (frozen_keep hb).trans (h.free 1)⟩
set_option maxRecDepth 100000 in
/-- other blocks -/
theorem growMsg.app_far (h : growMsg b t w0 w v L) (hg : (w.alloc o).grownBy w' v.ownBlock) (g : Nat) (h1 : g < w.heap.size) (h2 : g ≠ b) (h3 : v.ownBlock ≠ some g) : (w'.setCell ⟨b, 1, none⟩ v').heap[g]? = w.heap[g]? :=
  (Below.heap_setCell _ _ _ _ (show g ≠ b from h2)).trans ((hg.block g (by simp; omega) (fun e => h3 e.symm)).trans (Below.heap_alloc w o g h1))
set_option maxRecDepth 100000 in
theorem growMsg.app_size (hg : (w.alloc o).grownBy w' v.ownBlock) : w.heap.size + 1 ≤ (w'.setCell ⟨b, 1, none⟩ v').heap.size := by have := hg.size; simp [World.setCell] at this ⊢; omega
set_option maxRecDepth 100000 in
theorem growMsg.mine (h : growMsg b t w0 w v L) : FieldsR.mine (b + 1) w.heap.size w [v] L := by
  rcases h.own.filled (fun _ => rfl) noF with ⟨rfl, A, c, rfl⟩ | ⟨g, c, rfl, hc, h1, h2, hf⟩
  · exact ⟨[], ⟨A, c, rfl, Nat.zero_le _, .inl ⟨rfl, rfl⟩⟩, List.nodup_nil, by simp⟩
  · exact fields_mine rfl hc h1 h2 hf
set_option maxRecDepth 100000 in
/-- the message is stored into the result's cell: r -/
theorem growMsg.ret {w2 : World} {r : Nat} (h : growMsg b t w0 w v L) (hr : r < b) (hw : w2.heap.size ≤ r) (hb : Below w2.heap.size w2 w) (x y : Value) :
    FieldsR.mine w2.heap.size ((w.setCell ⟨r, 0, none⟩ x).setCell ⟨r, 1, none⟩ y).heap.size ((w.setCell ⟨r, 0, none⟩ x).setCell ⟨r, 1, none⟩ y) [v] L ∧ Below w2.heap.size w2 ((w.setCell ⟨r, 0, none⟩ x).setCell ⟨r, 1, none⟩ y) := by
  refine ⟨?_, (hb.setCell (p := ⟨r, 0, none⟩) hw _).setCell (p := ⟨r, 1, none⟩) hw _⟩
  have ht := ((Turned.refl r (r + 1) w).set (b := r) 0 x (by omega) (by omega)).set (b := r) 1 y (by omega) (by omega)
  exact (h.mine.turned ht (.inr (by omega)) (Nat.le_refl _)).mono (by omega) ht.size
end
set_option maxRecDepth 100000 in
theorem fCells_one (x : FieldD) : ∀ u ∈ fCells x, u.oneCell' = true := by
  intro u hu
  simp only [fCells, List.mem_cons, List.not_mem_nil, or_false] at hu
  rcases hu with rfl | rfl <;> rfl
/-- a message, and whether there is one -/
def msgRes (ok : Bool) (r : MsgD) (w : World) (e : Ending) (w' : World) : Prop := ∃ u, e = .returned (.tuple #[.agg #[.string r.1, u], .bool ok]) ∧ FieldsR.mine w.heap.size w'.heap.size w' [u] r.2 ∧ Below w.heap.size w w'
set_option maxRecDepth 100000 in
theorem mine_none (lo hi : Nat) (w : World) : FieldsR.mine lo hi w [.slice none 0 0] [] := ⟨[], ⟨none, 0, rfl, Nat.le_refl _, .inl ⟨rfl, rfl⟩⟩, List.nodup_nil, by simp⟩
end Go.Proofs.YtdjlhijaadombaaGreatDoor
