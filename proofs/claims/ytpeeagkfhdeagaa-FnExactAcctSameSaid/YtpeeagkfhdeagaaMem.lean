/- Words for a block of the call's own that is known whole; no conditions. -/
import Derived.Test.YtpeeagkfhdeagaaBase
import Derived.OwnWalk
import Derived.Laws.AppendOwn
import Derived.Laws.Rows
set_option linter.unusedVariables false
namespace Go.Proofs.Ytpeeagkfhdeagaa
open Go.ChangeShapes Go.WideShapes Go.ChangeAt Go.RowKit

/-- block g holds these cells, all of them free to be written -/
def bk (w : World) (g : Nat) (t : TypeId) (cs : List Value) : Prop := w.heap[g]? = some (.cells cs.toArray t (0, 0))
set_option maxRecDepth 100000 in
theorem bk.lt {w : World} {g : Nat} {t : TypeId} {cs : List Value} (h : bk w g t cs) : g < w.heap.size := (Array.getElem?_eq_some_iff.1 h).1
set_option maxRecDepth 100000 in
theorem bk.cell {w : World} {g : Nat} {t : TypeId} {cs : List Value} (h : bk w g t cs) (i : Nat) : w.cell? ⟨g, i, none⟩ = cs[i]? := by
  rw [cell_of_row w g i cs.toArray t (0, 0) h]; simp
set_option maxRecDepth 100000 in
theorem bk.frozen {w : World} {g : Nat} {t : TypeId} {cs : List Value} (h : bk w g t cs) (i : Nat) : w.frozen? ⟨g, i, none⟩ = false := by
  unfold bk at h; simp [World.frozen?, h]
set_option maxRecDepth 100000 in
theorem bk.below {w w' : World} {g B : Nat} {t : TypeId} {cs : List Value} (h : bk w g t cs) (hb : Below B w w') (hg : g < B) : bk w' g t cs := (hb.block g hg).trans h
set_option maxRecDepth 100000 in
theorem bk.alloc {w : World} {g : Nat} {t : TypeId} {cs : List Value} (h : bk w g t cs) (o : Obj) : bk (w.alloc o) g t cs := (Below.heap_alloc w o g h.lt).trans h
set_option maxRecDepth 100000 in
theorem bk.new (w : World) (t : TypeId) (cs : List Value) : bk (w.alloc (.cells cs.toArray t)) w.heap.size t cs := heap_alloc_new w _
set_option maxRecDepth 100000 in
theorem bk.far {w : World} {g : Nat} {t : TypeId} {cs : List Value} (h : bk w g t cs) {p : Addr} (hp : g ≠ p.block) (u : Value) : bk (w.setCell p u) g t cs := (Below.heap_setCell w p u g hp).trans h
set_option maxRecDepth 100000 in
theorem bk.set {w : World} {g : Nat} {t : TypeId} {cs : List Value} (h : bk w g t cs) (i : Nat) (u : Value) : bk (w.setCell ⟨g, i, none⟩ u) g t (cs.set i u) := by
  unfold bk at h ⊢
  simp [World.setCell, Array.getElem?_modify, h]
set_option maxRecDepth 100000 in
theorem bk.drew {w : World} {g : Nat} {t : TypeId} {cs : List Value} (h : bk w g t cs) : bk w.drew g t cs := h
set_option maxRecDepth 100000 in
theorem bk.drewN {w : World} {g : Nat} {t : TypeId} {cs : List Value} (h : bk w g t cs) (n : Nat) : bk (w.drewN n) g t cs := h
set_option maxRecDepth 100000 in
theorem bk.grown {w w' : World} {g : Nat} {t : TypeId} {cs : List Value} {row : Option Nat} (h : bk w g t cs) (hg : w.grownBy w' row) (hr : row ≠ some g) : bk w' g t cs := (hg.block g h.lt (fun e => hr e.symm)).trans h
set_option maxRecDepth 100000 in
theorem below_set {B : Nat} {a w : World} {g i : Nat} {u : Value} (h : Below B a w) (hg : B ≤ g) : Below B a (w.setCell ⟨g, i, none⟩ u) := h.setCell (p := ⟨g, i, none⟩) hg u
set_option maxRecDepth 100000 in
theorem below_new {B : Nat} {a w : World} {o : Obj} (h : Below B a w) (hg : B ≤ w.heap.size) : Below B a (w.alloc o) := h.alloc hg o
set_option maxRecDepth 100000 in
theorem below_drew' {B : Nat} {a w : World} (h : Below B a w) (n : Nat) : Below B a (w.drewN n) := ⟨h.os, h.tape, h.output, h.size, h.block⟩
end Go.Proofs.Ytpeeagkfhdeagaa
