/- What draws have in common: once in n; a number out of a list; rows of texts and of numbers; no conditions. -/
import Derived.Test.YtkbakcnhhlmpkaaDoorDrawS
import Derived.Test.YtkbakcnhhlmpkaaDoorNums
import Derived.Test.YtkbakcnhhlmpkaaDoorRowS
import Derived.Test.YtkbakcnhhlmpkaaDoorMem
set_option linter.unusedVariables false
namespace Go.Proofs.YtkbakcnhhlmpkaaDoor
open Go.ChangeShapes Go.WideShapes Go.ChangeAt Go.RowKit

set_option maxRecDepth 100000 in
theorem onlyAt.trunc {b : Nat} {u v : World} (h : onlyAt b u v) : u.grownBy v (some b) := h.grown
set_option maxRecDepth 100000 in
set_option maxHeartbeats 800000 in
/-- once in n -/
theorem once_any (b : Nat) (sv : Value) (i : Nat) (h n : Int) (w : World) (hc : curAt w b sv i h) (hi : i ≤ lenOf sv) (hr : readable w b sv) (hn : 0 < n) (hm : n ≤ 9223372036854775807) :
    Calls Tryd.prog 26 #[.pointer (some ⟨b, 0, none⟩), .int .i64 n] w fun e w' => ∃ (x : Bool) (i' : Nat) (h' : Int), e = .returned (.bool x) ∧ i' ≤ lenOf sv ∧ curAt w' b sv i' h' ∧ onlyAt b w w' := by
  go_enter Tryd.func26, Tryd.ntmps26
  go_wp2_with fail
  refine (below_any b sv i h n w hc hi hr hn hm).mono ?_
  rintro e w1 ⟨x, i1, h1, rfl, hx0, hx1, hi1, hc1, ho1⟩
  go_wp2
  go_ret
  exact ⟨_, i1, h1, rfl, hi1, hc1, ho1⟩

set_option maxRecDepth 100000 in
theorem nums.keep {K : IntKind} {lo hi : Nat} {w w' : World} {v : Value} {l : List Int} (h : nums K lo hi w v l) (hk : ∀ b, lo ≤ b → b < hi → w'.heap[b]? = w.heap[b]?) : nums K lo hi w' v l := by
  obtain ⟨A, c, rfl, hc, hj⟩ := h
  refine ⟨A, c, rfl, hc, fun j hl => ?_⟩
  obtain ⟨b, off, e, h1, h2, h3, h4⟩ := hj j hl
  exact ⟨b, off, e, h1, h2, (cell_keep (hk b h1 h2)).trans h3, (frozen_keep (hk b h1 h2)).trans h4⟩
set_option maxRecDepth 100000 in
theorem grown_then {w u v : World} {b B : Nat} (h : w.grownBy u (some b)) (g : Below B u v) (hB : w.heap.size ≤ B) : w.grownBy v (some b) :=
  ⟨g.os.trans h.os, g.tape.trans h.tape, g.output.trans h.output, Nat.le_trans h.size g.size, fun k hk hne => (g.block k (by omega)).trans (h.block k hk hne)⟩
set_option maxRecDepth 100000 in
theorem rd.grownAt {K : IntKind} {hi g lo : Nat} {w w' : World} {v : Value} {l : List Int} (h : nums K lo hi w v l) (hg : w.grownBy w' (some g)) (hgl : g < lo ∨ hi ≤ g) (hh : hi ≤ w.heap.size) : nums K lo hi w' v l := h.grown hg hh (fun k hk => by cases hk; exact hgl)
set_option maxRecDepth 100000 in
theorem texts_at (w : World) (T : TypeId) (L : List (List UInt8)) (us : Array Value) (n : Nat) (hu : us = (L.map fun x => Value.string ⟨x.toArray⟩).toArray) (hn : n = w.heap.size) : textsAt (w.alloc (.cells us T)) n L := by
  subst hn
  subst hu
  intro j x hx
  rw [cell_of_row _ _ j _ _ (0, 0) (heap_alloc_new _ _)]
  simp [hx]
/-- block p holds these numbers -/
def intsAt (w : World) (p : Nat) (L : List Int) : Prop := ∀ (j : Nat) (x : Int), L[j]? = some x → w.cell? ⟨p, j, none⟩ = some (.int .i64 x)
set_option maxRecDepth 100000 in
theorem ints_at (w : World) (T : TypeId) (L : List Int) (us : Array Value) (n : Nat) (hu : us = (L.map fun x => Value.int .i64 x).toArray) (hn : n = w.heap.size) : intsAt (w.alloc (.cells us T)) n L := by
  subst hn
  subst hu
  intro j x hx
  rw [cell_of_row _ _ j _ _ (0, 0) (heap_alloc_new _ _)]
  simp [hx]
set_option maxRecDepth 100000 in
set_option maxHeartbeats 800000 in
/-- one of the numbers of a list -/
theorem pickInt_any (b : Nat) (sv : Value) (i : Nat) (h : Int) (p n : Nat) (L : List Int) (w : World) (hc : curAt w b sv i h) (hi : i ≤ lenOf sv) (hr : readable w b sv) (hp : p ≠ b) (hL : intsAt w p L) (hn : L.length = n) (h0 : 0 < n) (h1 : n ≤ 256) :
    Calls Tryd.prog 20 #[.pointer (some ⟨b, 0, none⟩), .slice (some ⟨p, 0, none⟩) n n] w fun e w' => ∃ (x : Int) (i' : Nat) (h' : Int), x ∈ L ∧ e = .returned (.int .i64 x) ∧ i' ≤ lenOf sv ∧ curAt w' b sv i' h' ∧ onlyAt b w w' := by
  have HL := Lib.hid hL
  have HN := Lib.hid hn
  clear hL hn
  go_enter Tryd.func20, Tryd.ntmps20
  go_wp2_with fail
  refine (below_any b sv i h n w hc hi hr (by omega) (by omega)).mono ?_
  rintro e w1 ⟨x, i1, h1, rfl, hx0, hx1, hi1, hc1, ho1⟩
  obtain ⟨k, rfl⟩ := Int.eq_ofNat_of_zero_le hx0
  have hk : k < L.length := by have := HN.out; omega
  have hk' : k < n := by omega
  have hcell : w1.cell? ⟨p, k, none⟩ = some (.int .i64 L[k]) := (ho1.cell (p := ⟨p, k, none⟩) hp).trans (HL.out k _ (List.getElem?_eq_getElem hk))
  have HM := Lib.hid (List.getElem_mem hk)
  generalize L[k] = t at hcell HM
  go_wp2
  go_ret
  exact ⟨t, i1, h1, HM.out, rfl, hi1, hc1, ho1⟩
end Go.Proofs.YtkbakcnhhlmpkaaDoor
