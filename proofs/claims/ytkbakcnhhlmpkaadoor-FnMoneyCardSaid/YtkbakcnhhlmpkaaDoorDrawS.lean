/- The reference's draws of a text out of a list; what a step with the cursor leaves as it was; no conditions. -/
import Derived.Test.YtkbakcnhhlmpkaaDoorMakeD
import Derived.Test.YtkbakcnhhlmpkaaDoorNums
set_option linter.unusedVariables false
namespace Go.Proofs.YtkbakcnhhlmpkaaDoor
open Go.ChangeShapes Go.WideShapes Go.ChangeAt Go.RowKit

/-- block p holds these texts -/
def textsAt (w : World) (p : Nat) (L : List (List UInt8)) : Prop := ∀ (j : Nat) (x : List UInt8), L[j]? = some x → w.cell? ⟨p, j, none⟩ = some (.string ⟨x.toArray⟩)
set_option maxRecDepth 100000 in
theorem onlyAt.grown {b : Nat} {u v : World} (h : onlyAt b u v) : u.grownBy v (some b) := ⟨h.os, h.tape, h.output, by rw [h.size]; exact Nat.le_refl _, fun k _ hne => h.block k (fun e => hne (by rw [e]))⟩
set_option maxRecDepth 100000 in
theorem grown_trans {u v w : World} {b : Nat} (h : u.grownBy v (some b)) (g : v.grownBy w (some b)) : u.grownBy w (some b) :=
  ⟨g.os.trans h.os, g.tape.trans h.tape, g.output.trans h.output, Nat.le_trans h.size g.size, fun k hk hne => (g.block k (Nat.lt_of_lt_of_le hk h.size) hne).trans (h.block k hk hne)⟩
set_option maxRecDepth 100000 in
theorem grown_below {u v : World} {b : Nat} (h : Below u.heap.size u v) : u.grownBy v (some b) := ⟨h.os, h.tape, h.output, h.size, fun k hk _ => h.block k hk⟩
set_option maxRecDepth 100000 in
theorem grown_alloc {u v : World} {b : Nat} (h : u.grownBy v (some b)) (o : Obj) : u.grownBy (v.alloc o) (some b) := grown_trans h (grown_below ((Below.refl _ _).alloc (Nat.le_refl _) _))
set_option maxRecDepth 100000 in
theorem readable.grownAt {w w' : World} {b : Nat} {sv : Value} (hr : readable w b sv) (hg : w.grownBy w' (some b)) (hb : b ≤ w.heap.size) : readable w' b sv := by
  unfold readable at hr ⊢
  split at hr
  · exact hr
  · obtain ⟨h1, h3⟩ := hr
    refine ⟨h1, fun i hi => ?_⟩
    obtain ⟨s, off, rfl, h2, z, hz, h4⟩ := h3 i hi
    exact ⟨s, off, rfl, h2, z, (World.cell?_of_block (a := ⟨s, _, none⟩) (hg.block s (by omega) (fun e => by simp at e; omega))).trans hz, h4⟩
  · exact hr
set_option maxRecDepth 100000 in
theorem lt_of_cur {w : World} {b : Nat} {sv : Value} {i : Nat} {h : Int} (hc : curAt w b sv i h) : b < w.heap.size := lt_of_block hc

set_option maxRecDepth 100000 in
set_option maxHeartbeats 800000 in
/-- one of the texts of a list -/
theorem pickStr_any (b : Nat) (sv : Value) (i : Nat) (h : Int) (p n : Nat) (L : List (List UInt8)) (w : World) (hc : curAt w b sv i h) (hi : i ≤ lenOf sv) (hr : readable w b sv) (hp : p ≠ b) (hL : textsAt w p L) (hn : L.length = n) (h0 : 0 < n) (h1 : n ≤ 256) :
    Calls Tryd.prog 28 #[.pointer (some ⟨b, 0, none⟩), .slice (some ⟨p, 0, none⟩) n n] w fun e w' => ∃ (x : List UInt8) (i' : Nat) (h' : Int), x ∈ L ∧ e = .returned (.string ⟨x.toArray⟩) ∧ i' ≤ lenOf sv ∧ curAt w' b sv i' h' ∧ onlyAt b w w' := by
  have HL := Lib.hid hL
  have HN := Lib.hid hn
  clear hL hn
  go_enter Tryd.func28, Tryd.ntmps28
  go_wp2_with fail
  refine (below_any b sv i h n w hc hi hr (by omega) (by omega)).mono ?_
  rintro e w1 ⟨x, i1, h1, rfl, hx0, hx1, hi1, hc1, ho1⟩
  obtain ⟨k, rfl⟩ := Int.eq_ofNat_of_zero_le hx0
  have hk : k < L.length := by have := HN.out; omega
  have hk' : k < n := by omega
  have hcell : w1.cell? ⟨p, k, none⟩ = some (.string ⟨(L[k]).toArray⟩) := (ho1.cell (p := ⟨p, k, none⟩) hp).trans (HL.out k _ (List.getElem?_eq_getElem hk))
  have HM := Lib.hid (List.getElem_mem hk)
  generalize L[k] = t at hcell HM
  go_wp2
  go_ret
  exact ⟨t, i1, h1, HM.out, rfl, hi1, hc1, ho1⟩
end Go.Proofs.YtkbakcnhhlmpkaaDoor
