/- The reference's draws of digits and of a number: what they return lies in its range; nothing that stood before turns. -/
import Derived.Test.YtkbakcnhhlmpkaaDoorCur
import Derived.Test.YtkbakcnhhlmpkaaDoorConv
set_option linter.unusedVariables false
namespace Go.Proofs.YtkbakcnhhlmpkaaDoor
open Go.ChangeShapes Go.WideShapes Go.ChangeAt Go.RowKit

set_option maxRecDepth 100000 in
theorem str_join (a b : List UInt8) : ((⟨a.toArray⟩ : ByteArray) ++ (⟨b.toArray⟩ : ByteArray)) = ⟨(a ++ b).toArray⟩ := by apply ByteArray.ext; simp
set_option maxRecDepth 100000 in
theorem str_snoc (c : UInt8) (b : List UInt8) : ((⟨b.toArray⟩ : ByteArray) ++ (⟨#[c]⟩ : ByteArray)) = ⟨(b ++ [c]).toArray⟩ := str_join b [c]
set_option maxRecDepth 100000 in
theorem readable.below {w w' : World} {b : Nat} {sv : Value} (hr : readable w b sv) (hb : Below w.heap.size w w') : readable w' b sv := by
  unfold readable at hr ⊢
  split at hr
  · exact hr
  · obtain ⟨h1, h3⟩ := hr
    refine ⟨h1, fun i hi => ?_⟩
    obtain ⟨s, off, rfl, h2, z, hz, h4⟩ := h3 i hi
    have hlt : ∀ (s o : Nat) (v : Value), w.cell? ⟨s, o, none⟩ = some v → s < w.heap.size := fun s o v h => by
      rcases Nat.lt_or_ge s w.heap.size with h' | h'
      · exact h'
      · simp [World.cell?, Array.getElem?_eq_none h'] at h
    exact ⟨s, off, rfl, h2, z, (hb.cell (p := ⟨_, _, none⟩) (hlt _ _ _ hz)).trans hz, h4⟩
  · exact hr
set_option maxRecDepth 100000 in
theorem cur_alloc {w : World} {b : Nat} {sv : Value} {i : Nat} {h : Int} (hc : curAt w b sv i h) (o : Obj) : curAt (w.alloc o) b sv i h := by
  have hlt := lt_of_block hc
  show (w.heap.push o)[b]? = _
  rw [Array.getElem?_push, if_neg (by omega)]
  exact hc
set_option maxRecDepth 100000 in
theorem dig_of {x : Int} (h0 : 0 ≤ x) (h1 : x ≤ 9) : isDig (UInt8.ofNat (48 + x).toNat) = true := by
  rw [isDig_iff, UInt8.toNat_ofNat']
  simp
  omega

/-- a text of digits, at least one -/
def digText (most : Nat) (w : World) (e : Ending) (w' : World) : Prop :=
  ∃ t : List UInt8, e = .returned (.string ⟨t.toArray⟩) ∧ 1 ≤ t.length ∧ t.length ≤ most ∧ t.all isDig = true ∧ Below w.heap.size w w'

end Go.Proofs.YtkbakcnhhlmpkaaDoor
