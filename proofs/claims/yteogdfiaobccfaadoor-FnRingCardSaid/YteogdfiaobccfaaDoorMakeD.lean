/- The reference's draws of digits and of a number: what they return lies in its range; nothing that stood before turns. -/
import Derived.Test.YteogdfiaobccfaaDoorCur
import Derived.Test.YteogdfiaobccfaaDoorConv
set_option linter.unusedVariables false
namespace Go.Proofs.YteogdfiaobccfaaDoor
open Go.ChangeShapes Go.WideShapes Go.ChangeAt Go.RowKit

set_option maxRecDepth 100000 in
theorem str_join (a b : List UInt8) : ((⟨a.toArray⟩ : ByteArray) ++ (⟨b.toArray⟩ : ByteArray)) = ⟨(a ++ b).toArray⟩ := by apply ByteArray.ext; simp
set_option maxRecDepth 100000 in
theorem str_snoc (c : UInt8) (b : List UInt8) : ((⟨b.toArray⟩ : ByteArray) ++ (⟨#[c]⟩ : ByteArray)) = ⟨(b ++ [c]).toArray⟩ := str_join b [c]
set_option maxRecDepth 100000 in
theorem readable.below {w w' : World} {b : Nat} {sv : Value} (hr : readable w b sv) (hb : Below w.heap.size w w') : readable w' b sv := by
  unfold readable at hr ⊢
  split at hr
  · exact hr
  · obtain ⟨h1, h3⟩ := hr
    refine ⟨h1, fun i hi => ?_⟩
    obtain ⟨s, off, rfl, h2, z, hz, h4⟩ := h3 i hi
    have hlt : ∀ (s o : Nat) (v : Value), w.cell? ⟨s, o, none⟩ = some v → s < w.heap.size := fun s o v h => by
      rcases Nat.lt_or_ge s w.heap.size with h' | h'
      · exact h'
      · simp [World.cell?, Array.getElem?_eq_none h'] at h
    exact ⟨s, off, rfl, h2, z, (hb.cell (p := ⟨_, _, none⟩) (hlt _ _ _ hz)).trans hz, h4⟩
  · exact hr
set_option maxRecDepth 100000 in
theorem cur_alloc {w : World} {b : Nat} {sv : Value} {i : Nat} {h : Int} (hc : curAt w b sv i h) (o : Obj) : curAt (w.alloc o) b sv i h := by
  have hlt := lt_of_block hc
  show (w.heap.push o)[b]? = _
  rw [Array.getElem?_push, if_neg (by omega)]
  exact hc
set_option maxRecDepth 100000 in
theorem dig_of {x : Int} (h0 : 0 ≤ x) (h1 : x ≤ 9) : isDig (UInt8.ofNat (48 + x).toNat) = true := by
  rw [isDig_iff, UInt8.toNat_ofNat']
  simp
  omega

/-- a text of digits, at least one -/
def digText (most : Nat) (w : World) (e : Ending) (w' : World) : Prop :=
  ∃ t : List UInt8, e = .returned (.string ⟨t.toArray⟩) ∧ 1 ≤ t.length ∧ t.length ≤ most ∧ t.all isDig = true ∧ Below w.heap.size w w'

set_option maxRecDepth 100000 in
set_option maxHeartbeats 800000 in
/-- a number below n -/
theorem makeNum_any (sv : Value) (n : Int) (w : World) (hr : readable w w.heap.size sv) (hlen : lenOf sv ≤ 1048576) (hn : 0 < n) (hm : n ≤ 9223372036854775807) :
    Calls Tryd.prog 10 #[sv, .int .i64 n] w fun e w' => ∃ x : Int, e = .returned (.int .i64 x) ∧ 0 ≤ x ∧ x ≤ n - 1 ∧ Below w.heap.size w w' := by
  go_enter Tryd.func10, Tryd.ntmps10
  go_wp2_with fail
  refine (new_any sv w hr hlen).mono ?_
  rintro e w1 ⟨h, rfl, rfl⟩
  have hc := made_cur sv w h
  have hb1 : Below w.heap.size w (w.alloc (.cells #[sv, .int .i64 0, .int .i64 h] 57)) := (Below.refl _ _).alloc (Nat.le_refl _) _
  generalize w.alloc (.cells #[sv, .int .i64 0, .int .i64 h] 57) = w1 at hc hb1 ⊢
  have c2 : w1.cell? ⟨w.heap.size, 2, none⟩ = some (.int .i64 h) := cur_cell hc 2 _ rfl
  have f2 : w1.frozen? ⟨w.heap.size, 2, none⟩ = false := cur_free hc 2
  go_wp2_with fail
  have hb2 := hb1.trans ((((onlyAt.refl w.heap.size w1).set 2 (.int .i64 (wrap64 (h + 777))))).below (Nat.le_refl _))
  refine (below_any w.heap.size sv 0 _ n _ (cur_h hc _) (Nat.zero_le _) (hr.below hb2) hn hm).mono ?_
  rintro e w3 ⟨x, i3, h3, rfl, hx0, hx1, hi3, hc3, ho3⟩
  go_wp2
  go_ret
  exact ⟨x, rfl, hx0, hx1, hb2.trans (ho3.below (Nat.le_refl _))⟩
end Go.Proofs.YteogdfiaobccfaaDoor
