/- The reference's copy of a slice of slots; no conditions. -/
import Derived.Test.YtpeeagkfhdeagaaDoorSlotF
import Derived.Test.YtpeeagkfhdeagaaDoorRingF
set_option linter.unusedVariables false
namespace Go.Proofs.YtpeeagkfhdeagaaDoor
open Go.ChangeShapes Go.WideShapes Go.ChangeAt Go.RowKit

/-- a slot with the slice that its reply lies in -/
abbrev SlotV := SlotD × (Option Addr × Nat)
def sv (x : SlotV) : Value := .slice x.2.1 x.1.2.2.length x.2.2
def sCells (x : SlotV) : List Value := [.string x.1.1, .string x.1.2.1, .slice x.2.1 x.1.2.2.length x.2.2]
/-- the replies' memory: one after the other, none of it the row's -/
structure replies (w : World) (row : Option Nat) (B : Nat) (ps : List SlotV) (p q : Nat → Nat) : Prop where
  own : ∀ j x, ps[j]? = some x → nums .u8 (p j) (q j) w (sv x) x.1.2.2
  ord : ∀ i j, i < j → j < ps.length → q i ≤ p j
  in_ : ∀ j, j < ps.length → B ≤ p j ∧ q j ≤ w.heap.size
  row : ∀ j, j < ps.length → ∀ g, row = some g → g < p j ∨ q j ≤ g
set_option maxRecDepth 100000 in
theorem replies.nil (w : World) (row : Option Nat) (B : Nat) : replies w row B [] (fun _ => 0) (fun _ => 0) := ⟨fun j x h => by simp at h, fun i j _ h => by simp at h, fun j h => by simp at h, fun j h => by simp at h⟩
set_option maxRecDepth 100000 in
theorem replies.below {w w' : World} {row : Option Nat} {B : Nat} {ps : List SlotV} {p q : Nat → Nat} (h : replies w row B ps p q) (hb : Below w.heap.size w w') : replies w' row B ps p q :=
  ⟨fun j x hx => (h.own j x hx).below hb (h.in_ j (List.getElem?_eq_some_iff.1 hx).1).2, h.ord, fun j hj => ⟨(h.in_ j hj).1, Nat.le_trans (h.in_ j hj).2 hb.size⟩, h.row⟩
set_option maxRecDepth 100000 in
theorem replies.grown {w w' : World} {row row' : Option Nat} {B : Nat} {ps : List SlotV} {p q : Nat → Nat} (h : replies w row B ps p q) (hg : w.grownBy w' row) (hr : row' = row ∨ ∃ g, row' = some g ∧ w.heap.size ≤ g) : replies w' row' B ps p q := by
  refine ⟨fun j x hx => ?_, h.ord, fun j hj => ⟨(h.in_ j hj).1, Nat.le_trans (h.in_ j hj).2 hg.size⟩, fun j hj g hg' => ?_⟩
  · have hj := (List.getElem?_eq_some_iff.1 hx).1
    refine (h.own j x hx).apart hg (h.in_ j hj).2 fun b hb e => ?_
    have h1 := (h.own j x hx).blk b hb
    have h2 := h.row j hj b e
    omega
  · rcases hr with hr | ⟨g', hr, hg2⟩
    · exact h.row j hj g (by rw [← hr]; exact hg')
    · rw [hr] at hg'
      cases hg'
      have := (h.in_ j hj).2
      exact .inr (by omega)
set_option maxRecDepth 100000 in
theorem replies.snoc {w : World} {row : Option Nat} {B P Q : Nat} {ps : List SlotV} {p q : Nat → Nat} {x : SlotV} (h : replies w row B ps p q) (hx : nums .u8 P Q w (sv x) x.1.2.2) (h1 : ∀ j, j < ps.length → q j ≤ P) (h2 : B ≤ P) (h3 : Q ≤ w.heap.size) (h4 : ∀ g, row = some g → g < P ∨ Q ≤ g) :
    replies w row B (ps ++ [x]) (fun j => if j = ps.length then P else p j) (fun j => if j = ps.length then Q else q j) := by
  have hlen : (ps ++ [x]).length = ps.length + 1 := by simp
  refine ⟨fun j y hy => ?_, fun i j hij hj => ?_, fun j hj => ?_, fun j hj g hg => ?_⟩
  · by_cases e : j = ps.length
    · subst e
      simp only [if_true]
      have : y = x := by simpa using hy.symm
      subst this
      exact hx
    · have hj : j < ps.length := by have := (List.getElem?_eq_some_iff.1 hy).1; rw [hlen] at this; omega
      rw [List.getElem?_append_left hj] at hy
      show nums .u8 (if j = ps.length then P else p j) (if j = ps.length then Q else q j) w (sv y) y.1.2.2
      rw [if_neg e, if_neg e]
      exact h.own j y hy
  · rw [hlen] at hj
    show (if i = ps.length then Q else q i) ≤ (if j = ps.length then P else p j)
    rw [if_neg (by omega)]
    by_cases e : j = ps.length
    · rw [if_pos e]; exact h1 i (by omega)
    · rw [if_neg e]; exact h.ord i j hij (by omega)
  · rw [hlen] at hj
    show B ≤ (if j = ps.length then P else p j) ∧ (if j = ps.length then Q else q j) ≤ w.heap.size
    by_cases e : j = ps.length
    · rw [if_pos e, if_pos e]; exact ⟨h2, h3⟩
    · rw [if_neg e, if_neg e]; exact h.in_ j (by omega)
  · rw [hlen] at hj
    show g < (if j = ps.length then P else p j) ∨ (if j = ps.length then Q else q j) ≤ g
    by_cases e : j = ps.length
    · rw [if_pos e, if_pos e]; exact h4 g hg
    · rw [if_neg e, if_neg e]; exact h.row j (by omega) g hg
set_option maxRecDepth 100000 in
/-- such a row is slots of one's own -/
theorem replies.slots {w : World} {T : TypeId} {B : Nat} {v : Value} {ps : List SlotV} {p q : Nat → Nat} (ho : owE T 3 sCells B w v ps) (h : replies w v.ownBlock B ps p q) : SlotsR.mine B w.heap.size w [v] (ps.map (·.1)) := by
  have hl : (ps.map (·.1)).length = ps.length := List.length_map ..
  rcases ho.filled (fun _ => rfl) ((⟨#[]⟩, ⟨#[]⟩, []), (none, 0)) with ⟨rfl, A, c, rfl⟩ | ⟨b, c, rfl, hc, h1, h2, hf⟩
  · exact ⟨[], ⟨A, c, rfl, Nat.zero_le _, .inl ⟨rfl, rfl⟩⟩, List.nodup_nil, by simp⟩
  · cases hps : ps with
    | nil => exact ⟨[], ⟨_, c, rfl, Nat.zero_le _, .inl ⟨rfl, rfl⟩⟩, List.nodup_nil, by simp⟩
    | cons y ys =>
      rw [← hps]
      have hne : 0 < ps.length := by rw [hps]; simp
      have hob : (Value.slice (some ⟨b, 0, none⟩) ps.length c).ownBlock = some b := rfl
      refine rows_mine2 (R := SlotR) (p := p) (q := q) hl.symm hc h1 h2 h.ord (fun j hj => h.row j hj b hob) (fun j hj => h.in_ j hj) hf fun j x hx => ?_
      rw [List.getElem?_map] at hx
      obtain ⟨z, hz, rfl⟩ := Option.map_eq_some_iff.1 hx
      have hg : ps.getD j ((⟨#[]⟩, ⟨#[]⟩, []), (none, 0)) = z := by rw [List.getD_eq_getElem?_getD, hz]; rfl
      rw [hg]
      exact slot_mine_of (h.own j z hz)
set_option maxRecDepth 100000 in
theorem sCells_one (x : SlotV) : ∀ u ∈ sCells x, u.oneCell' = true := by
  intro u hu
  simp only [sCells, List.mem_cons, List.not_mem_nil, or_false] at hu
  rcases hu with rfl | rfl | rfl <;> rfl
/-- slots of one's own, in a row that may be appended to -/
def slotsOwn (l : List SlotD) (w : World) (e : Ending) (w' : World) : Prop := ∃ (A : Option Addr) (c : Nat) (ps : List SlotV) (p q : Nat → Nat), e = .returned (.slice A ps.length c) ∧ ps.map (·.1) = l ∧ owE 78 3 sCells w.heap.size w' (.slice A ps.length c) ps ∧ replies w' (Value.slice A ps.length c).ownBlock w.heap.size ps p q ∧ Below w.heap.size w w'
def slotsOne (l : List SlotD) (w : World) (e : Ending) (w' : World) : Prop := ∃ u, e = .returned u ∧ SlotsR.mine w.heap.size w'.heap.size w' [u] l ∧ Below w.heap.size w w'
end Go.Proofs.YtpeeagkfhdeagaaDoor
