/- A row of elements each of which owns memory of its own, made one after the other; no conditions. -/
import Derived.Test.YtpeeagkfhdeagaaDoorRep
import Derived.Test.YtpeeagkfhdeagaaDoorRowS
set_option linter.unusedVariables false
namespace Go.Proofs.YtpeeagkfhdeagaaDoor
open Go.ChangeShapes Go.WideShapes Go.ChangeAt Go.RowKit

/-- the blocks of the elements lie one after the other -/
structure Steps (m : Nat → Nat) (n : Nat) : Prop where
  up : ∀ j, j < n → m j ≤ m (j + 1)
set_option maxRecDepth 100000 in
theorem Steps.le {m : Nat → Nat} {n : Nat} (h : Steps m n) {j : Nat} : ∀ {k : Nat}, j ≤ k → k ≤ n → m j ≤ m k
  | 0, hj, _ => by obtain rfl : j = 0 := by omega
                   exact Nat.le_refl _
  | k + 1, hj, hk => by
    rcases Nat.lt_or_ge j (k + 1) with h1 | h1
    · exact Nat.le_trans (h.le (j := j) (k := k) (by omega) (by omega)) (h.up k (by omega))
    · obtain rfl : j = k + 1 := by omega
      exact Nat.le_refl _
set_option maxRecDepth 100000 in
theorem filled.congr {w : World} {b off k n i : Nat} {E E' : Nat → List Value} (h : filled w b off k n i E) (he : ∀ j, j < i → E' j = E j) : filled w b off k n i E' :=
  ⟨h.room, fun j hj => by rw [he j hj]; exact h.at_ j hj⟩
set_option maxRecDepth 100000 in
theorem rows_mine2 {α : Type} {R : Rep α} {lo hi b off c n : Nat} {w : World} {l : List α} {E : Nat → List Value} {p q : Nat → Nat} (hn : n = l.length) (hc : n ≤ c) (h1 : lo ≤ b) (h2 : b < hi) (hord : ∀ i j, i < j → j < n → q i ≤ p j) (hb : ∀ j, j < n → b < p j ∨ q j ≤ b) (hbs : ∀ j, j < n → lo ≤ p j ∧ q j ≤ hi)
    (hat : filled w b off R.k n n E) (h : ∀ j x, l[j]? = some x → R.mine (p j) (q j) w (E j) x) : R.slice.mine lo hi w [.slice (some ⟨b, off, none⟩) n c] l := by
  subst hn
  have hF : ∀ j : Nat, ∃ F : List Nat, ∀ x, l[j]? = some x → R.own w (E j) x F ∧ F.Nodup ∧ ∀ b ∈ F, p j ≤ b ∧ b < q j := fun j => by
    cases hx : l[j]? with
    | none => exact ⟨[], fun x h => by cases h⟩
    | some y =>
      obtain ⟨F, hF⟩ := h j y hx
      exact ⟨F, fun x h => by cases h; exact hF⟩
  let F : Nat → List Nat := fun j => Classical.choose (hF j)
  have hFs : ∀ j x, l[j]? = some x → R.own w (E j) x (F j) ∧ (F j).Nodup ∧ ∀ b ∈ F j, p j ≤ b ∧ b < q j := fun j => Classical.choose_spec (hF j)
  have hgt : ∀ (j : Nat) (hj : j < l.length), R.own w (E j) (l[j]'hj) (F j) ∧ (F j).Nodup ∧ ∀ b ∈ F j, p j ≤ b ∧ b < q j := fun j hj => hFs j _ (List.getElem?_eq_getElem hj)
  have hin : ∀ x ∈ List.flatten ((List.range l.length).map F), ∃ j, j < l.length ∧ p j ≤ x ∧ x < q j := fun x hx => by
    obtain ⟨G, hG, hxG⟩ := List.mem_flatten.1 hx
    obtain ⟨j, hj, rfl⟩ := List.mem_map.1 hG
    have hj' := List.mem_range.1 hj
    exact ⟨j, hj', (hgt j hj').2.2 x hxG⟩
  refine ⟨b :: List.flatten ((List.range l.length).map F), ⟨some ⟨b, off, none⟩, c, rfl, hc, .inr ⟨b, off, _, rfl, rfl, by simp, fun j x G hx hG => ?_⟩⟩, ?_, ?_⟩
  · have hj := (List.getElem?_eq_some_iff.1 hx).1
    have hG' : G = F j := by
      rw [List.getElem?_map, List.getElem?_range hj] at hG
      exact (Option.some.inj hG).symm
    subst hG'
    exact ⟨E j, (hFs j x hx).1, hat.at_ j hj, fun t ht => (hat.cells hj t ht).2⟩
  · rw [List.nodup_cons]
    refine ⟨fun hx => by obtain ⟨j, hj, h3⟩ := hin b hx; have := hb j hj; omega, ?_⟩
    rw [List.Nodup, List.pairwise_flatten]
    refine ⟨fun G hG => ?_, ?_⟩
    · obtain ⟨j, hj, rfl⟩ := List.mem_map.1 hG
      exact (hgt j (List.mem_range.1 hj)).2.1
    · rw [List.pairwise_map]
      refine List.Pairwise.imp_of_mem ?_ List.pairwise_lt_range
      intro i j hi' hj' hij x hx y hy
      have h3 := (hgt i (List.mem_range.1 hi')).2.2 x hx
      have h4 := (hgt j (List.mem_range.1 hj')).2.2 y hy
      have h5 := hord i j hij (List.mem_range.1 hj')
      omega
  · intro b' hb'
    rcases List.mem_cons.1 hb' with rfl | hb'
    · exact ⟨h1, h2⟩
    · obtain ⟨j, hj, h3⟩ := hin b' hb'
      have := hbs j hj; omega
set_option maxRecDepth 100000 in
theorem rows_mine {α : Type} {R : Rep α} {lo hi b off c n : Nat} {w : World} {l : List α} {E : Nat → List Value} {m : Nat → Nat} (hn : n = l.length) (hc : n ≤ c) (h1 : lo ≤ b) (h2 : b < m 0) (hm : Steps m n) (hhi : m n ≤ hi)
    (hat : filled w b off R.k n n E) (h : ∀ j x, l[j]? = some x → R.mine (m j) (m (j + 1)) w (E j) x) : R.slice.mine lo hi w [.slice (some ⟨b, off, none⟩) n c] l := by
  refine rows_mine2 (p := m) (q := fun j => m (j + 1)) hn hc h1 ?_ (fun i j hij hj => hm.le (show i + 1 ≤ j by omega) (by omega)) (fun j hj => .inl ?_) (fun j hj => ⟨?_, ?_⟩) hat h
  · have := hm.le (Nat.zero_le n) (Nat.le_refl _); omega
  · have := hm.le (Nat.zero_le j) (by omega); omega
  · have := hm.le (Nat.zero_le j) (by omega); omega
  · have := hm.le (show j + 1 ≤ n by omega) (Nat.le_refl _); omega
end Go.Proofs.YtpeeagkfhdeagaaDoor
