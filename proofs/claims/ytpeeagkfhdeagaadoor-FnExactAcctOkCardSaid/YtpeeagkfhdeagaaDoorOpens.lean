/- What a law is given can be read as Lean's data: numbers, texts, structs and slices of these. -/
import Derived.Test.YtpeeagkfhdeagaaDoorRep
import Derived.OpenShut
import Derived.ChangeArms
import Derived.Deep.Slices
set_option linter.unusedVariables false
namespace Go.Proofs.YtpeeagkfhdeagaaDoor
open Go.ChangeShapes Go.WideShapes Go.ChangeAt Go.RowKit Go.Deep

/-- what reads as data of type T reads as R's data, with G -/
def Opens {H : Type} (enc : TypeId × Value → H) (P : Program) (w : World) {α : Type} (R : Rep α) (T : TypeId) (G : α → Prop) : Prop :=
  ∀ (fuel : Nat) (cs : List Value) (x : DataW H × List MemPlace), DataW.trod enc P w 0 (fun _ => true) true fuel T cs = some x → ∃ y, R.rd w.heap.size w cs y ∧ G y
def OpensF {H : Type} (enc : TypeId × Value → H) (P : Program) (w : World) {α : Type} (fs : List Field) (off : Nat) (R : Rep α) (G : α → Prop) : Prop :=
  ∀ (n : Nat) (cs : List Value) (xs : List (DataW H × List MemPlace)), cs.length = off + R.k → xs.length = fs.length →
    (∀ (i : Nat) (f : Field), fs[i]? = some f → DataW.trod enc P w 0 (fun _ => true) true n f.type ((cs.drop f.offset).take (P.cellsOf f.type)) = xs[i]?) → ∃ y, R.rd w.heap.size w (cs.drop off) y ∧ G y
section
variable {H : Type} {enc : TypeId × Value → H} {P : Program} {w : World} {α β : Type} {R : Rep α} {S : Rep β} {G : α → Prop} {G' : β → Prop} {T e : TypeId}
set_option maxRecDepth 100000 in
theorem opens_int {K : IntKind} (ht : P.underlying T = some (.int K)) : Opens enc P w (Rep.int K) T (fun z => (Lit.int K z).wf = true) := by
  intro fuel cs x h
  obtain ⟨n, rfl, _, hw⟩ := DataW.trod_int ht h
  exact ⟨n, rfl, hw⟩
set_option maxRecDepth 100000 in
theorem opens_str (ht : P.underlying T = some .string) : Opens enc P w Rep.str T (fun s => s.size ≤ maxLen) := by
  intro fuel cs x h
  obtain ⟨n, rfl, _, hw⟩ := DataW.trod_string ht h
  exact ⟨n, rfl, hw⟩
set_option maxRecDepth 100000 in
theorem opens_slice (hk0 : 0 < R.k) (ht : P.underlying T = some (.slice e)) (hC : P.cellsOf e = R.k) (h0 : Opens enc P w R e G) : Opens enc P w R.slice T (fun l => l.length ≤ maxLen ∧ ∀ y ∈ l, G y) := by
  intro fuel cs x h
  rcases open_slice ht h with ⟨rfl, _⟩ | ⟨a, len, cap, m, n, D, Pl, rfl, _, hl, hm, hmm, _, hi⟩
  · exact ⟨[], ⟨none, 0, rfl, Nat.le_refl _, fun j x hx => by simp at hx⟩, Nat.zero_le _, fun y hy => by cases hy⟩
  · simp only [if_true] at hmm
    subst hmm
    have hy : ∀ i, i < len → ∃ y cs', w.cells? 0 (a.add (i * R.k)) R.k = some cs' ∧ R.rd w.heap.size w cs' y ∧ G y := fun i hil => by
      obtain ⟨cs', h1, h2⟩ := hi i (by omega)
      rw [hC] at h1
      obtain ⟨y, h3, h4⟩ := h0 n cs' _ h2
      exact ⟨y, cs', h1, h3, h4⟩
    have hL : ∀ k, k ≤ len → ∃ l : List α, l.length = k ∧ ∀ j x, l[j]? = some x → ∃ cs', w.cells? 0 (a.add (j * R.k)) R.k = some cs' ∧ R.rd w.heap.size w cs' x ∧ G x := by
      intro k
      induction k with
      | zero => intro _; exact ⟨[], rfl, fun j x hx => by simp at hx⟩
      | succ k ih =>
        intro hk
        obtain ⟨l, hl1, hl2⟩ := ih (by omega)
        obtain ⟨y, cs', h1, h2, h3⟩ := hy k (by omega)
        refine ⟨l ++ [y], by simp [hl1], fun j x hx => ?_⟩
        by_cases hj : j < l.length
        · rw [List.getElem?_append_left hj] at hx
          exact hl2 j x hx
        · have hj' : j = k := by have := (List.getElem?_eq_some_iff.1 hx).1; simp at this; omega
          subst hj'
          rw [List.getElem?_append_right (by omega), hl1, Nat.sub_self] at hx
          have hyx : y = x := by simpa using hx
          subst hyx
          exact ⟨cs', h1, h2, h3⟩
    obtain ⟨l, hl1, hl2⟩ := hL len (Nat.le_refl _)
    subst hl1
    refine ⟨l, ⟨some a, m, rfl, hl, fun j x hx => ?_⟩, by omega, fun y hy => ?_⟩
    · obtain ⟨cs', h1, h2, h3⟩ := hl2 j x hx
      obtain ⟨_, hlen, hat⟩ := World.cells?_some h1
      have hk := R.rd_len h2
      obtain ⟨b, off, spot⟩ := a
      have hcell : ∀ t u, cs'[t]? = some u → w.cell? ((⟨b, off, spot⟩ : Addr).add (j * R.k + t)) = some u := fun t u hu => by
        have ht : t < R.k := by rw [← hk]; exact (List.getElem?_eq_some_iff.1 hu).1
        rw [← Go.Deep.add_add, hat t ht, hu]
      have h00 := hcell 0 _ (List.getElem?_eq_getElem (by omega))
      have hspot : spot = none := by
        have hjl := (List.getElem?_eq_some_iff.1 hx).1
        obtain ⟨cs0, g1, g2, _⟩ := hl2 0 _ (List.getElem?_eq_getElem (by omega))
        obtain ⟨_, glen, gat⟩ := World.cells?_some g1
        have g0 := gat 0 (by omega)
        rw [List.getElem?_eq_getElem (by omega), Nat.zero_mul] at g0
        exact World.cell?_spot g0
      subst hspot
      have hb : b < w.heap.size := by
        rcases Nat.lt_or_ge b w.heap.size with h' | h'
        · exact h'
        · rw [Go.WideShapes.add_plain] at h00; simp [World.cell?, Array.getElem?_eq_none h'] at h00
      exact ⟨b, off, cs', rfl, hb, h2, fun t u hu => by rw [Nat.add_assoc, ← Go.WideShapes.add_plain]; exact hcell t u hu⟩
    · obtain ⟨j, hj⟩ := List.mem_iff_getElem?.1 hy
      obtain ⟨_, _, _, h3⟩ := hl2 j y hj
      exact h3
set_option maxRecDepth 100000 in
theorem opensF_one {f : Field} {off : Nat} (h : Opens enc P w R f.type G) (ho : f.offset = off) (hk : P.cellsOf f.type = R.k) : OpensF enc P w [f] off R G := by
  intro n cs xs hl hx hf
  match xs, hx with
  | [x], _ =>
    have := hf 0 f rfl
    rw [ho, hk, List.take_of_length_le (by rw [List.length_drop]; omega)] at this
    exact h n _ _ this
set_option maxRecDepth 100000 in
theorem opensF_cons {f : Field} {fs : List Field} {off : Nat} (h : Opens enc P w R f.type G) (ho : f.offset = off) (hk : P.cellsOf f.type = R.k) (hr : OpensF enc P w fs (off + R.k) S G') : OpensF enc P w (f :: fs) off (R.pair S) (fun y => G y.1 ∧ G' y.2) := by
  intro n cs xs hl hx hf
  match xs, hx with
  | x :: xs, hx =>
    have h0 := hf 0 f rfl
    rw [ho, hk] at h0
    obtain ⟨y, h1, h2⟩ := h n _ _ h0
    have hl' : cs.length = off + R.k + S.k := by rw [hl]; show off + (R.k + S.k) = _; omega
    obtain ⟨z, h3, h4⟩ := hr n cs xs hl' (by simpa using hx) (fun i g hg => by simpa using hf (i + 1) g (by simpa using hg))
    refine ⟨(y, z), ⟨(cs.drop off).take R.k, cs.drop (off + R.k), ?_, h1, h3⟩, h2, h4⟩
    rw [← List.drop_drop]
    exact (List.take_append_drop _ _).symm
set_option maxRecDepth 100000 in
theorem opens_struct {fs : Array Field} (ht : P.underlying T = some (.struct fs)) (hC : P.cellsOf T = R.k) (h : OpensF enc P w fs.toList 0 R G) : Opens enc P w R T G := by
  intro fuel cs x hx
  obtain ⟨xs, n, _, _, hl, hlen, hf⟩ := DataW.trod_struct ht hx
  have := h n cs xs (by rw [hl, hC]; omega) (by simpa using hlen) (fun i f hif => hf i f (by simpa using hif))
  simpa using this
end
end Go.Proofs.YtpeeagkfhdeagaaDoor
