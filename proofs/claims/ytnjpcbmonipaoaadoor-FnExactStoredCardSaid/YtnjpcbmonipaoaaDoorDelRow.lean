/- An element of a row laid anew; the end of a row cleared; no conditions. -/
import Derived.Test.YtnjpcbmonipaoaaDoorOver
import Derived.Test.YtnjpcbmonipaoaaDoorRowS
import Derived.Laws.IdiomCopy
set_option linter.unusedVariables false
namespace Go.Proofs.YtnjpcbmonipaoaaDoor
open Go.ChangeShapes Go.WideShapes Go.ChangeAt Go.RowKit

set_option maxRecDepth 100000 in
theorem setsAt_cells (us : List Value) : ∀ (w : World) (b o : Nat), w.setCells b o us = setsAt w b o us := by
  induction us with
  | nil => intro w b o; rfl
  | cons u us ih => intro w b o; exact ih _ b (o + 1)
set_option maxRecDepth 100000 in
/-- element i of a row laid anew -/
theorem filled.put {w : World} {b off k n i m : Nat} {E E' : Nat → List Value} (h : filled w b off k n m E) (hi : i < n) (hE : ∀ j, j < m → (E j).length = k) (hE' : (E' i).length = k) (hs : ∀ j, j < m → j ≠ i → E' j = E j) : filled (setsAt w b (off + i * k) (E' i)) b off k n m E' := by
  have hik := mul_step (k := k) hi
  refine ⟨setsAt_room _ _ _ _ _ _ h.room, fun j hj => ?_⟩
  by_cases e : j = i
  · subst e
    exact setsAt_at _ _ _ _ (h.room.sub (by omega) (by omega))
  · rw [hs j hj e]
    have hl := hE j hj
    rcases Nat.lt_or_gt_of_ne e with h1 | h1
    · have hjk := mul_step (k := k) h1
      exact setsAt_far _ _ _ _ _ _ (h.at_ j hj) (.inl (by omega))
    · have hjk := mul_step (k := k) h1
      exact setsAt_far _ _ _ _ _ _ (h.at_ j hj) (.inr (by omega))
set_option maxRecDepth 100000 in
/-- its first elements, where only what is behind them was laid anew -/
theorem filled.ahead {w : World} {b k n i : Nat} {E : Nat → List Value} (h : filled w b 0 k n n E) (hi : i ≤ n) (hE : ∀ j, j < n → (E j).length = k) (us : List Value) : filled (setsAt w b (i * k) us) b 0 k i i E := by
  have hle : i * k ≤ n * k := Nat.mul_le_mul_right k hi
  refine ⟨(setsAt_room _ _ _ _ _ _ h.room).sub (Nat.le_refl _) (by omega), fun j hj => ?_⟩
  have hjk := mul_step (k := k) hj
  exact setsAt_far _ _ _ _ _ _ (h.at_ j (by omega)) (.inl (by rw [hE j (by omega)]; omega))
section
variable {P : Program} {ops : Array Oper} {rest : List Oper} {o : Oper} {a : Act} {Q : Exit → Act → World → Prop}
set_option maxRecDepth 100000 in
/-- clear(s[i:]) -/
theorem wpList_clear_tail {α : Type} (enc : α → List Value) (k : Nat) (hk : ∀ x, (enc x).length = k) (hone : ∀ x, ∀ u ∈ enc x, u.oneCell' = true) (hgd : o.guard = none) (x : Operand) (t : TypeId)
    (ho : o.op = .call { callee := .builtin .clear, args := #[x], argTypes := #[t] }) (e : TypeId) (hu : P.underlying t = some (.slice e)) (zs : Array Value) (hinfo : (P.info? e).map (fun i => (i.zero.map (·.cells), i.size)) = some (some zs, k)) (z : α) (hz : zs.toList = enc z)
    (W : World) (g off m c' : Nat) (hroom : roomL W g off (m * k)) (hm0 : 0 < m) (hx : a.eval x = .slice (some ⟨g, off, none⟩) m c')
    (h : wpList P ops Q rest (a.put o.dst (.tuple #[])) (setsAt W g off ((List.replicate m z).flatMap enc))) : wpList P ops Q (o :: rest) a W := by
  obtain ⟨i, hi, hxx⟩ := Option.map_eq_some_iff.1 hinfo
  simp only [Prod.mk.injEq] at hxx
  obtain ⟨hz1, hsize⟩ := hxx
  obtain ⟨zz, hzz, hzc⟩ := Option.map_eq_some_iff.1 hz1
  have hzf := zero_flat hk zs z hz m
  have hl : ((List.replicate m z).flatMap enc).length = m * k := by rw [flat_len hk, List.length_replicate]
  have hst := run_storeCells_cells (P := P) g off ((List.replicate m z).flatMap enc) 0 W (fun j hj => by rw [hl] at hj; obtain ⟨⟨u, hu⟩, -⟩ := hroom j hj; rw [Nat.add_zero, hu]; rfl) (fun j hj => by rw [hl] at hj; rw [Nat.add_zero]; exact (hroom j hj).2) (fun v hv => by obtain ⟨x, -, hx⟩ := List.mem_flatMap.1 hv; exact hone x v hx)
  rw [Nat.add_zero, setsAt_cells] at hst
  obtain ⟨p, rfl⟩ : ∃ p, m = p + 1 := ⟨m - 1, by omega⟩
  generalize (List.replicate (p + 1) z).flatMap enc = us at hst hzf h
  refine wpList_plain hgd fun K hK => ?_
  have hrun : (Builtin.clear_ #[t] o.type #[.slice (some ⟨g, off, none⟩) (p + 1) c']).run P W = .ok (.tuple #[]) (setsAt W g off us) := by
    simp [Builtin.clear_, run_underlying hu, zeroValue, typeInfo, hi, hzz, hzc, hzf, hst]
  unfold Oper.wp
  simp [execOp, ho, resolve, invoke, builtin, hx, hrun]
  exact hK _ _ h
end
end Go.Proofs.YtnjpcbmonipaoaaDoor
