/- copy and clear over a row of structs of the call's own; no conditions. -/
import Derived.Test.YtkbakcnhhlmpkaaAppS
import Derived.Laws.CopyRow
set_option linter.unusedVariables false
namespace Go.Proofs.Ytkbakcnhhlmpkaa
open Go.ChangeShapes Go.WideShapes Go.ChangeAt Go.RowKit

set_option maxRecDepth 100000 in
theorem flat_len {α : Type} {k : Nat} {enc : α → List Value} (hk : ∀ x, (enc x).length = k) (l : List α) : (l.flatMap enc).length = l.length * k := by
  induction l with
  | nil => simp
  | cons x l ih => rw [List.flatMap_cons, List.length_append, hk, ih, List.length_cons, Nat.add_mul]; omega
set_option maxRecDepth 100000 in
theorem flat_take {α : Type} {k : Nat} {enc : α → List Value} (hk : ∀ x, (enc x).length = k) (l : List α) : ∀ n : Nat, (l.flatMap enc).take (n * k) = (l.take n).flatMap enc := by
  induction l with
  | nil => intro n; simp
  | cons x l ih =>
    intro n
    cases n with
    | zero => simp
    | succ n =>
      rw [List.flatMap_cons, List.take_succ_cons, List.flatMap_cons, ← ih n, List.take_append, hk, List.take_of_length_le (by rw [hk, Nat.add_mul]; omega), Nat.add_mul, Nat.one_mul, Nat.add_sub_cancel]
set_option maxRecDepth 100000 in
theorem flat_drop {α : Type} {k : Nat} {enc : α → List Value} (hk : ∀ x, (enc x).length = k) (l : List α) : ∀ n : Nat, (l.flatMap enc).drop (n * k) = (l.drop n).flatMap enc := by
  induction l with
  | nil => intro n; simp
  | cons x l ih =>
    intro n
    cases n with
    | zero => simp
    | succ n =>
      rw [List.flatMap_cons, List.drop_succ_cons, ← ih n, List.drop_append, hk, List.drop_of_length_le (by rw [hk, Nat.add_mul]; omega), Nat.add_mul, Nat.one_mul, Nat.add_sub_cancel, List.nil_append]
set_option maxRecDepth 100000 in
theorem take_over {β : Type} (L M : List β) (a n : Nat) (h : a + M.length ≤ n) (hn : n ≤ L.length) : (L.take a ++ M ++ L.drop (a + M.length)).take n = (L.take n).take a ++ M ++ (L.take n).drop (a + M.length) := by
  have hX : (L.take a ++ M).length = a + M.length := by rw [List.length_append, List.length_take]; omega
  rw [List.take_append, List.take_of_length_le (by rw [hX]; exact h), hX, List.take_take, Nat.min_eq_left (by omega), List.drop_take]
set_option maxRecDepth 100000 in
/-- cells laid over such a row -/
theorem owE.over {α : Type} {T : TypeId} {k B g c : Nat} {enc : α → List Value} {w : World} {l : List α} (h : owE T k enc B w (.slice (some ⟨g, 0, none⟩) l.length c) l) (hk : ∀ x, (enc x).length = k) (m : List α) (d : Nat) (hd : d + m.length ≤ l.length) :
    ∃ cur : Array Value, w.heap[g]? = some (.cells cur T (0, 0)) ∧ d * k + (m.flatMap enc).length ≤ cur.size ∧ cur.toList.take (l.length * k) = l.flatMap enc ∧
      owE T k enc B (w.setRow g (cur.toList.take (d * k) ++ m.flatMap enc ++ cur.toList.drop (d * k + (m.flatMap enc).length)).toArray) (.slice (some ⟨g, 0, none⟩) l.length c) (l.take d ++ m ++ l.drop (d + m.length)) := by
  obtain ⟨h1, h2⟩ := h
  rcases h2 with ⟨h', _⟩ | ⟨g', cap, cur, h', hB, hg, hn, hm, hs, ht⟩
  · simp at h'
  simp only [Value.slice.injEq, Option.some.injEq, Addr.mk.injEq, and_true, true_and] at h'
  obtain ⟨rfl, rfl⟩ := h'
  have hml := flat_len hk m
  have hmul : (d + m.length) * k ≤ l.length * k := Nat.mul_le_mul_right k hd
  have hcap : l.length * k ≤ c * k := Nat.mul_le_mul_right k hn
  rw [Nat.add_mul] at hmul
  refine ⟨cur, hg, by omega, ht, ?_, Or.inr ⟨g, c, _, ?_, hB, setRow_heap w g cur _ T _ hg, ?_, hm, ?_, ?_⟩⟩
  · rw [flat_len hk]
  · have e : l.length = (l.take d ++ m ++ l.drop (d + m.length)).length := by
      simp only [List.length_append, List.length_take, List.length_drop]
      omega
    rw [← e]
  · simp only [List.length_append, List.length_take, List.length_drop]
    omega
  · simp only [List.size_toArray, List.length_append, List.length_take, List.length_drop, Array.length_toList]
    omega
  · have e : (l.take d ++ m ++ l.drop (d + m.length)).length = l.length := by
      simp only [List.length_append, List.length_take, List.length_drop]
      omega
    rw [e, take_over _ _ _ _ (by omega) (by simp; omega), ht, flat_take hk, hml, ← Nat.add_mul, flat_drop hk, List.flatMap_append, List.flatMap_append]
set_option maxRecDepth 100000 in
theorem setRow_turned {w : World} {g : Nat} (cs : Array Value) : Turned g (g + 1) w (w.setRow g cs) := ⟨rfl, rfl, rfl, by simp [World.setRow], fun b hb h => setRow_other w g b cs (by omega)⟩
set_option maxRecDepth 100000 in
theorem zero_flat {α : Type} {k : Nat} {enc : α → List Value} (hk : ∀ x, (enc x).length = k) (zs : Array Value) (z : α) (hz : zs.toList = enc z) (m : Nat) : (Builtin.zeroCells zs m).toList = (List.replicate m z).flatMap enc := by
  have hs : zs.size = k := by rw [← Array.length_toList, hz, hk]
  apply List.ext_getElem?
  intro i
  have hl : ((List.replicate m z).flatMap enc).length = m * k := by rw [flat_len hk, List.length_replicate]
  by_cases hi : i < m * k
  · have hk0 : 0 < k := by rcases Nat.eq_zero_or_pos k with h | h; subst h; omega; exact h
    have e : i = i / k * k + i % k := by rw [Nat.mul_comm]; exact (Nat.div_add_mod i k).symm
    have hlt : i % k < k := Nat.mod_lt _ hk0
    have hd : i / k < m := by rw [Nat.div_lt_iff_lt_mul hk0]; exact hi
    have h1 : (enc z)[i % k]? = some zs[i % k]! := by
      rw [← hz, Array.getElem?_toList, getElem!_pos zs (i % k) (by omega)]
      exact Array.getElem?_eq_getElem _
    have h2 := flat_at hk (List.replicate m z) (i / k) z (by rw [List.getElem?_replicate, if_pos hd]) (i % k) _ h1
    rw [← e] at h2
    rw [h2]
    simp only [Builtin.zeroCells, Array.toList_map, Array.toList_range, List.getElem?_map, hs]
    rw [List.getElem?_range hi]
    rfl
  · rw [List.getElem?_eq_none (by simp [Builtin.zeroCells, hs]; omega), List.getElem?_eq_none (by rw [hl]; omega)]
section
variable {P : Program} {ops : Array Oper} {rest : List Oper} {o : Oper} {a : Act} {Q : Exit → Act → World → Prop}
set_option maxRecDepth 100000 in
/-- copy(s[m:], s) -/
theorem wpList_copy_over {α : Type} (enc : α → List Value) (k : Nat) (hk : ∀ x, (enc x).length = k) (hone : ∀ x, ∀ u ∈ enc x, u.oneCell' = true) (hgd : o.guard = none) (d s : Operand) (dT sT : TypeId)
    (ho : o.op = .call { callee := .builtin .copy, args := #[d, s], argTypes := #[dT, sT] }) (e : TypeId) (hu : P.underlying dT = some (.slice e)) (hsz : (P.info? e).map (·.size) = some k)
    (B : Nat) (W : World) (g m c c' : Nat) (dp : Option Addr) (l : List α) (hown : owE e k enc B W (.slice (some ⟨g, 0, none⟩) l.length c) l) (hm : m ≤ l.length)
    (hd : a.eval d = .slice dp (l.length - m) c') (hdp : m < l.length → dp = some ⟨g, m * k, none⟩) (hs : a.eval s = .slice (some ⟨g, 0, none⟩) l.length c)
    (h : ∀ w', owE e k enc B w' (.slice (some ⟨g, 0, none⟩) l.length c) (l.take m ++ l.take (l.length - m)) → Turned g (g + 1) W w' → wpList P ops Q rest (a.put o.dst (goInt ((l.length - m : Nat) : Int))) w') : wpList P ops Q (o :: rest) a W := by
  obtain ⟨i, hi, hsi⟩ := Option.map_eq_some_iff.1 hsz
  have hmin : Nat.min l.length (l.length - m) = l.length - m := Nat.min_eq_right (by omega)
  have hcells : (Builtin.firstCells k (l.length - m) (.slice (some ⟨g, 0, none⟩) l.length c)).run P W = .ok ((l.take (l.length - m)).flatMap enc).toArray W := by
    refine run_firstCells_some (P := P) W k (l.length - m) ⟨g, 0, none⟩ l.length c ((l.take (l.length - m)).flatMap enc) (by rw [flat_len hk, List.length_take]; congr 1; omega) ?_
    intro j v hj
    have hlt := (List.getElem?_eq_some_iff.1 hj).1
    rw [flat_len hk, List.length_take, Nat.min_eq_left (by omega)] at hlt
    have hle : (l.length - m) * k ≤ l.length * k := Nat.mul_le_mul_right k (by omega)
    have hh : W.ownsRow B e k (.slice (some ⟨g, 0, none⟩) l.length c) l.length (l.flatMap enc) := hown
    have e1 : (⟨g, 0, none⟩ : Addr).add j = ⟨g, j, none⟩ := by
      unfold Addr.add
      split
      · next h0 => rw [h0]
      · simp
    rw [e1, hh.cellAt j (by omega)]
    rw [← flat_take hk] at hj
    rw [List.getElem?_take, if_pos hlt] at hj
    exact hj
  by_cases hz : m = l.length
  · have h0 : l.length - m = 0 := by omega
    refine wpList_plain hgd fun K hK => ?_
    have e0 : l.take m ++ l.take (l.length - m) = l := by rw [h0, hz]; simp
    have hw := h W (by rw [e0]; exact hown) (Turned.refl _ _ _)
    rw [h0] at hcells hw hd hmin
    have hrun : (Builtin.copy_ #[dT, sT] o.type #[.slice dp 0 c', .slice (some ⟨g, 0, none⟩) l.length c]).run P W = .ok (goInt 0) W := by
      cases dp <;> simp [Builtin.copy_, run_underlying hu, Builtin.lenOf, sizeOf, typeInfo, hi, hsi, hcells, storeCells]
    unfold Oper.wp
    simp [execOp, ho, resolve, invoke, builtin, hd, hs, hrun]
    exact hK _ _ hw
  · obtain rfl := hdp (by omega)
    obtain ⟨cur, hg, hfit, -, hnew⟩ := hown.over hk (l.take (l.length - m)) m (by rw [List.length_take]; omega)
    have hdrop : l.drop (m + (l.take (l.length - m)).length) = [] := List.drop_of_length_le (by rw [List.length_take]; omega)
    rw [hdrop, List.append_nil] at hnew
    have hst := run_storeCells_at P g (m * k) e ((l.take (l.length - m)).flatMap enc) 0 cur W hg (by omega) (fun v hv => by obtain ⟨x, -, hx⟩ := List.mem_flatMap.1 hv; exact hone x v hx)
    rw [Nat.add_zero] at hst
    generalize (cur.toList.take (m * k) ++ (l.take (l.length - m)).flatMap enc ++ cur.toList.drop (m * k + ((l.take (l.length - m)).flatMap enc).length)).toArray = X at hst hnew
    generalize (l.take (l.length - m)).flatMap enc = us at hst hcells
    refine wpList_plain hgd fun K hK => ?_
    have hrun : (Builtin.copy_ #[dT, sT] o.type #[.slice (some ⟨g, m * k, none⟩) (l.length - m) c', .slice (some ⟨g, 0, none⟩) l.length c]).run P W = .ok (goInt ((l.length - m : Nat) : Int)) (W.setRow g X) := by
      simp [Builtin.copy_, run_underlying hu, Builtin.lenOf, sizeOf, typeInfo, hi, hsi, hmin, hcells, hst]
    unfold Oper.wp
    simp [execOp, ho, resolve, invoke, builtin, hd, hs, hrun]
    exact hK _ _ (h _ hnew (setRow_turned _))
set_option maxRecDepth 100000 in
/-- clear(s[:m]) -/
theorem wpList_clear_over {α : Type} (enc : α → List Value) (k : Nat) (hk : ∀ x, (enc x).length = k) (hone : ∀ x, ∀ u ∈ enc x, u.oneCell' = true) (hgd : o.guard = none) (x : Operand) (t : TypeId)
    (ho : o.op = .call { callee := .builtin .clear, args := #[x], argTypes := #[t] }) (e : TypeId) (hu : P.underlying t = some (.slice e)) (zs : Array Value) (hinfo : (P.info? e).map (fun i => (i.zero.map (·.cells), i.size)) = some (some zs, k)) (z : α) (hz : zs.toList = enc z)
    (B : Nat) (W : World) (g m c c' n : Nat) (l : List α) (hn : l.length = n) (hown : owE e k enc B W (.slice (some ⟨g, 0, none⟩) n c) l) (hm : m ≤ n) (hm0 : 0 < m)
    (hx : a.eval x = .slice (some ⟨g, 0, none⟩) m c')
    (h : ∀ w', owE e k enc B w' (.slice (some ⟨g, 0, none⟩) n c) (List.replicate m z ++ l.drop m) → Turned g (g + 1) W w' → wpList P ops Q rest (a.put o.dst (.tuple #[])) w') : wpList P ops Q (o :: rest) a W := by
  subst hn
  obtain ⟨i, hi, hxx⟩ := Option.map_eq_some_iff.1 hinfo
  simp only [Prod.mk.injEq] at hxx
  obtain ⟨hz1, hsize⟩ := hxx
  obtain ⟨zz, hzz, hzc⟩ := Option.map_eq_some_iff.1 hz1
  obtain ⟨cur, hg, hfit, -, hnew⟩ := hown.over hk (List.replicate m z) 0 (by rw [List.length_replicate]; omega)
  rw [Nat.zero_add, List.length_replicate, List.take_zero, List.nil_append] at hnew
  have hst := run_storeCells_at P g 0 e ((List.replicate m z).flatMap enc) 0 cur W hg (by omega) (fun v hv => by obtain ⟨x, -, hx⟩ := List.mem_flatMap.1 hv; exact hone x v hx)
  rw [Nat.zero_mul] at hnew
  rw [Nat.add_zero] at hst
  obtain ⟨p, rfl⟩ : ∃ p, m = p + 1 := ⟨m - 1, by omega⟩
  refine wpList_plain hgd fun K hK => ?_
  have hzf := zero_flat hk zs z hz (p + 1)
  generalize (cur.toList.take 0 ++ (List.replicate (p + 1) z).flatMap enc ++ cur.toList.drop (0 + ((List.replicate (p + 1) z).flatMap enc).length)).toArray = X at hst hnew
  generalize (List.replicate (p + 1) z).flatMap enc = us at hst hzf
  have hrun : (Builtin.clear_ #[t] o.type #[.slice (some ⟨g, 0, none⟩) (p + 1) c']).run P W = .ok (.tuple #[]) (W.setRow g X) := by
    simp [Builtin.clear_, run_underlying hu, zeroValue, typeInfo, hi, hzz, hzc, hzf, hst]
  unfold Oper.wp
  simp [execOp, ho, resolve, invoke, builtin, hx, hrun]
  exact hK _ _ (h _ hnew (setRow_turned _))
end
end Go.Proofs.Ytkbakcnhhlmpkaa
