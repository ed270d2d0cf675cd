/- copy and clear over a row of structs of the call's own; no conditions. -/
import Derived.Test.YtpeeagkfhdeagaaGreatDoorAppS
import Derived.Laws.CopyRow
import Derived.Test.YtpeeagkfhdeagaaGreatDoorHoldA
import Derived.Test.YtpeeagkfhdeagaaGreatDoorAppAll
import Derived.Test.YtpeeagkfhdeagaaGreatDoorRowS
import Derived.Laws.IdiomCopy
import Derived.Test.YtpeeagkfhdeagaaGreatDoorMrg1
import Derived.Lib.SliceRun
import Derived.Shelf.Abstract
import Derived.Test.YtpeeagkfhdeagaaGreatDoorSlotF
import Derived.Laws.StructEq
import Derived.DeepKeys4
import Derived.Maps.Own
import Derived.Maps.Views
import Derived.Test.YtpeeagkfhdeagaaGreatDoorSlotK
import Derived.Maps.OwnOps
import Derived.Carry
import Derived.Test.YtpeeagkfhdeagaaGreatDoorRingT
import Derived.Deep.Cut
import Derived.Test.YtpeeagkfhdeagaaGreatDoorAcctE
import Derived.Test.YtpeeagkfhdeagaaGreatDoorSlotC
set_option linter.unusedVariables false
namespace Go.Proofs.YtpeeagkfhdeagaaGreatDoor
open Go.ChangeShapes Go.WideShapes Go.ChangeAt Go.RowKit

set_option maxRecDepth 100000 in
theorem flat_len {α : Type} {k : Nat} {enc : α → List Value} (hk : ∀ x, (enc x).length = k) (l : List α) : (l.flatMap enc).length = l.length * k := by
  induction l with
  | nil => simp
  | cons x l ih => rw [List.flatMap_cons, List.length_append, hk, ih, List.length_cons, Nat.add_mul]; omega
set_option maxRecDepth 100000 in
theorem flat_take {α : Type} {k : Nat} {enc : α → List Value} (hk : ∀ x, (enc x).length = k) (l : List α) : ∀ n : Nat, (l.flatMap enc).take (n * k) = (l.take n).flatMap enc := by
  induction l with
  | nil => intro n; simp
  | cons x l ih =>
    intro n
    cases n with
    | zero => simp
    | succ n =>
      rw [List.flatMap_cons, List.take_succ_cons, List.flatMap_cons, ← ih n, List.take_append, hk, List.take_of_length_le (by rw [hk, Nat.add_mul]; omega), Nat.add_mul, Nat.one_mul, Nat.add_sub_cancel]
set_option maxRecDepth 100000 in
theorem flat_drop {α : Type} {k : Nat} {enc : α → List Value} (hk : ∀ x, (enc x).length = k) (l : List α) : ∀ n : Nat, (l.flatMap enc).drop (n * k) = (l.drop n).flatMap enc := by
  induction l with
  | nil => intro n; simp
  | cons x l ih =>
    intro n
    cases n with
    | zero => simp
    | succ n =>
      rw [List.flatMap_cons, List.drop_succ_cons, ← ih n, List.drop_append, hk, List.drop_of_length_le (by rw [hk, Nat.add_mul]; omega), Nat.add_mul, Nat.one_mul, Nat.add_sub_cancel, List.nil_append]
set_option maxRecDepth 100000 in
theorem take_over {β : Type} (L M : List β) (a n : Nat) (h : a + M.length ≤ n) (hn : n ≤ L.length) : (L.take a ++ M ++ L.drop (a + M.length)).take n = (L.take n).take a ++ M ++ (L.take n).drop (a + M.length) := by
  have hX : (L.take a ++ M).length = a + M.length := by rw [List.length_append, List.length_take]; omega
  rw [List.take_append, List.take_of_length_le (by rw [hX]; exact h), hX, List.take_take, Nat.min_eq_left (by omega), List.drop_take]
set_option maxRecDepth 100000 in
/-- cells laid over such a row -/
theorem owE.over {α : Type} {T : TypeId} {k B g c : Nat} {enc : α → List Value} {w : World} {l : List α} (h : owE T k enc B w (.slice (some ⟨g, 0, none⟩) l.length c) l) (hk : ∀ x, (enc x).length = k) (m : List α) (d : Nat) (hd : d + m.length ≤ l.length) :
    ∃ cur : Array Value, w.heap[g]? = some (.cells cur T (0, 0)) ∧ d * k + (m.flatMap enc).length ≤ cur.size ∧ cur.toList.take (l.length * k) = l.flatMap enc ∧
      owE T k enc B (w.setRow g (cur.toList.take (d * k) ++ m.flatMap enc ++ cur.toList.drop (d * k + (m.flatMap enc).length)).toArray) (.slice (some ⟨g, 0, none⟩) l.length c) (l.take d ++ m ++ l.drop (d + m.length)) := by
  obtain ⟨h1, h2⟩ := h
  rcases h2 with ⟨h', _⟩ | ⟨g', cap, cur, h', hB, hg, hn, hm, hs, ht⟩
  · simp at h'
  simp only [Value.slice.injEq, Option.some.injEq, Addr.mk.injEq, and_true, true_and] at h'
  obtain ⟨rfl, rfl⟩ := h'
  have hml := flat_len hk m
  have hmul : (d + m.length) * k ≤ l.length * k := Nat.mul_le_mul_right k hd
  have hcap : l.length * k ≤ c * k := Nat.mul_le_mul_right k hn
  rw [Nat.add_mul] at hmul
  refine ⟨cur, hg, by omega, ht, ?_, Or.inr ⟨g, c, _, ?_, hB, setRow_heap w g cur _ T _ hg, ?_, hm, ?_, ?_⟩⟩
  · rw [flat_len hk]
  · have e : l.length = (l.take d ++ m ++ l.drop (d + m.length)).length := by
      simp only [List.length_append, List.length_take, List.length_drop]
      omega
    rw [← e]
  · simp only [List.length_append, List.length_take, List.length_drop]
    omega
  · simp only [List.size_toArray, List.length_append, List.length_take, List.length_drop, Array.length_toList]
    omega
  · have e : (l.take d ++ m ++ l.drop (d + m.length)).length = l.length := by
      simp only [List.length_append, List.length_take, List.length_drop]
      omega
    rw [e, take_over _ _ _ _ (by omega) (by simp; omega), ht, flat_take hk, hml, ← Nat.add_mul, flat_drop hk, List.flatMap_append, List.flatMap_append]
set_option maxRecDepth 100000 in
theorem setRow_turned {w : World} {g : Nat} (cs : Array Value) : Turned g (g + 1) w (w.setRow g cs) := ⟨rfl, rfl, rfl, by simp [World.setRow], fun b hb h => setRow_other w g b cs (by omega)⟩
set_option maxRecDepth 100000 in
theorem zero_flat {α : Type} {k : Nat} {enc : α → List Value} (hk : ∀ x, (enc x).length = k) (zs : Array Value) (z : α) (hz : zs.toList = enc z) (m : Nat) : (Builtin.zeroCells zs m).toList = (List.replicate m z).flatMap enc := by
  have hs : zs.size = k := by rw [← Array.length_toList, hz, hk]
  apply List.ext_getElem?
  intro i
  have hl : ((List.replicate m z).flatMap enc).length = m * k := by rw [flat_len hk, List.length_replicate]
  by_cases hi : i < m * k
  · have hk0 : 0 < k := by rcases Nat.eq_zero_or_pos k with h | h; subst h; omega; exact h
    have e : i = i / k * k + i % k := by rw [Nat.mul_comm]; exact (Nat.div_add_mod i k).symm
    have hlt : i % k < k := Nat.mod_lt _ hk0
    have hd : i / k < m := by rw [Nat.div_lt_iff_lt_mul hk0]; exact hi
    have h1 : (enc z)[i % k]? = some zs[i % k]! := by
      rw [← hz, Array.getElem?_toList, getElem!_pos zs (i % k) (by omega)]
      exact Array.getElem?_eq_getElem _
    have h2 := flat_at hk (List.replicate m z) (i / k) z (by rw [List.getElem?_replicate, if_pos hd]) (i % k) _ h1
    rw [← e] at h2
    rw [h2]
    simp only [Builtin.zeroCells, Array.toList_map, Array.toList_range, List.getElem?_map, hs]
    rw [List.getElem?_range hi]
    rfl
  · rw [List.getElem?_eq_none (by simp [Builtin.zeroCells, hs]; omega), List.getElem?_eq_none (by rw [hl]; omega)]
section
variable {P : Program} {ops : Array Oper} {rest : List Oper} {o : Oper} {a : Act} {Q : Exit → Act → World → Prop}
set_option maxRecDepth 100000 in
/-- copy(s[m:], s) -/
theorem wpList_copy_over {α : Type} (enc : α → List Value) (k : Nat) (hk : ∀ x, (enc x).length = k) (hone : ∀ x, ∀ u ∈ enc x, u.oneCell' = true) (hgd : o.guard = none) (d s : Operand) (dT sT : TypeId)
    (ho : o.op = .call { callee := .builtin .copy, args := #[d, s], argTypes := #[dT, sT] }) (e : TypeId) (hu : P.underlying dT = some (.slice e)) (hsz : (P.info? e).map (·.size) = some k)
    (B : Nat) (W : World) (g m c c' : Nat) (dp : Option Addr) (l : List α) (hown : owE e k enc B W (.slice (some ⟨g, 0, none⟩) l.length c) l) (hm : m ≤ l.length)
    (hd : a.eval d = .slice dp (l.length - m) c') (hdp : m < l.length → dp = some ⟨g, m * k, none⟩) (hs : a.eval s = .slice (some ⟨g, 0, none⟩) l.length c)
    (h : ∀ w', owE e k enc B w' (.slice (some ⟨g, 0, none⟩) l.length c) (l.take m ++ l.take (l.length - m)) → Turned g (g + 1) W w' → wpList P ops Q rest (a.put o.dst (goInt ((l.length - m : Nat) : Int))) w') : wpList P ops Q (o :: rest) a W := by
  obtain ⟨i, hi, hsi⟩ := Option.map_eq_some_iff.1 hsz
  have hmin : Nat.min l.length (l.length - m) = l.length - m := Nat.min_eq_right (by omega)
  have hcells : (Builtin.firstCells k (l.length - m) (.slice (some ⟨g, 0, none⟩) l.length c)).run P W = .ok ((l.take (l.length - m)).flatMap enc).toArray W := by
    refine run_firstCells_some (P := P) W k (l.length - m) ⟨g, 0, none⟩ l.length c ((l.take (l.length - m)).flatMap enc) (by rw [flat_len hk, List.length_take]; congr 1; omega) ?_
    intro j v hj
    have hlt := (List.getElem?_eq_some_iff.1 hj).1
    rw [flat_len hk, List.length_take, Nat.min_eq_left (by omega)] at hlt
    have hle : (l.length - m) * k ≤ l.length * k := Nat.mul_le_mul_right k (by omega)
    have hh : W.ownsRow B e k (.slice (some ⟨g, 0, none⟩) l.length c) l.length (l.flatMap enc) := hown
    have e1 : (⟨g, 0, none⟩ : Addr).add j = ⟨g, j, none⟩ := by
      unfold Addr.add
      split
      · next h0 => rw [h0]
      · simp
    rw [e1, hh.cellAt j (by omega)]
    rw [← flat_take hk] at hj
    rw [List.getElem?_take, if_pos hlt] at hj
    exact hj
  by_cases hz : m = l.length
  · have h0 : l.length - m = 0 := by omega
    refine wpList_plain hgd fun K hK => ?_
    have e0 : l.take m ++ l.take (l.length - m) = l := by rw [h0, hz]; simp
    have hw := h W (by rw [e0]; exact hown) (Turned.refl _ _ _)
    rw [h0] at hcells hw hd hmin
    have hrun : (Builtin.copy_ #[dT, sT] o.type #[.slice dp 0 c', .slice (some ⟨g, 0, none⟩) l.length c]).run P W = .ok (goInt 0) W := by
      cases dp <;> simp [Builtin.copy_, run_underlying hu, Builtin.lenOf, sizeOf, typeInfo, hi, hsi, hcells, storeCells]
    unfold Oper.wp
    simp [execOp, ho, resolve, invoke, builtin, hd, hs, hrun]
    exact hK _ _ hw
  · obtain rfl := hdp (by omega)
    obtain ⟨cur, hg, hfit, -, hnew⟩ := hown.over hk (l.take (l.length - m)) m (by rw [List.length_take]; omega)
    have hdrop : l.drop (m + (l.take (l.length - m)).length) = [] := List.drop_of_length_le (by rw [List.length_take]; omega)
    rw [hdrop, List.append_nil] at hnew
    have hst := run_storeCells_at P g (m * k) e ((l.take (l.length - m)).flatMap enc) 0 cur W hg (by omega) (fun v hv => by obtain ⟨x, -, hx⟩ := List.mem_flatMap.1 hv; exact hone x v hx)
    rw [Nat.add_zero] at hst
    generalize (cur.toList.take (m * k) ++ (l.take (l.length - m)).flatMap enc ++ cur.toList.drop (m * k + ((l.take (l.length - m)).flatMap enc).length)).toArray = X at hst hnew
    generalize (l.take (l.length - m)).flatMap enc = us at hst hcells
    refine wpList_plain hgd fun K hK => ?_
    have hrun : (Builtin.copy_ #[dT, sT] o.type #[.slice (some ⟨g, m * k, none⟩) (l.length - m) c', .slice (some ⟨g, 0, none⟩) l.length c]).run P W = .ok (goInt ((l.length - m : Nat) : Int)) (W.setRow g X) := by
      simp [Builtin.copy_, run_underlying hu, Builtin.lenOf, sizeOf, typeInfo, hi, hsi, hmin, hcells, hst]
    unfold Oper.wp
    simp [execOp, ho, resolve, invoke, builtin, hd, hs, hrun]
    exact hK _ _ (h _ hnew (setRow_turned _))
set_option maxRecDepth 100000 in
/-- clear(s[:m]) -/
theorem wpList_clear_over {α : Type} (enc : α → List Value) (k : Nat) (hk : ∀ x, (enc x).length = k) (hone : ∀ x, ∀ u ∈ enc x, u.oneCell' = true) (hgd : o.guard = none) (x : Operand) (t : TypeId)
    (ho : o.op = .call { callee := .builtin .clear, args := #[x], argTypes := #[t] }) (e : TypeId) (hu : P.underlying t = some (.slice e)) (zs : Array Value) (hinfo : (P.info? e).map (fun i => (i.zero.map (·.cells), i.size)) = some (some zs, k)) (z : α) (hz : zs.toList = enc z)
    (B : Nat) (W : World) (g m c c' n : Nat) (l : List α) (hn : l.length = n) (hown : owE e k enc B W (.slice (some ⟨g, 0, none⟩) n c) l) (hm : m ≤ n) (hm0 : 0 < m)
    (hx : a.eval x = .slice (some ⟨g, 0, none⟩) m c')
    (h : ∀ w', owE e k enc B w' (.slice (some ⟨g, 0, none⟩) n c) (List.replicate m z ++ l.drop m) → Turned g (g + 1) W w' → wpList P ops Q rest (a.put o.dst (.tuple #[])) w') : wpList P ops Q (o :: rest) a W := by
  subst hn
  obtain ⟨i, hi, hxx⟩ := Option.map_eq_some_iff.1 hinfo
  simp only [Prod.mk.injEq] at hxx
  obtain ⟨hz1, hsize⟩ := hxx
  obtain ⟨zz, hzz, hzc⟩ := Option.map_eq_some_iff.1 hz1
  obtain ⟨cur, hg, hfit, -, hnew⟩ := hown.over hk (List.replicate m z) 0 (by rw [List.length_replicate]; omega)
  rw [Nat.zero_add, List.length_replicate, List.take_zero, List.nil_append] at hnew
  have hst := run_storeCells_at P g 0 e ((List.replicate m z).flatMap enc) 0 cur W hg (by omega) (fun v hv => by obtain ⟨x, -, hx⟩ := List.mem_flatMap.1 hv; exact hone x v hx)
  rw [Nat.zero_mul] at hnew
  rw [Nat.add_zero] at hst
  obtain ⟨p, rfl⟩ : ∃ p, m = p + 1 := ⟨m - 1, by omega⟩
  refine wpList_plain hgd fun K hK => ?_
  have hzf := zero_flat hk zs z hz (p + 1)
  generalize (cur.toList.take 0 ++ (List.replicate (p + 1) z).flatMap enc ++ cur.toList.drop (0 + ((List.replicate (p + 1) z).flatMap enc).length)).toArray = X at hst hnew
  generalize (List.replicate (p + 1) z).flatMap enc = us at hst hzf
  have hrun : (Builtin.clear_ #[t] o.type #[.slice (some ⟨g, 0, none⟩) (p + 1) c']).run P W = .ok (.tuple #[]) (W.setRow g X) := by
    simp [Builtin.clear_, run_underlying hu, zeroValue, typeInfo, hi, hzz, hzc, hzf, hst]
  unfold Oper.wp
  simp [execOp, ho, resolve, invoke, builtin, hx, hrun]
  exact hK _ _ (h _ hnew (setRow_turned _))
end
end Go.Proofs.YtpeeagkfhdeagaaGreatDoor
/- append of a whole slice of structs; no conditions. -/
set_option linter.unusedVariables false
namespace Go.Proofs.YtpeeagkfhdeagaaGreatDoor
open Go.ChangeShapes Go.WideShapes Go.ChangeAt Go.RowKit

set_option maxRecDepth 100000 in
/-- append(s, src...) onto a row of structs of the call's own -/
theorem app_rows {P : Program} {ops : Array Oper} {rest : List Oper} {o : Oper} {a : Act} {Q : Exit → Act → World → Prop} {α : Type} (enc : α → List Value) (k : Nat) (hk : ∀ x, (enc x).length = k) (hk0 : 0 < k) (hone : ∀ x, ∀ u ∈ enc x, u.oneCell' = true)
    (t e : TypeId) (zs : Array Value) (bytes : Nat) (ht : P.underlying t = some (.slice e)) (hinfo : (P.info? e).map (fun i => (i.zero.map (·.cells), i.size, i.bytes)) = some (some zs, k, bytes)) (hzs : zs.size = k)
    (s x : Operand) (hgd : o.guard = none) (ho : o.op = .call { callee := .builtin .append, args := #[s, x], argTypes := #[t, t] })
    (base : Nat) (W : World) (v : Value) (l m : List α) (A0 : Option Addr) (c0 : Nat) (hs : a.eval s = v) (hx : a.eval x = .slice A0 m.length c0) (hown : owE e k enc base W v l)
    (hsrc : ∀ j y, m[j]? = some y → ∃ b off, A0 = some ⟨b, off, none⟩ ∧ atL W b (off + j * k) (enc y)) (h63 : l.length + m.length ≤ maxLen) (hbytes : (l.length + m.length) * bytes ≤ 140737488355328) (hbase : base ≤ W.heap.size)
    (h : ∀ A c w', owE e k enc base w' (.slice A (l.length + m.length) c) (l ++ m) → W.grownBy w' v.ownBlock → Below base W w' → wpList P ops Q rest (a.put o.dst (.slice A (l.length + m.length) c)) w') : wpList P ops Q (o :: rest) a W := by
  obtain ⟨i, hi, hxx⟩ := Option.map_eq_some_iff.1 hinfo
  simp only [Prod.mk.injEq] at hxx
  obtain ⟨hz, hsize, hby⟩ := hxx
  obtain ⟨z, hzz, hzc⟩ := Option.map_eq_some_iff.1 hz
  have key : ∃ v' w', (Builtin.append_ #[t, t] o.type #[v, .slice A0 m.length c0]).run P W = .ok v' w' ∧ owE e k enc base w' v' (l ++ m) ∧ W.grownBy w' v.ownBlock := by
    cases A0 with
    | none =>
      have hm : m = [] := by
        cases m with
        | nil => rfl
        | cons y m => obtain ⟨b, off, e', -⟩ := hsrc 0 y rfl; cases e'
      subst hm
      exact ⟨v, W, run_app_void W base t o.type e i ht hi v l.length _ k hown c0, by simpa using hown, World.grownBy.refl W _⟩
    | some ad =>
      have hcells : ∀ j u, (m.flatMap enc)[j]? = some u → W.cell? (ad.add j) = some u := by
        intro j u hu
        have hlt := (List.getElem?_eq_some_iff.1 hu).1
        have hlen := flat_len hk m
        rw [hlen] at hlt
        have hq : j / k < m.length := by rw [Nat.div_lt_iff_lt_mul hk0]; exact hlt
        have hr : j % k < k := Nat.mod_lt _ hk0
        have hj : j = j / k * k + j % k := by rw [Nat.mul_comm]; exact (Nat.div_add_mod j k).symm
        obtain ⟨b, off, e', hat⟩ := hsrc (j / k) _ (List.getElem?_eq_getElem hq)
        obtain rfl := Option.some.inj e'
        obtain ⟨u', hu'⟩ : ∃ u', (enc m[j / k])[j % k]? = some u' := ⟨_, List.getElem?_eq_getElem (show j % k < (enc m[j / k]).length by have := hk m[j / k]; omega)⟩
        have h2 := flat_at hk m (j / k) _ (List.getElem?_eq_getElem hq) (j % k) u' hu'
        rw [← hj, hu] at h2
        obtain rfl := Option.some.inj h2
        have h3 := hat (j % k) u hu'
        rw [add_off, show off + j = off + j / k * k + j % k by omega]
        exact h3
      obtain ⟨v', w1, hr, hown', hgrow, -, -⟩ := run_append_own_at (P := P) W base t o.type e i z k bytes ht hi hzz hsize hby (by rw [hzc, hzs]) hk0 v l.length (l.flatMap enc) hown ad m.length c0 (m.flatMap enc) (flat_len hk m) hcells (fun u hu => by obtain ⟨y, -, hy⟩ := List.mem_flatMap.1 hu; exact hone y u hy) h63 hbytes hbase
      refine ⟨v', w1, hr, ?_, hgrow⟩
      unfold owE
      rw [List.length_append, List.flatMap_append]
      exact hown'
  obtain ⟨v', w1, hr, ho', hgrow⟩ := key
  obtain ⟨A, c, rfl, hc'⟩ := ho'.form
  rw [List.length_append] at ho' hr
  refine wpList_plain hgd fun Kn hKn => ?_
  unfold Oper.wp execOp
  simp only [ho, resolve, invoke, builtin, Sem.run_bind, Sem.run_pure, Result.andThen_ok, List.map_toArray, List.map_cons, List.map_nil, hs, hx, hr]
  exact hKn _ _ (h A c w1 ho' hgrow ((Below.refl base W).grown hgrow hbase fun k hk => (hown.lt k hk).1))
end Go.Proofs.YtpeeagkfhdeagaaGreatDoor
/- An element of a row laid anew; the end of a row cleared; no conditions. -/
set_option linter.unusedVariables false
namespace Go.Proofs.YtpeeagkfhdeagaaGreatDoor
open Go.ChangeShapes Go.WideShapes Go.ChangeAt Go.RowKit

set_option maxRecDepth 100000 in
theorem setsAt_cells (us : List Value) : ∀ (w : World) (b o : Nat), w.setCells b o us = setsAt w b o us := by
  induction us with
  | nil => intro w b o; rfl
  | cons u us ih => intro w b o; exact ih _ b (o + 1)
set_option maxRecDepth 100000 in
/-- element i of a row laid anew -/
theorem filled.put {w : World} {b off k n i m : Nat} {E E' : Nat → List Value} (h : filled w b off k n m E) (hi : i < n) (hE : ∀ j, j < m → (E j).length = k) (hE' : (E' i).length = k) (hs : ∀ j, j < m → j ≠ i → E' j = E j) : filled (setsAt w b (off + i * k) (E' i)) b off k n m E' := by
  have hik := mul_step (k := k) hi
  refine ⟨setsAt_room _ _ _ _ _ _ h.room, fun j hj => ?_⟩
  by_cases e : j = i
  · subst e
    exact setsAt_at _ _ _ _ (h.room.sub (by omega) (by omega))
  · rw [hs j hj e]
    have hl := hE j hj
    rcases Nat.lt_or_gt_of_ne e with h1 | h1
    · have hjk := mul_step (k := k) h1
      exact setsAt_far _ _ _ _ _ _ (h.at_ j hj) (.inl (by omega))
    · have hjk := mul_step (k := k) h1
      exact setsAt_far _ _ _ _ _ _ (h.at_ j hj) (.inr (by omega))
set_option maxRecDepth 100000 in
/-- its first elements, where only what is behind them was laid anew -/
theorem filled.ahead {w : World} {b k n i : Nat} {E : Nat → List Value} (h : filled w b 0 k n n E) (hi : i ≤ n) (hE : ∀ j, j < n → (E j).length = k) (us : List Value) : filled (setsAt w b (i * k) us) b 0 k i i E := by
  have hle : i * k ≤ n * k := Nat.mul_le_mul_right k hi
  refine ⟨(setsAt_room _ _ _ _ _ _ h.room).sub (Nat.le_refl _) (by omega), fun j hj => ?_⟩
  have hjk := mul_step (k := k) hj
  exact setsAt_far _ _ _ _ _ _ (h.at_ j (by omega)) (.inl (by rw [hE j (by omega)]; omega))
section
variable {P : Program} {ops : Array Oper} {rest : List Oper} {o : Oper} {a : Act} {Q : Exit → Act → World → Prop}
set_option maxRecDepth 100000 in
/-- clear(s[i:]) -/
theorem wpList_clear_tail {α : Type} (enc : α → List Value) (k : Nat) (hk : ∀ x, (enc x).length = k) (hone : ∀ x, ∀ u ∈ enc x, u.oneCell' = true) (hgd : o.guard = none) (x : Operand) (t : TypeId)
    (ho : o.op = .call { callee := .builtin .clear, args := #[x], argTypes := #[t] }) (e : TypeId) (hu : P.underlying t = some (.slice e)) (zs : Array Value) (hinfo : (P.info? e).map (fun i => (i.zero.map (·.cells), i.size)) = some (some zs, k)) (z : α) (hz : zs.toList = enc z)
    (W : World) (g off m c' : Nat) (hroom : roomL W g off (m * k)) (hm0 : 0 < m) (hx : a.eval x = .slice (some ⟨g, off, none⟩) m c')
    (h : wpList P ops Q rest (a.put o.dst (.tuple #[])) (setsAt W g off ((List.replicate m z).flatMap enc))) : wpList P ops Q (o :: rest) a W := by
  obtain ⟨i, hi, hxx⟩ := Option.map_eq_some_iff.1 hinfo
  simp only [Prod.mk.injEq] at hxx
  obtain ⟨hz1, hsize⟩ := hxx
  obtain ⟨zz, hzz, hzc⟩ := Option.map_eq_some_iff.1 hz1
  have hzf := zero_flat hk zs z hz m
  have hl : ((List.replicate m z).flatMap enc).length = m * k := by rw [flat_len hk, List.length_replicate]
  have hst := run_storeCells_cells (P := P) g off ((List.replicate m z).flatMap enc) 0 W (fun j hj => by rw [hl] at hj; obtain ⟨⟨u, hu⟩, -⟩ := hroom j hj; rw [Nat.add_zero, hu]; rfl) (fun j hj => by rw [hl] at hj; rw [Nat.add_zero]; exact (hroom j hj).2) (fun v hv => by obtain ⟨x, -, hx⟩ := List.mem_flatMap.1 hv; exact hone x v hx)
  rw [Nat.add_zero, setsAt_cells] at hst
  obtain ⟨p, rfl⟩ : ∃ p, m = p + 1 := ⟨m - 1, by omega⟩
  generalize (List.replicate (p + 1) z).flatMap enc = us at hst hzf h
  refine wpList_plain hgd fun K hK => ?_
  have hrun : (Builtin.clear_ #[t] o.type #[.slice (some ⟨g, off, none⟩) (p + 1) c']).run P W = .ok (.tuple #[]) (setsAt W g off us) := by
    simp [Builtin.clear_, run_underlying hu, zeroValue, typeInfo, hi, hzz, hzc, hzf, hst]
  unfold Oper.wp
  simp [execOp, ho, resolve, invoke, builtin, hx, hrun]
  exact hK _ _ h
end
end Go.Proofs.YtpeeagkfhdeagaaGreatDoor
/- slices.Clone, slices.IndexFunc, slices.DeleteFunc over holds; no conditions. -/
set_option linter.unusedVariables false
namespace Go.Proofs.YtpeeagkfhdeagaaGreatDoor
open Go.ChangeShapes Go.WideShapes Go.ChangeAt Go.RowKit

/-- a row of holds of the call's own -/
def holdsOwn (l : List HoldD) (w : World) (e : Ending) (w' : World) : Prop := ∃ A c, e = .returned (.slice A l.length c) ∧ owE 79 3 hCells w.heap.size w' (.slice A l.length c) l ∧ Below w.heap.size w w'
set_option maxRecDepth 100000 in
theorem holds_at {hi : Nat} {w : World} {A : Option Addr} {n c : Nat} {l : List HoldD} (h : HoldsR.rd hi w [.slice A n c] l) : ∀ (j : Nat) (y : HoldD), l[j]? = some y → ∃ b off, A = some ⟨b, off, none⟩ ∧ b < hi ∧ atL w b (off + j * 3) (hCells y) := by
  intro j y hy
  obtain ⟨A', c', hv, -, hr⟩ := holds_rd h
  simp only [Value.slice.injEq] at hv
  obtain ⟨rfl, -, -⟩ := hv
  obtain ⟨b, off, e, hb, q0, q1, q2⟩ := hr j y hy
  refine ⟨b, off, e, hb, fun t u hu => ?_⟩
  match t, hu with
  | 0, hu => cases hu; exact q0
  | 1, hu => cases hu; exact q1
  | 2, hu => cases hu; exact q2
  | n + 3, hu => simp [hCells] at hu
set_option maxRecDepth 100000 in
set_option maxHeartbeats 1600000 in
theorem cloneHolds_any (hi : Nat) (v : Value) (l : List HoldD) (w : World) (hn : l.length ≤ 1048576) (h : HoldsR.rd hi w [v] l) (hh : hi ≤ w.heap.size) :
    Calls Tryz.prog 72 #[v] w (holdsOwn l w) := by
  obtain ⟨A, c, rfl, -, -⟩ := holds_rd h
  have hS := holds_at h
  have HS : Hid (∀ V, Below w.heap.size w V → ∀ (j : Nat) (y : HoldD), l[j]? = some y → ∃ b off, A = some ⟨b, off, none⟩ ∧ atL V b (off + j * 3) (hCells y)) := Lib.hid fun V hV j y hy => by
    obtain ⟨b, off, e, hb, ha⟩ := hS j y hy
    exact ⟨b, off, e, fun t u hu => (hV.cell (p := ⟨b, _, none⟩) (show b < w.heap.size by omega)).trans (ha t u hu)⟩
  have q33 : ∀ (w : World) (a : Option Addr) (n c n' c' : Nat), (binOp .eql 31 (.slice a n c) (.slice none n' c')).run Tryz.prog w = .ok (.bool a.isNone) w := fun w a n c n' c' => Lib.run_eql_slice_nil w _ _ a n c n' c' Tryz.underlying31
  clear h
  cases A with
  | none =>
    obtain rfl : l = [] := by
      cases l with
      | nil => rfl
      | cons y l => obtain ⟨b, off, e, -⟩ := hS 0 y rfl; cases e
    clear hS
    go_enter Tryz.func72, Tryz.ntmps72
    go_wp2
    go_ret
    exact ⟨none, 0, rfl, owE_none _ _ _ _ _, Below.refl _ _⟩
  | some ad =>
    clear hS
    go_enter Tryz.func72, Tryz.ntmps72
    go_wp2_with (at_builtin; refine app_rows hCells 3 (fun _ => rfl) (by decide) hCells_one 31 79 #[.string ⟨#[]⟩, .int .i64 0, .int .i64 0] 32 Tryz.underlying31 infoHold rfl _ _ rfl rfl w.heap.size (w.alloc (.cells #[] 79)) _ [] l (some ad) c (by rfl) (by rfl) (owE_empty _ _ _ _ w (Nat.le_refl _)) (HS.out _ ((Below.refl _ _).alloc (Nat.le_refl _) _)) (by unfold maxLen; simp; omega) (by simp; omega) (by simp) ?_)
    intro A1 c1 w1 ho1 hg1 hb1
    have HB1 : Hid (Below w.heap.size w w1) := Lib.hid (((Below.refl w.heap.size w).alloc (Nat.le_refl _) _).trans hb1)
    have HO : Hid (owE 79 3 hCells w.heap.size w1 (.slice A1 l.length c1) l) := Lib.hid (by simpa using ho1)
    clear ho1 hg1 hb1
    go_wp2
    go_ret
    exact ⟨A1, c1, by simp, HO.out, HB1.out⟩
/-- what a function says of a hold, wherever block B holds cs -/
def saysH (g : Nat) (lb : Array Value) (B : Nat) (t : TypeId) (cs : List Value) (p : HoldD → Bool) : Prop :=
  ∀ (W : World) (x : HoldD), bk W B t cs → Calls Tryz.prog g (#[.agg #[.string x.1, .int .i64 x.2.1, .int .i64 x.2.2]] ++ lb) W fun e w' => e = .returned (.bool (p x)) ∧ Below W.heap.size W w'
def findP (p : HoldD → Bool) (l : List HoldD) : Int := match l.findIdx? p with | some i => (i : Int) | none => -1
set_option maxRecDepth 100000 in
theorem findP_none {p : HoldD → Bool} {l : List HoldD} (h : ∀ x ∈ l, p x = false) : findP p l = -1 := by
  unfold findP
  rw [List.findIdx?_eq_none_iff.2 h]
set_option maxRecDepth 100000 in
theorem findP_some {p : HoldD → Bool} {l : List HoldD} {i : Nat} {x : HoldD} (hx : l[i]? = some x) (he : p x = true) (h : ∀ y ∈ l.take i, p y = false) : findP p l = (i : Int) := by
  obtain ⟨hi, rfl⟩ := List.getElem?_eq_some_iff.1 hx
  have h1 : l.findIdx? p = some i := by
    rw [List.findIdx?_eq_some_iff_getElem]
    refine ⟨hi, he, fun j hj => ?_⟩
    have hm : l[j] ∈ l.take i := by rw [List.mem_take_iff_getElem]; exact ⟨j, by omega, rfl⟩
    simpa using h _ hm
  unfold findP
  rw [h1]
set_option maxRecDepth 100000 in
theorem take_all_next {p : HoldD → Bool} {l : List HoldD} {i : Nat} {x : HoldD} (hx : l[i]? = some x) (he : p x = false) (h : ∀ y ∈ l.take i, p y = false) : ∀ y ∈ l.take (i + 1), p y = false := by
  obtain ⟨h5, h6⟩ := List.getElem?_eq_some_iff.1 hx
  rw [List.take_succ_eq_append_getElem h5, h6]
  intro y hy
  rcases List.mem_append.1 hy with hy | hy
  · exact h y hy
  · rw [List.mem_singleton.1 hy]; exact he
set_option maxRecDepth 100000 in
set_option maxHeartbeats 1600000 in
theorem indexHolds_any (g : Nat) (lb : Array Value) (B : Nat) (t : TypeId) (cs : List Value) (p : HoldD → Bool) (hi : Nat) (v : Value) (l : List HoldD) (w : World) (hp : saysH g lb B t cs p) (eg : ∀ args w, (callFunc g args).run Tryz.prog w = .ok (.enter g args) w) (hbk : bk w B t cs) (hn : l.length ≤ 1048576) (h : HoldsR.rd hi w [v] l) (hh : hi ≤ w.heap.size) :
    Calls Tryz.prog 96 #[v, .func (.func g) #[] lb] w fun e w' => e = .returned (.int .i64 (findP p l)) ∧ Below w.heap.size w w' := by
  obtain ⟨A, c, rfl, hc, h⟩ := holds_rd h
  have HR := Lib.hid h
  have HP := Lib.hid hp
  have HK := Lib.hid hbk
  have hBw := hbk.lt
  clear h hp hbk
  go_enter Tryz.func96, Tryz.ntmps96
  go_wp2
  go_loopw [8] (fun iv wr => ∃ i : Nat, i ≤ l.length ∧ iv = .int .i64 i ∧ Hid (∀ y ∈ l.take i, p y = false) ∧ Hid (Below w.heap.size w wr) ∧ w.heap.size ≤ wr.heap.size) (fun iv _ => l.length - (intOf iv).toNat)
  case atStart => exact ⟨0, Nat.zero_le _, rfl, Lib.hid (by simp), Lib.hid (Below.refl _ _), Nat.le_refl _⟩
  case round =>
    obtain ⟨i, hi', rfl, HN, HB, hz⟩ := hrel
    by_cases hin : i < l.length
    · obtain ⟨x, hx⟩ : ∃ x, l[i]? = some x := ⟨_, List.getElem?_eq_getElem hin⟩
      obtain ⟨b, off, rfl, hbl, c0, c1, c2⟩ := HR.out i x hx
      have hcall := HP.out wr x (HK.out.below HB.out hBw)
      have HYES := Lib.hid (fun he => findP_some hx he HN.out)
      have HNO := Lib.hid (fun he => take_all_next (p := p) hx he HN.out)
      clear hx
      have c0 := (HB.out.cell (p := ⟨b, off + i * 3, none⟩) (show b < w.heap.size by omega)).trans c0
      have c1 := (HB.out.cell (p := ⟨b, off + i * 3 + 1, none⟩) (show b < w.heap.size by omega)).trans c1
      have c2 := (HB.out.cell (p := ⟨b, off + i * 3 + 2, none⟩) (show b < w.heap.size by omega)).trans c2
      have g1 : (i : Int) < (l.length : Int) := by omega
      have g2 : 0 ≤ (i : Int) := by omega
      generalize p x = px at hcall HYES HNO
      have HC := Lib.hid hcall
      clear hcall
      go_wp2_with fail
      refine HC.out.mono ?_
      rintro e w1 ⟨rfl, hb1⟩
      have z1 := hb1.size
      have HB1 : Hid (Below w.heap.size w w1) := Lib.hid (HB.out.trans (hb1.mono (by omega)))
      clear hb1 c0 c1 c2
      cases px
      · have HN2 := Lib.hid (HNO.out rfl)
        go_wp2
        go_roundw
        case rel => exact ⟨i + 1, by omega, by go_num, HN2, HB1, by omega⟩
        case measure => simp [intOf] <;> omega
      · have HV := Lib.hid (HYES.out rfl)
        go_wp2
        go_ret
        exact ⟨ret_int HV.out.symm, HB1.out⟩
    · obtain rfl : i = l.length := by omega
      have HV : Hid (findP p l = -1) := Lib.hid (findP_none (by have := HN.out; rwa [List.take_length] at this))
      go_wp2
      go_ret
      exact ⟨ret_int HV.out.symm, HB.out⟩
end Go.Proofs.YtpeeagkfhdeagaaGreatDoor
/- slices.DeleteFunc over holds; HoldDrop, LiveOnes of the program; no conditions. -/
set_option linter.unusedVariables false
namespace Go.Proofs.YtpeeagkfhdeagaaGreatDoor
open Go.ChangeShapes Go.WideShapes Go.ChangeAt Go.RowKit

/-- the holds that stay -/
def staysP (p : HoldD → Bool) (l : List HoldD) : List HoldD := l.filter fun x => !p x
set_option maxRecDepth 100000 in
theorem stays_all {p : HoldD → Bool} {l : List HoldD} (h : ∀ x ∈ l, p x = false) : staysP p l = l := List.filter_eq_self.2 fun x hx => by rw [h x hx]; rfl
set_option maxRecDepth 100000 in
theorem stays_next {p : HoldD → Bool} {l : List HoldD} {j : Nat} {x : HoldD} (hx : l[j]? = some x) : staysP p (l.take (j + 1)) = if p x = true then staysP p (l.take j) else staysP p (l.take j) ++ [x] := by
  obtain ⟨hj, rfl⟩ := List.getElem?_eq_some_iff.1 hx
  unfold staysP
  rw [List.take_succ_eq_append_getElem hj, List.filter_append]
  cases hp : p l[j] <;> simp [hp]
set_option maxRecDepth 100000 in
theorem stays_len (p : HoldD → Bool) (l : List HoldD) : (staysP p l).length ≤ l.length := List.length_filter_le _ _
set_option maxRecDepth 100000 in
theorem findP_cases (p : HoldD → Bool) (l : List HoldD) : (findP p l = -1 ∧ ∀ x ∈ l, p x = false) ∨ ∃ (i : Nat) (x : HoldD), l[i]? = some x ∧ findP p l = (i : Int) ∧ p x = true ∧ ∀ y ∈ l.take i, p y = false := by
  unfold findP
  cases h : l.findIdx? p with
  | none => exact .inl ⟨rfl, List.findIdx?_eq_none_iff.1 h⟩
  | some i =>
    obtain ⟨hi, h1, h2⟩ := List.findIdx?_eq_some_iff_getElem.1 h
    refine .inr ⟨i, l[i], List.getElem?_eq_getElem hi, rfl, h1, fun y hy => ?_⟩
    obtain ⟨k, hk, rfl⟩ := List.mem_take_iff_getElem.1 hy
    have := h2 k (by omega)
    simpa using this
/-- n holds in block g, the first i of them those of l's first j that stay, from j on l's own -/
def cutH (p : HoldD → Bool) (l : List HoldD) (g i j : Nat) (w : World) : Prop := ∃ L : List HoldD, L.length = l.length ∧ L.take i = staysP p (l.take j) ∧ L.drop j = l.drop j ∧ i < j ∧ j ≤ l.length ∧ filled w g 0 3 l.length l.length fun k => hCells (L.getD k noH)
set_option maxRecDepth 100000 in
theorem cutH.keep {p : HoldD → Bool} {l : List HoldD} {g i j : Nat} {w w' : World} (h : cutH p l g i j w) (hk : w'.heap[g]? = w.heap[g]?) : cutH p l g i j w' := by
  obtain ⟨L, h1, h2, h3, h4, h5, h6⟩ := h
  exact ⟨L, h1, h2, h3, h4, h5, h6.keep hk⟩
set_option maxRecDepth 100000 in
theorem cutH.lt {p : HoldD → Bool} {l : List HoldD} {g i j : Nat} {w : World} (h : cutH p l g i j w) : i < j ∧ j ≤ l.length := by
  obtain ⟨L, h1, h2, h3, h4, h5, h6⟩ := h
  exact ⟨h4, h5⟩
set_option maxRecDepth 100000 in
theorem cutH.start {p : HoldD → Bool} {l : List HoldD} {g i : Nat} {w : World} {x : HoldD} (hx : l[i]? = some x) (he : p x = true) (h : ∀ y ∈ l.take i, p y = false) (hr : filled w g 0 3 l.length l.length fun k => hCells (l.getD k noH)) : cutH p l g i (i + 1) w := by
  have hi := (List.getElem?_eq_some_iff.1 hx).1
  refine ⟨l, rfl, ?_, rfl, by omega, by omega, hr⟩
  rw [stays_next hx, if_pos he, stays_all h]
set_option maxRecDepth 100000 in
/-- the next element, as it lies -/
theorem cutH.next {p : HoldD → Bool} {l : List HoldD} {g i j : Nat} {w : World} (h : cutH p l g i j w) {x : HoldD} (hx : l[j]? = some x) : w.cell? ⟨g, j * 3, none⟩ = some (.string x.1) ∧ w.cell? ⟨g, j * 3 + 1, none⟩ = some (.int .i64 x.2.1) ∧ w.cell? ⟨g, j * 3 + 2, none⟩ = some (.int .i64 x.2.2) := by
  obtain ⟨L, h1, h2, h3, h4, h5, h6⟩ := h
  have hj := (List.getElem?_eq_some_iff.1 hx).1
  have e : L[j]? = some x := by
    have e1 : L[j]? = (L.drop j)[0]? := by rw [List.getElem?_drop, Nat.add_zero]
    rw [e1, h3, List.getElem?_drop, Nat.add_zero, hx]
  have ha := h6.at_ j hj
  have e2 : L.getD j noH = x := by rw [List.getD_eq_getElem?_getD, e]; rfl
  rw [e2, Nat.zero_add] at ha
  exact ⟨ha 0 _ rfl, ha 1 _ rfl, ha 2 _ rfl⟩
set_option maxRecDepth 100000 in
/-- the place that is written, as it lies -/
theorem cutH.place {p : HoldD → Bool} {l : List HoldD} {g i j : Nat} {w : World} (h : cutH p l g i j w) : ∀ t, t < 3 → (∃ u, w.cell? ⟨g, i * 3 + t, none⟩ = some u) ∧ w.frozen? ⟨g, i * 3 + t, none⟩ = false := by
  obtain ⟨L, h1, h2, h3, h4, h5, h6⟩ := h
  intro t ht
  have := h6.cells (show i < l.length by omega) t ht
  rwa [Nat.zero_add] at this
set_option maxRecDepth 100000 in
theorem cutH.skip {p : HoldD → Bool} {l : List HoldD} {g i j : Nat} {w : World} (h : cutH p l g i j w) {x : HoldD} (hx : l[j]? = some x) (hp : p x = true) : cutH p l g i (j + 1) w := by
  obtain ⟨L, h1, h2, h3, h4, h5, h6⟩ := h
  have hj := (List.getElem?_eq_some_iff.1 hx).1
  refine ⟨L, h1, ?_, ?_, by omega, by omega, h6⟩
  · rw [stays_next hx, if_pos hp]; exact h2
  · rw [← List.drop_drop, h3, List.drop_drop]
set_option maxRecDepth 100000 in
theorem cutH.stay {p : HoldD → Bool} {l : List HoldD} {g i j : Nat} {w : World} (h : cutH p l g i j w) {x : HoldD} (hx : l[j]? = some x) (hp : p x = false) : cutH p l g (i + 1) (j + 1) (setsAt w g (i * 3) (hCells x)) := by
  obtain ⟨L, h1, h2, h3, h4, h5, h6⟩ := h
  have hj := (List.getElem?_eq_some_iff.1 hx).1
  have hi : i < L.length := by omega
  refine ⟨L.set i x, by simpa using h1, ?_, ?_, by omega, by omega, ?_⟩
  · rw [stays_next hx, if_neg (by rw [hp]; exact Bool.false_ne_true), ← h2, List.take_succ_eq_append_getElem (by simpa using hi), List.getElem_set_self]
    congr 1
    rw [List.take_set_of_le (Nat.le_refl _)]
  · rw [List.drop_set_of_lt (by omega), ← List.drop_drop, h3, List.drop_drop]
  · have e : hCells ((L.set i x).getD i noH) = hCells x := by rw [List.getD_eq_getElem?_getD, List.getElem?_set_self hi]; rfl
    have := h6.put (E' := fun k => hCells ((L.set i x).getD k noH)) (show i < l.length by omega) (fun _ _ => rfl) rfl (fun j _ hne => by
      show hCells _ = hCells _
      rw [List.getD_eq_getElem?_getD, List.getD_eq_getElem?_getD, List.getElem?_set_ne (fun e => hne e.symm)])
    rw [Nat.zero_add] at this
    simp only [e] at this
    exact this
set_option maxRecDepth 100000 in
theorem cutH.tail {p : HoldD → Bool} {l : List HoldD} {g i j : Nat} {w : World} (h : cutH p l g i j w) : roomL w g (i * 3) ((l.length - i) * 3) := by
  obtain ⟨L, h1, h2, h3, h4, h5, h6⟩ := h
  exact h6.room.sub (by omega) (by omega)
set_option maxRecDepth 100000 in
theorem cutH.done {p : HoldD → Bool} {l : List HoldD} {g i : Nat} {w : World} (h : cutH p l g i l.length w) (us : List Value) : i = (staysP p l).length ∧ filled (setsAt w g (i * 3) us) g 0 3 i i fun k => hCells ((staysP p l).getD k noH) := by
  obtain ⟨L, h1, h2, h3, h4, h5, h6⟩ := h
  rw [List.take_length] at h2
  have e : i = (staysP p l).length := by rw [← h2, List.length_take]; omega
  have hf := h6.ahead (i := i) (by omega) (fun _ _ => rfl) us
  refine ⟨e, hf.room, fun k hk => ?_⟩
  have hk2 : (staysP p l).getD k noH = L.getD k noH := by rw [← h2, List.getD_eq_getElem?_getD, List.getD_eq_getElem?_getD, List.getElem?_take, if_pos hk]
  show atL _ _ _ (hCells _)
  rw [hk2]
  exact hf.at_ k hk
set_option maxRecDepth 100000 in
theorem nil_own {lo hi : Nat} {w : World} (l : List HoldD) (A : Option Addr) (c : Nat) (h : l.length = 0) : HoldsR.mine lo hi w [.slice A l.length c] l := by
  obtain rfl := List.eq_nil_of_length_eq_zero h
  exact ⟨[], ⟨A, c, rfl, Nat.zero_le _, .inl ⟨rfl, rfl⟩⟩, List.nodup_nil, by simp⟩
set_option maxRecDepth 100000 in
theorem infoHold2 : (Tryz.prog.info? 79).map (fun i => (i.zero.map (·.cells), i.size)) = some (some #[.string ⟨#[]⟩, .int .i64 0, .int .i64 0], 3) := by kernel_rfl
set_option maxRecDepth 100000 in
set_option maxHeartbeats 1600000 in
theorem deleteHolds_any (g0 : Nat) (lb : Array Value) (B : Nat) (t : TypeId) (cs : List Value) (p : HoldD → Bool) (A : Option Addr) (c : Nat) (l : List HoldD) (base : Nat) (w : World) (hp : saysH g0 lb B t cs p) (eg : ∀ args w, (callFunc g0 args).run Tryz.prog w = .ok (.enter g0 args) w) (hbk : bk w B t cs) (hB : B < base) (hn : l.length ≤ 1048576) (ho : owE 79 3 hCells base w (.slice A l.length c) l) (hbase : base ≤ w.heap.size) :
    Calls Tryz.prog 71 #[.slice A l.length c, .func (.func g0) #[] lb] w fun e w' => ∃ u, e = .returned u ∧ HoldsR.mine base w'.heap.size w' [u] (staysP p l) ∧ Below base w w' := by
  have HIX := Lib.hid (indexHolds_any g0 lb B t cs p w.heap.size _ l w hp eg hbk hn (owE_holds ho).rd (Nat.le_refl _))
  have HP := Lib.hid hp
  have HOW := Lib.hid ho
  have hBw := hbk.lt
  have HBK := Lib.hid hbk
  have hfi := ho.filled (fun _ => rfl) noH
  clear hp hbk ho
  rcases findP_cases p l with ⟨hv, hall⟩ | ⟨i0, x0, hx0, hv, hpx, hall⟩
  · have HST : Hid (staysP p l = l) := Lib.hid (stays_all hall)
    rw [hv] at HIX
    clear hfi hall hv
    go_enter Tryz.func71, Tryz.ntmps71
    go_wp2_with fail
    refine HIX.out.mono ?_
    rintro e w1 ⟨rfl, hb1⟩
    have HB1 : Hid (Below w.heap.size w w1) := Lib.hid hb1
    have HO1 := Lib.hid (HOW.out.below hb1 (Nat.le_refl _))
    clear hb1
    go_wp2
    go_ret
    exact ⟨_, rfl, by rw [HST.out]; exact owE_holds HO1.out, HB1.out.mono hbase⟩
  obtain ⟨g, rfl, hc, hgb, hgw, hfl⟩ : ∃ g, A = some ⟨g, 0, none⟩ ∧ l.length ≤ c ∧ base ≤ g ∧ g < w.heap.size ∧ filled w g 0 3 l.length l.length fun j => hCells (l.getD j noH) := by
    rcases hfi with ⟨rfl, -⟩ | ⟨b, c', e, h1, h2, h3, h4⟩
    · simp at hx0
    · simp only [Value.slice.injEq, true_and] at e
      obtain ⟨rfl, rfl⟩ := e
      exact ⟨b, rfl, h1, h2, h3, h4⟩
  have hi0 : i0 < l.length := (List.getElem?_eq_some_iff.1 hx0).1
  have HC0 := Lib.hid (cutH.start hx0 hpx hall hfl)
  rw [hv] at HIX
  clear hfi hfl hx0 hall hv HOW hpx
  have gm : ((i0 : Int) == -1) = false := beq_eq_false_iff_ne.2 (by omega)
  go_enter Tryz.func71, Tryz.ntmps71
  go_wp2_with fail
  refine HIX.out.mono ?_
  rintro e w1 ⟨rfl, hb1⟩
  have HB1 : Hid (Below base w w1) := Lib.hid (hb1.mono hbase)
  have HC1 := Lib.hid (HC0.out.keep (hb1.block g hgw))
  have HK1 := Lib.hid (HBK.out.below hb1 hBw)
  have z1 := hb1.size
  clear hb1 HC0
  go_wp2
  go_loopw [5, 6, 7] (fun iv jv _ wr => ∃ i j : Nat, i < j ∧ j ≤ l.length ∧ iv = .int .i64 i ∧ jv = .int .i64 j ∧ Hid (cutH p l g i j wr) ∧ Hid (bk wr B t cs) ∧ Hid (Below base w wr) ∧ w.heap.size ≤ wr.heap.size) (fun _ jv _ _ => l.length - (intOf jv).toNat)
  case atStart => exact ⟨i0, i0 + 1, by omega, by omega, rfl, by go_num, HC1, HK1, HB1, z1⟩
  case round =>
    obtain ⟨i, j, hij, hjl, rfl, rfl, HC, HK, HB, hz⟩ := hrel
    by_cases hin : j < l.length
    · obtain ⟨x, hx⟩ : ∃ x, l[j]? = some x := ⟨_, List.getElem?_eq_getElem hin⟩
      obtain ⟨c0, c1, c2⟩ := HC.out.next hx
      have HSK := Lib.hid (fun W (h : cutH p l g i j W) hpx => h.skip hx hpx)
      have HSY := Lib.hid (fun W (h : cutH p l g i j W) hpx => h.stay hx hpx)
      have HP2 := Lib.hid (fun W (h : bk W B t cs) => HP.out W x h)
      clear hx
      have g1 : (j : Int) < (l.length : Int) := by omega
      have g2 : 0 ≤ (j : Int) := by omega
      have g3 : (i : Int) < (l.length : Int) := by omega
      have g4 : 0 ≤ (i : Int) := by omega
      generalize p x = px at HSK HSY HP2
      go_upto_region 8 with fail
      obtain ⟨W, hW⟩ : ∃ W, W = wr.alloc (.cells #[.string x.1, .int .i64 x.2.1, .int .i64 x.2.2] 79) := ⟨_, rfl⟩
      have b0 : bk W wr.heap.size 79 [.string x.1, .int .i64 x.2.1, .int .i64 x.2.2] := by rw [hW]; exact bk.new wr _ _
      have HB0 : Hid (Below base w W) := Lib.hid (by rw [hW]; exact HB.out.alloc (by omega) _)
      have HC2 : Hid (cutH p l g i j W) := Lib.hid (HC.out.keep (by rw [hW]; exact Below.heap_alloc _ _ _ (by omega)))
      have HK2 : Hid (bk W B t cs) := Lib.hid (by rw [hW]; exact HK.out.alloc _)
      have z0 := b0.lt
      rw [← hW]
      clear hW c0 c1 c2
      obtain ⟨p0, p1, p2⟩ := b0.cells3
      go_wp2_with fail
      refine (HP2.out W HK2.out).mono ?_
      rintro e w2 ⟨rfl, hb2⟩
      have z2 := hb2.size
      have HB2 : Hid (Below base w w2) := Lib.hid (HB0.out.trans (hb2.mono (by omega)))
      have HC3 : Hid (cutH p l g i j w2) := Lib.hid (HC2.out.keep (hb2.block _ (by omega)))
      have HK3 := Lib.hid (HK2.out.below hb2 (by omega))
      replace b0 := b0.below hb2 z0
      clear hb2 p0 p1 p2 HC HK HB HB0 HC2 HK2
      obtain ⟨p0, p1, p2⟩ := b0.cells3
      cases px
      · obtain ⟨⟨u0, d0⟩, f0⟩ := HC3.out.place 0 (by omega)
        obtain ⟨⟨u1, d1⟩, f1⟩ := HC3.out.place 1 (by omega)
        obtain ⟨⟨u2, d2⟩, f2⟩ := HC3.out.place 2 (by omega)
        simp only [Nat.add_zero] at d0 f0
        have HC4 := Lib.hid (HSY.out w2 HC3.out rfl)
        clear b0
        go_wp2
        go_roundw
        case rel => exact ⟨i + 1, j + 1, by omega, by omega, by go_num, by go_num, HC4, Lib.hid (((HK3.out.far (p := ⟨g, _, none⟩) (by simp; omega) _).far (p := ⟨g, _, none⟩) (by simp; omega) _).far (p := ⟨g, _, none⟩) (by simp; omega) _), Lib.hid (((HB2.out.setCell (p := ⟨g, _, none⟩) hgb _).setCell (p := ⟨g, _, none⟩) hgb _).setCell (p := ⟨g, _, none⟩) hgb _), by simp [World.setCell]; omega⟩
        case measure => simp [intOf] <;> omega
      · have HC4 := Lib.hid (HSK.out w2 HC3.out rfl)
        go_wp2
        go_roundw
        case rel => exact ⟨i, j + 1, by omega, by omega, rfl, by go_num, HC4, HK3, HB2, by omega⟩
        case measure => simp [intOf] <;> omega
    · obtain rfl : j = l.length := by omega
      have g3 : (i : Int) < (l.length : Int) := by omega
      have g4 : 0 ≤ (i : Int) := by omega
      go_wp2_with (refine wpList_clear_tail hCells 3 (fun _ => rfl) hCells_one rfl _ _ rfl 79 Tryz.underlying31 #[.string ⟨#[]⟩, .int .i64 0, .int .i64 0] infoHold2 noH rfl wr g (i * 3) (l.length - i) (c - i) HC.out.tail (by omega) rfl ?_)
      · obtain ⟨us, hus⟩ : ∃ us, us = (List.replicate (l.length - i) noH).flatMap hCells := ⟨_, rfl⟩
        rw [← hus]
        obtain ⟨he, hf⟩ := HC.out.done us
        have ht := setsAt_turned us wr g (i * 3) (Turned.refl g (g + 1) wr) (Nat.le_refl _) (by omega)
        have hsz := ht.size
        have HF := Lib.hid hf
        have HE := Lib.hid he
        have HBW : Hid (Below base w (setsAt wr g (i * 3) us)) := Lib.hid (HB.out.trans (setsAt_below us wr g (i * 3) (Below.refl _ _) hgb))
        generalize setsAt wr g (i * 3) us = wf at HF HBW hsz
        clear hf he ht hus HC HB HK
        go_wp2
        go_ret
        exact ⟨_, rfl, holds_mine HE.out (by omega) hgb (by omega) HF.out, HBW.out⟩
set_option maxRecDepth 100000 in
theorem stays_drop (l : List HoldD) (id : ByteArray) : staysP (fun x => decide (x.1 = id)) l = dropL l id := by
  unfold staysP dropL
  congr 1
  funext x
  simp
set_option maxRecDepth 100000 in
theorem stays_live (l : List HoldD) (now : Int) : staysP (fun x => !live now x) l = liveL l now := by
  unfold staysP liveL
  congr 1
  funext x
  simp
set_option maxRecDepth 100000 in
theorem says_live (now : Int) (B : Nat) : saysH 73 #[.pointer (some ⟨B, 0, none⟩)] B 3 [.int .i64 now] (fun x => !live now x) := by
  intro W x hb
  show Calls Tryz.prog 73 #[.agg #[.string x.1, .int .i64 x.2.1, .int .i64 x.2.2], .pointer (some ⟨B, 0, none⟩)] W _
  have HB0 : Hid (Below W.heap.size W (W.alloc (.cells #[.string x.1, .int .i64 x.2.1, .int .i64 x.2.2] 79))) := Lib.hid ((Below.refl _ _).alloc (Nat.le_refl _) _)
  have c0 : (W.alloc (.cells #[.string x.1, .int .i64 x.2.1, .int .i64 x.2.2] 79)).cell? ⟨B, 0, none⟩ = some (.int .i64 now) := (hb.alloc _).cell 0
  clear hb
  have HL := Lib.hid (fun V => implLive_any x now V)
  go_enter Tryz.func73, Tryz.ntmps73
  go_wp2_with fail
  refine (HL.out _).mono ?_
  rintro e w1 ⟨rfl, hb1⟩
  have HB1 : Hid (Below W.heap.size W w1) := Lib.hid (HB0.out.trans (hb1.mono (by simp)))
  clear hb1
  go_wp2
  go_ret
  exact ⟨rfl, HB1.out⟩
set_option maxRecDepth 100000 in
theorem implLiveOnes_any (hi : Nat) (v : Value) (l : List HoldD) (now : Int) (w : World) (hn : l.length ≤ 1048576) (h : HoldsR.rd hi w [v] l) (hh : hi ≤ w.heap.size) :
    Calls Tryz.prog 36 #[v, .int .i64 now] w (holdsOne (liveL l now) w) := by
  obtain ⟨W, hW⟩ : ∃ W, W = w.alloc (.cells #[.int .i64 now] 3) := ⟨_, rfl⟩
  have b0 : bk W w.heap.size 3 [.int .i64 now] := by rw [hW]; exact bk.new w _ _
  have HB0 : Hid (Below w.heap.size w W) := Lib.hid (by rw [hW]; exact (Below.refl _ _).alloc (Nat.le_refl _) _)
  have z0 := b0.lt
  have HCL := Lib.hid (cloneHolds_any hi v l W hn (Rep.below (R := HoldsR) h HB0.out hh) (Nat.le_trans hh HB0.out.size))
  have eg := Go.Proofs.enters_of Tryz.func73 (by kernel_rfl) rfl
  have HB := Lib.hid b0
  clear h b0
  go_enter Tryz.func36, Tryz.ntmps36
  go_upto_region 1 with fail
  rw [← hW]
  clear hW
  go_wp2_with fail
  refine HCL.out.mono ?_
  rintro e w1 ⟨A, c, rfl, ho, hb1⟩
  have z1 := hb1.size
  have HDL := Lib.hid (deleteHolds_any _ _ w.heap.size 3 [.int .i64 now] _ A c l W.heap.size w1 (says_live now w.heap.size) eg (HB.out.below hb1 z0) z0 hn ho z1)
  have HB1 : Hid (Below w.heap.size w w1) := Lib.hid (HB0.out.trans (hb1.mono (by omega)))
  clear ho hb1 HCL HB HB0
  go_wp2_with fail
  refine HDL.out.mono ?_
  rintro e w2 ⟨u, rfl, hm, hb2⟩
  have HM := Lib.hid hm
  have HB2 : Hid (Below w.heap.size w w2) := Lib.hid (HB1.out.trans (hb2.mono (by omega)))
  clear hm hb2 HDL HB1
  go_wp2
  go_ret
  exact ⟨_, rfl, by rw [← stays_live]; exact HM.out.mono (by omega) (Nat.le_refl _), HB2.out⟩
end Go.Proofs.YtpeeagkfhdeagaaGreatDoor
/- Stored and LiveSum of the program. The library's table of type handles holds what its text lays. -/
set_option linter.unusedVariables false
namespace Go.Proofs.YtpeeagkfhdeagaaGreatDoor
open Go.ChangeShapes Go.WideShapes Go.ChangeAt Go.RowKit

set_option maxRecDepth 100000 in
set_option maxHeartbeats 1600000 in
theorem implStored_any (hi : Nat) (v : Value) (l : List HoldD) (w : World) (hg : Handle w) (hn : l.length ≤ 1048576) (h : HoldsR.rd hi w [v] l) (hh : hi ≤ w.heap.size) :
    Calls Tryz.prog 61 #[v] w fun e w' => e = .returned (.int .i64 (storedL l)) ∧ Below w.heap.size w w' := by
  obtain ⟨A, c, rfl, hc, h⟩ := holds_rd h
  have HR := Lib.hid h
  have HG := Lib.hid hg
  clear h hg
  go_enter Tryz.func61, Tryz.ntmps61
  go_wp2
  go_loopw [3, 8] (fun nv iv wr => ∃ i : Nat, i ≤ l.length ∧ iv = .int .i64 i ∧ nv = .int .i64 (storedL (l.take i)) ∧ Hid (Below w.heap.size w wr) ∧ w.heap.size ≤ wr.heap.size) (fun _ iv _ => l.length - (intOf iv).toNat)
  case atStart => exact ⟨0, Nat.zero_le _, rfl, rfl, Lib.hid (Below.refl _ _), Nat.le_refl _⟩
  case round =>
    obtain ⟨i, hi', rfl, rfl, HB, hz⟩ := hrel
    by_cases hin : i < l.length
    · obtain ⟨x, hx⟩ : ∃ x, l[i]? = some x := ⟨_, List.getElem?_eq_getElem hin⟩
      obtain ⟨b, off, rfl, hbl, c0, c1, c2⟩ := HR.out i x hx
      have HNX := Lib.hid (storedL_next hx)
      clear hx
      have c0 := (HB.out.cell (p := ⟨b, off + i * 3, none⟩) (show b < w.heap.size by omega)).trans c0
      have c1 := (HB.out.cell (p := ⟨b, off + i * 3 + 1, none⟩) (show b < w.heap.size by omega)).trans c1
      have c2 := (HB.out.cell (p := ⟨b, off + i * 3 + 2, none⟩) (show b < w.heap.size by omega)).trans c2
      have g1 : (i : Int) < (l.length : Int) := by omega
      have g2 : 0 ≤ (i : Int) := by omega
      have HSA := Lib.hid (fun W (hW : Below w.heap.size w W) => implSat_any (storedL (l.take i)) x.2.1 W (HG.out.below hW (Nat.le_refl _)))
      have HB2 : Hid (Below w.heap.size w (wr.alloc (.cells #[.string x.1, .int .i64 x.2.1, .int .i64 x.2.2] 79))) := Lib.hid (HB.out.alloc hz _)
      go_wp2_with fail
      refine (HSA.out _ HB2.out).mono ?_
      rintro e w5 ⟨rfl, hb5⟩
      have HB5 : Hid (Below w.heap.size w w5) := Lib.hid (HB2.out.trans (hb5.mono (by simp; omega)))
      have z5 := hb5.size
      have z6 : w.heap.size ≤ w5.heap.size := by simp at z5; omega
      clear hb5 z5
      go_wp2
      go_roundw
      case rel => exact ⟨i + 1, by omega, by go_num, by rw [HNX.out], HB5, z6⟩
      case measure => simp [intOf] <;> omega
    · obtain rfl : i = l.length := by omega
      rw [List.take_length]
      go_wp2
      go_ret
      exact ⟨rfl, HB.out⟩
set_option maxRecDepth 100000 in
theorem implLiveSum_any (hi : Nat) (v : Value) (l : List HoldD) (now : Int) (w : World) (hg : Handle w) (hn : l.length ≤ 1048576) (h : HoldsR.rd hi w [v] l) (hh : hi ≤ w.heap.size) :
    Calls Tryz.prog 29 #[v, .int .i64 now] w fun e w' => e = .returned (.int .i64 (storedL (liveL l now))) ∧ Below w.heap.size w w' := by
  have HL := Lib.hid (implLiveOnes_any hi v l now w hn h hh)
  have hl : (liveL l now).length ≤ 1048576 := Nat.le_trans (List.length_filter_le _ _) hn
  have HG := Lib.hid hg
  clear h hg
  generalize liveL l now = m at HL hl ⊢
  go_enter Tryz.func29, Tryz.ntmps29
  go_wp2_with fail
  refine HL.out.mono ?_
  rintro e w1 ⟨u, rfl, hm, hb⟩
  have HS := Lib.hid (implStored_any w1.heap.size u m w1 (HG.out.below hb (Nat.le_refl _)) hl hm.rd (Nat.le_refl _))
  have HB := Lib.hid hb
  have z := hb.size
  clear hm hb HL HG
  go_wp2_with fail
  refine HS.out.mono ?_
  rintro e w2 ⟨rfl, hb2⟩
  go_wp2
  go_ret
  exact ⟨rfl, HB.out.trans (hb2.mono z)⟩
end Go.Proofs.YtpeeagkfhdeagaaGreatDoor
/- A message's type: four digits; no conditions. -/
set_option linter.unusedVariables false
namespace Go.Proofs.YtpeeagkfhdeagaaGreatDoor
open Go.ChangeShapes Go.WideShapes Go.ChangeAt Go.RowKit

def mtiOk (s : ByteArray) : Bool := digs s && decide (s.size = 4)
set_option maxRecDepth 100000 in
theorem isMti_any (s : ByteArray) (w : World) (hs : s.size ≤ maxLen) :
    Calls Tryz.prog 127 #[.string s] w fun e w' => e = .returned (.bool (mtiOk s)) ∧ Below w.heap.size w w' := by
  by_cases h4 : s.size = 4
  · have HM : Hid (mtiOk s = digs s) := Lib.hid (by simp [mtiOk, h4])
    rw [HM.out]
    have h4' : ((s.size : Int) == 4) = true := by simp [h4]
    have HD := Lib.hid (fun w' => implDigits_any s w' hs)
    clear h4
    go_enter Tryz.func127, Tryz.ntmps127
    go_wp2_with fail
    refine (HD.out _).mono ?_
    rintro e w1 ⟨rfl, hb⟩
    go_wp2
    go_ret
    exact ⟨rfl, hb⟩
  · have HM : Hid (mtiOk s = false) := Lib.hid (by simp [mtiOk, h4])
    rw [HM.out]
    have h4' : ((s.size : Int) == 4) = false := by simp; omega
    clear h4
    go_enter Tryz.func127, Tryz.ntmps127
    go_wp2
    go_ret
    exact ⟨rfl, Below.refl _ _⟩
end Go.Proofs.YtpeeagkfhdeagaaGreatDoor
/- SlotOk of the program and what it calls; no conditions. -/
set_option linter.unusedVariables false
namespace Go.Proofs.YtpeeagkfhdeagaaGreatDoor
open Go.ChangeShapes Go.WideShapes Go.ChangeAt Go.RowKit

def traceOk (s : ByteArray) : Bool := digs s && decide (s.size = 6)
set_option maxRecDepth 100000 in
theorem isTrace_any (s : ByteArray) (w : World) (hs : s.size ≤ maxLen) :
    Calls Tryz.prog 126 #[.string s] w fun e w' => e = .returned (.bool (traceOk s)) ∧ Below w.heap.size w w' := by
  by_cases h4 : s.size = 6
  · have HM : Hid (traceOk s = digs s) := Lib.hid (by simp [traceOk, h4])
    rw [HM.out]
    have h4' : ((s.size : Int) == 6) = true := by simp [h4]
    have HD := Lib.hid (fun w' => implDigits_any s w' hs)
    clear h4
    go_enter Tryz.func126, Tryz.ntmps126
    go_wp2_with fail
    refine (HD.out _).mono ?_
    rintro e w1 ⟨rfl, hb⟩
    go_wp2
    go_ret
    exact ⟨rfl, hb⟩
  · have HM : Hid (traceOk s = false) := Lib.hid (by simp [traceOk, h4])
    rw [HM.out]
    have h4' : ((s.size : Int) == 6) = false := by simp; omega
    clear h4
    go_enter Tryz.func126, Tryz.ntmps126
    go_wp2
    go_ret
    exact ⟨rfl, Below.refl _ _⟩
set_option maxRecDepth 100000 in
theorem slotOk_parts (x : SlotD) : slotOk x = (traceOk x.1 && (mtiOk x.2.1 && inB (x.2.2.length : Int) 1 200)) := by
  unfold slotOk traceOk mtiOk
  simp only [Bool.and_assoc]
set_option maxRecDepth 100000 in
set_option maxHeartbeats 1600000 in
theorem implSlotOk_any (hi : Nat) (v : Value) (x : SlotD) (w : World) (hs1 : x.1.size ≤ maxLen) (hs2 : x.2.1.size ≤ maxLen) (h : rd .u8 hi w v x.2.2) :
    Calls Tryz.prog 118 #[.agg #[.string x.1, .string x.2.1, v]] w fun e w' => e = .returned (.bool (slotOk x)) ∧ Below w.heap.size w w' := by
  obtain ⟨A, c, rfl, -⟩ := h.form
  clear h
  have HT := Lib.hid (fun w => isTrace_any x.1 w hs1)
  have HM := Lib.hid (fun w => isMti_any x.2.1 w hs2)
  have HV := Lib.hid (slotOk_parts x)
  generalize traceOk x.1 = b1 at HT HV
  generalize mtiOk x.2.1 = b2 at HM HV
  rw [HV.out]
  clear hs1 hs2
  go_enter Tryz.func118, Tryz.ntmps118
  go_upto_region 1 with fail
  obtain ⟨W, hW⟩ : ∃ W, W = w.alloc (.cells #[.string x.1, .string x.2.1, .slice A x.2.2.length c] 82) := ⟨_, rfl⟩
  have b0 : bk W w.heap.size 82 [.string x.1, .string x.2.1, .slice A x.2.2.length c] := by rw [hW]; exact bk.new w _ _
  have HB0 : Hid (Below w.heap.size w W) := Lib.hid (by rw [hW]; exact (Below.refl _ _).alloc (Nat.le_refl _) _)
  have z0 := b0.lt
  rw [← hW]
  clear hW
  have B0 := Lib.hid b0
  obtain ⟨p0, p1, p2⟩ := b0.cells3
  clear b0
  go_wp2_with fail
  refine (HT.out W).mono ?_
  rintro e w1 ⟨rfl, hb1⟩
  have z1 := hb1.size
  have HB1 : Hid (Below w.heap.size w w1) := Lib.hid (HB0.out.trans (hb1.mono (by omega)))
  have B1 := Lib.hid (B0.out.below hb1 z0)
  clear hb1 p0 p1 p2 B0 HB0
  obtain ⟨p0, p1, p2⟩ := B1.out.cells3
  cases b1
  · go_wp2
    go_ret
    exact ⟨rfl, HB1.out⟩
  go_wp2_with fail
  refine (HM.out w1).mono ?_
  rintro e w2 ⟨rfl, hb2⟩
  have z2 := hb2.size
  have HB2 : Hid (Below w.heap.size w w2) := Lib.hid (HB1.out.trans (hb2.mono (by omega)))
  have B2 := Lib.hid (B1.out.below hb2 (by omega))
  clear hb2 p0 p1 p2 B1 HB1
  obtain ⟨p0, p1, p2⟩ := B2.out.cells3
  cases b2
  · go_wp2
    go_ret
    exact ⟨rfl, HB2.out⟩
  by_cases e1 : (1 : Int) ≤ (x.2.2.length : Int)
  · by_cases e2 : (x.2.2.length : Int) ≤ 200
    all_goals
      go_wp2
      go_ret
      exact ⟨by simp [inB]; omega, HB2.out⟩
  · go_wp2
    go_ret
    exact ⟨by simp [inB]; omega, HB2.out⟩
end Go.Proofs.YtpeeagkfhdeagaaGreatDoor
/- The key of a slot: compared as a struct, and what it reads as in a map; no conditions. -/
set_option linter.unusedVariables false
namespace Go.Proofs.YtpeeagkfhdeagaaGreatDoor
open Go.ChangeShapes Go.WideShapes Go.ChangeAt Go.RowKit
open Go.Maps (Keyed IsMap)

set_option maxRecDepth 100000 in
theorem str_beq (a b : ByteArray) : (a.toList == b.toList) = decide (a = b) := by
  by_cases h : a = b
  · subst h; simp
  · have h' : ¬ a.toList = b.toList := fun e => h (str_eq_list.1 e)
    rw [decide_eq_false h]; simpa using h'
set_option maxRecDepth 100000 in
theorem keyFields : (Tryz.prog.fieldsOf 125).toList.map (fun f => (f.type, f.offset, decide (f.name ≠ "_"))) = [(9, 0, true), (9, 1, true)] := by kernel_rfl
set_option maxRecDepth 100000 in
theorem keyUnder : Tryz.prog.underlying 125 = some (.struct (Tryz.prog.fieldsOf 125)) := by kernel_rfl
set_option maxRecDepth 100000 in
theorem keyEql (a b c d : ByteArray) (w : World) : (binOp .eql 125 (.agg #[.string a, .string b]) (.agg #[.string c, .string d])).run Tryz.prog w = .ok (.bool (decide (a = c) && decide (b = d))) w := by
  have hs : Tryz.prog.stoodInHeld 125 = false := by kernel_rfl
  rw [run_eql_struct, run_equalIn_struct w 9999 _ _ _ keyUnder hs, ← str_beq, ← str_beq]
  have hf := keyFields
  generalize (Tryz.prog.fieldsOf 125).toList = fs at hf
  have hl : fs.length = 2 := by simpa using congrArg List.length hf
  match fs, hl, hf with
  | [f, g], _, hf =>
    simp only [List.map_cons, List.map_nil, List.cons.injEq, Prod.mk.injEq, and_true, decide_eq_true_eq] at hf
    obtain ⟨⟨f1, f2, f3⟩, g1, g2, g3⟩ := hf
    have p1 : ∀ u v : Value, (Go.part 9 #[u, v] 0).run Tryz.prog w = .ok u w := fun u v => by kernel_rfl
    have p2 : ∀ u v : Value, (Go.part 9 #[u, v] 1).run Tryz.prog w = .ok v w := fun u v => by kernel_rfl
    have s1 := fun a b => run_equalIn_string (P := Tryz.prog) w 9998 9 a b Tryz.underlying9
    simp only [Op.eqFields, f1, f2, f3, g1, g2, g3, if_true, Sem.run_bind, Sem.run_ite, Sem.run_pure, p1, p2, s1, Result.andThen_ok, ne_eq, not_false_eq_true]
    cases (a.toList == c.toList) <;> cases (b.toList == d.toList) <;> simp
set_option maxRecDepth 100000 in
theorem keyLaidOut : laidOutB Tryz.prog = true := by kernel_rfl
set_option maxRecDepth 100000 in
theorem keyRow : (125 : TypeId) < Tryz.prog.types.size := of_decide_eq_true (by kernel_rfl)
set_option maxRecDepth 100000 in
theorem keyWide : (match Tryz.prog.underlying 125 with | some (.array _ _) | some (.struct _) => true | _ => false) = true := by rw [keyUnder]
set_option maxRecDepth 100000 in
theorem lawKey : Keyed Tryz.prog 125 := Keyed.of_law (deep_law_laid keyLaidOut (m := 2) (by omega) keyRow (by kernel_rfl) keyWide)
/-- what a key reads as -/
def keyLit (t m : ByteArray) : Lit := .string (keyBytes [.string t.data.toList, .string m.data.toList])
set_option maxRecDepth 100000 in
theorem keyFormed (u v : Value) : (Value.agg #[u, v]).formed Tryz.prog 125 = true := by
  have hc : Tryz.prog.cellsOf 125 = 2 := by kernel_rfl
  simp [Value.formed, hc]
set_option maxRecDepth 100000 in
theorem keyDeep : Tryz.prog.keyType 125 = true := by kernel_rfl
set_option maxRecDepth 100000 in
theorem keyOf_slot (t m : ByteArray) (ht : t.size ≤ maxLen) (hm : m.size ≤ maxLen) : keyOf Tryz.prog 125 (.agg #[.string t, .string m]) = some (keyLit t m) := by
  obtain ⟨N, hN⟩ : ∃ N, Tryz.prog.types.size = N + 1 := ⟨_, (Nat.succ_pred_eq_of_pos (Nat.lt_of_le_of_lt (Nat.zero_le _) keyRow)).symm⟩
  have hc : Tryz.prog.cellsOf 125 = 2 := by kernel_rfl
  have hcs : Tryz.prog.cellsOf 9 = 1 := by kernel_rfl
  have hk : Tryz.prog.keyLits (Tryz.prog.types.size + 1) 125 [.string t, .string m] = some [.string t.data.toList, .string m.data.toList] := by
    rw [hN]
    unfold Program.keyLits
    rw [keyUnder]
    have hf := keyFields
    have hall : (Tryz.prog.fieldsOf 125).all (·.name != "_") = true := by kernel_rfl
    simp only [List.length_cons, List.length_nil, hc, hall, and_self, if_true]
    generalize (Tryz.prog.fieldsOf 125).toList = fs at hf ⊢
    have hl : fs.length = 2 := by simpa using congrArg List.length hf
    match fs, hl, hf with
    | [f, g], _, hf =>
      simp only [List.map_cons, List.map_nil, List.cons.injEq, Prod.mk.injEq, and_true, decide_eq_true_eq] at hf
      obtain ⟨⟨f1, f2, -⟩, g1, g2, -⟩ := hf
      have h1 : ∀ s : ByteArray, s.size ≤ maxLen → Tryz.prog.keyLits (N + 1) 9 [.string s] = some [.string s.data.toList] := fun s hs => by
        unfold Program.keyLits
        rw [Tryz.underlying9]
        simp [hs]
      simp [f1, f2, g1, g2, hcs, h1 t ht, h1 m hm]
  unfold keyOf
  rw [keyUnder]
  have hcells : (Value.agg #[.string t, .string m]).cells.toList = [.string t, .string m] := rfl
  simp only [keyDeep, keyFormed, Bool.and_self, if_true, hcells, hk, Option.map_some]
  rfl
set_option maxRecDepth 100000 in
theorem keyLit_inj {t m t' m' : ByteArray} (ht : t.size ≤ maxLen) (hm : m.size ≤ maxLen) (ht' : t'.size ≤ maxLen) (hm' : m'.size ≤ maxLen) (h : keyLit t m = keyLit t' m') : t = t' ∧ m = m' := by
  have h1 := keyOf_slot t m ht hm
  have h2 := keyOf_slot t' m' ht' hm'
  rw [h] at h1
  have := lawKey.inj h1 h2
  simp only [Value.agg.injEq, Array.mk.injEq, List.cons.injEq, Value.string.injEq, and_true] at this
  exact this
set_option maxRecDepth 100000 in
theorem keyLit_key (t m : ByteArray) : WideAt.IsKeyLit (keyLit t m) := by simp [keyLit, WideAt.IsKeyLit]
/-- the map holds just the keys of the slots of the list -/
structure keysAre (D : DataW Unit) (L : List SlotD) : Prop where
  isMap : IsMap D
  at_ : ∀ t m : ByteArray, t.size ≤ maxLen → m.size ≤ maxLen → D.atKey (keyLit t m) (.lit (.bool false)) = .lit (.bool (L.any (isSlot t m)))
set_option maxRecDepth 100000 in
theorem keysAre.start : keysAre (.map [] : DataW Unit) [] := ⟨Maps.isMap_empty, fun t m _ _ => rfl⟩
set_option maxRecDepth 100000 in
theorem keysAre.snoc {D : DataW Unit} {L : List SlotD} {x : SlotD} (h : keysAre D L) (h1 : x.1.size ≤ maxLen) (h2 : x.2.1.size ≤ maxLen) : keysAre (D.put (keyLit x.1 x.2.1) (.lit (.bool true))) (L ++ [x]) := by
  refine ⟨h.isMap.put _ _, fun t m ht hm => ?_⟩
  rw [List.any_append]
  by_cases e : t = x.1 ∧ m = x.2.1
  · obtain ⟨rfl, rfl⟩ := e
    rw [Maps.atKey_put_same h.isMap (keyLit_key _ _)]
    simp [isSlot]
  · have hne : keyLit t m ≠ keyLit x.1 x.2.1 := fun e' => e (keyLit_inj ht hm h1 h2 e')
    rw [Maps.atKey_put_other hne, h.at_ t m ht hm]
    have : isSlot t m x = false := by
      unfold isSlot
      rw [Bool.and_eq_false_iff]
      by_cases e1 : x.1 = t
      · exact .inr (decide_eq_false fun e2 => e ⟨e1.symm, e2.symm⟩)
      · exact .inl (decide_eq_false e1)
    simp [this]
set_option maxRecDepth 100000 in
theorem plainElem_bool_inv {P : Program} {e : TypeId} (he : P.underlying e = some .bool) {v : Value} {z : DataW Unit × List MemPlace} (h : plainElem P e v = some z) : ∃ b, v = .bool b ∧ z = (.lit (.bool b), []) := by
  unfold plainElem at h
  rw [he] at h
  split at h <;> simp_all
set_option maxRecDepth 100000 in
/-- the look-up of a bool, at the operation -/
theorem look_bool {P : Program} (w : World) {ops : Array Oper} {rest : List Oper} {o : Oper} {a : Act} {Q : Exit → Act → World → Prop}
    (hg : o.guard = none) (m x : Operand) (t : TypeId) (hop : o.op = Op.lookup t m x false)
    (k e : TypeId) (K : Keyed P k) (ht : P.underlying t = some (.map k e)) (he : P.underlying e = some .bool) (hz : (zeroValue e).run P w = .ok (.bool false) w) (b n : Nat) (D : DataW Unit)
    (hm : a.eval m = .map (some b)) (hown : w.ownsMap P k (plainElem P e) b n D) (key : Value) (kl : Lit) (hx : a.eval x = key) (hkey : keyOf P k key = some kl) (s : Bool) (hat : D.atKey kl (.lit (.bool false)) = .lit (.bool s))
    (hK : wpList P ops Q rest (a.put o.dst (.bool s)) w) :
    wpList P ops Q (o :: rest) a w := by
  refine wpList_plain hg fun K' hK' => ?_
  obtain ⟨v, ps, hrun, hv⟩ := hown.lookup K ht hz (plainElem_bool he false) hkey
  obtain ⟨c, rfl, hc⟩ := plainElem_bool_inv he hv
  rw [hat] at hc
  simp only [Prod.mk.injEq, DataW.lit.injEq, Lit.bool.injEq] at hc
  obtain rfl : s = c := hc.1
  unfold Oper.wp
  simp [execOp, hop, hm, hx, hrun, Result.andThen]
  exact hK' _ _ hK
set_option maxRecDepth 100000 in
theorem look_bool_run {P : Program} {w : World} {t k e : TypeId} (K : Keyed P k) (ht : P.underlying t = some (.map k e)) (he : P.underlying e = some .bool) (hz : (zeroValue e).run P w = .ok (.bool false) w) {b n : Nat} {D : DataW Unit}
    (hown : w.ownsMap P k (plainElem P e) b n D) {key : Value} {kl : Lit} (hkey : keyOf P k key = some kl) {s : Bool} (hat : D.atKey kl (.lit (.bool false)) = .lit (.bool s)) :
    (Instr.lookup t (.map (some b)) key false).run P w = .ok (.bool s) w := by
  obtain ⟨v, ps, hrun, hv⟩ := hown.lookup K ht hz (plainElem_bool he false) hkey
  obtain ⟨c, rfl, hc⟩ := plainElem_bool_inv he hv
  rw [hat] at hc
  simp only [Prod.mk.injEq, DataW.lit.injEq, Lit.bool.injEq] at hc
  obtain rfl : s = c := hc.1
  exact hrun
end Go.Proofs.YtpeeagkfhdeagaaGreatDoor
/- SlotsOk of the program: a map keyed by a struct; no conditions. -/
set_option linter.unusedVariables false
namespace Go.Proofs.YtpeeagkfhdeagaaGreatDoor
open Go.ChangeShapes Go.WideShapes Go.ChangeAt Go.RowKit
open Go.Maps (Keyed IsMap)

set_option maxRecDepth 100000 in
theorem implKeyOf_any (A : Option Addr) (n c : Nat) (s t : ByteArray) (w : World) :
    Calls Tryz.prog 117 #[.agg #[.string s, .string t, .slice A n c]] w fun e w' => e = .returned (.agg #[.string s, .string t]) ∧ Below w.heap.size w w' := by
  go_enter Tryz.func117, Tryz.ntmps117
  go_upto_region 1 with fail
  obtain ⟨W, hW⟩ : ∃ W, W = (w.alloc (.cells #[.string s, .string t, .slice A n c] 82)).alloc (.cells #[.string ⟨#[]⟩, .string ⟨#[]⟩] 125) := ⟨_, rfl⟩
  have b0 : bk W w.heap.size 82 [.string s, .string t, .slice A n c] := by rw [hW]; exact (bk.new w _ _).alloc _
  have b1 : bk W (w.heap.size + 1) 125 [.string ⟨#[]⟩, .string ⟨#[]⟩] := by rw [hW]; have := bk.new (w.alloc (.cells #[.string s, .string t, .slice A n c] 82)) 125 [.string ⟨#[]⟩, .string ⟨#[]⟩]; simpa using this
  have HB0 : Hid (Below w.heap.size w W) := Lib.hid (by rw [hW]; exact ((Below.refl _ _).alloc (Nat.le_refl _) _).alloc (by simp) _)
  rw [← hW]
  clear hW
  obtain ⟨p0, p1, p2⟩ := b0.cells3
  have q0 := b1.cell 0
  have q1 := b1.cell 1
  have f0 := b1.frozen 0
  have f1 := b1.frozen 1
  simp only [List.getElem?_cons_zero, List.getElem?_cons_succ] at q0 q1
  clear b0 b1
  go_wp2
  refine bodyPost_ret (v := .agg #[.string s, .string t]) (by simp [results, Tryz.results117, go_sem, q0, q1]) rfl ?_
  exact ⟨rfl, (HB0.out.setCell (p := ⟨w.heap.size + 1, 0, none⟩) (Nat.le_succ _) _).setCell (p := ⟨w.heap.size + 1, 1, none⟩) (Nat.le_succ _) _⟩
set_option maxRecDepth 100000 in
theorem zeroBool (w : World) : (zeroValue 4).run Tryz.prog w = .ok (.bool false) w := by kernel_rfl
/-- block b holds a map from keys to bools -/
abbrev keysAt (w : World) (b n : Nat) (D : DataW Unit) : Prop := w.ownsMap Tryz.prog 125 (plainElem Tryz.prog 4) b n D
set_option maxRecDepth 100000 in
theorem keys_look {w : World} {b n : Nat} {D : DataW Unit} {L : List SlotD} {x : SlotD} (ho : keysAt w b n D) (hk : keysAre D L) (h1 : x.1.size ≤ maxLen) (h2 : x.2.1.size ≤ maxLen) :
    (Instr.lookup 123 (.map (some b)) (.agg #[.string x.1, .string x.2.1]) false).run Tryz.prog w = .ok (.bool (L.any (isSlot x.1 x.2.1))) w :=
  look_bool_run lawKey Tryz.underlying123 Tryz.underlying4 (zeroBool w) ho (keyOf_slot _ _ h1 h2) (hk.at_ _ _ h1 h2)
set_option maxRecDepth 100000 in
theorem keysAt_below {w w' : World} {b n C : Nat} {D : DataW Unit} (h : keysAt w b n D) (hb : Below C w w') (hC : b < C) : keysAt w' b n D := by
  obtain ⟨es, clock, h1, rest⟩ := h
  exact ⟨es, clock, (hb.block b hC).trans h1, rest⟩
set_option maxRecDepth 100000 in
set_option maxHeartbeats 3200000 in
theorem implSlotsOk_any (hi : Nat) (v : Value) (l : List SlotD) (w : World) (hn : l.length ≤ 2000000) (hs : ∀ x ∈ l, x.1.size ≤ maxLen ∧ x.2.1.size ≤ maxLen) (h : SlotsR.rd hi w [v] l) (hh : hi ≤ w.heap.size) :
    Calls Tryz.prog 105 #[v] w fun e w' => e = .returned (.bool (slotsOk l)) ∧ Below w.heap.size w w' := by
  obtain ⟨A, c, rfl, hc, h⟩ := slots_rd h
  have HR := Lib.hid h
  have HS := Lib.hid hs
  clear h hs
  by_cases hbig : 6 < l.length
  · have HV : Hid (slotsOk l = false) := Lib.hid (by unfold slotsOk; rw [decide_eq_false (by omega), Bool.and_false])
    have g0 : (6 : Int) < (l.length : Int) := by omega
    go_enter Tryz.func105, Tryz.ntmps105
    go_wp2
    go_ret
    exact ⟨ret_bool HV.out.symm, Below.refl _ _⟩
  have g0 : ¬ (6 : Int) < (l.length : Int) := by omega
  have hmm := @run_makeMap Tryz.prog
  have HO0 := Lib.hid (World.ownsMap_made w Tryz.prog 125 (plainElem (H := Unit) Tryz.prog 4))
  have HB0 : Hid (Below w.heap.size w (w.alloc (.map #[] 0))) := Lib.hid ((Below.refl _ _).alloc (Nat.le_refl _) _)
  have z0 : w.heap.size < (w.alloc (.map #[] 0)).heap.size := by simp
  go_enter Tryz.func105, Tryz.ntmps105
  go_wp2
  go_loopw [13] (fun iv wr => ∃ (i : Nat) (D : DataW Unit), i ≤ l.length ∧ iv = .int .i64 i ∧ Hid (∀ j, j < i → slotAtOk l j = true) ∧ Hid (keysAt wr w.heap.size i D) ∧ Hid (keysAre D (l.take i)) ∧ Hid (Below w.heap.size w wr) ∧ w.heap.size < wr.heap.size) (fun iv _ => l.length - (intOf iv).toNat)
  case atStart => exact ⟨0, _, Nat.zero_le _, rfl, Lib.hid (fun j hj => absurd hj (by omega)), HO0, Lib.hid keysAre.start, HB0, z0⟩
  case round =>
    obtain ⟨i, D, hi', rfl, HN, HO, HD, HB, hz⟩ := hrel
    by_cases hin : i < l.length
    · obtain ⟨x, hx⟩ : ∃ x, l[i]? = some x := ⟨_, List.getElem?_eq_getElem hin⟩
      obtain ⟨b, off, A', c', rfl, hbl, d0, d1, d2, hrd⟩ := HR.out i x hx
      obtain ⟨hs1, hs2⟩ := HS.out x (List.mem_of_getElem? hx)
      have d0 := (HB.out.cell (p := ⟨b, off + i * 3, none⟩) (show b < w.heap.size by omega)).trans d0
      have d1 := (HB.out.cell (p := ⟨b, off + i * 3 + 1, none⟩) (show b < w.heap.size by omega)).trans d1
      have d2 := (HB.out.cell (p := ⟨b, off + i * 3 + 2, none⟩) (show b < w.heap.size by omega)).trans d2
      have HRD := Lib.hid hrd
      have HAT := Lib.hid (slot_at hx)
      have HTK : Hid (l.take (i + 1) = l.take i ++ [x]) := Lib.hid (by
        obtain ⟨h1, h2⟩ := List.getElem?_eq_some_iff.1 hx
        rw [List.take_succ_eq_append_getElem h1, h2])
      have HALL : Hid (((l.take i).all fun y => !isSlot x.1 x.2.1 y) = !(l.take i).any (isSlot x.1 x.2.1)) := Lib.hid (by rw [List.all_eq_not_any_not]; simp)
      have HSZ := Lib.hid (And.intro hs1 hs2)
      have g1 : (i : Int) < (l.length : Int) := by omega
      have g2 : 0 ≤ (i : Int) := by omega
      have g3 : (i : Int) ≤ (c : Int) := by omega
      clear hx hrd
      go_upto_region 7 with fail
      obtain ⟨W3, hW3⟩ : ∃ W3, W3 = wr.alloc (.cells #[.string x.1, .string x.2.1, .slice A' x.2.2.length c'] 82) := ⟨_, rfl⟩
      have b3 : bk W3 wr.heap.size 82 [.string x.1, .string x.2.1, .slice A' x.2.2.length c'] := by rw [hW3]; exact bk.new wr _ _
      have hb3 : Below wr.heap.size wr W3 := by rw [hW3]; exact (Below.refl _ _).alloc (Nat.le_refl _) _
      rw [← hW3]
      clear hW3
      have z3 := b3.lt
      have HB3 : Hid (Below w.heap.size w W3) := Lib.hid (HB.out.trans (hb3.mono (by omega)))
      have HO3 : Hid (keysAt W3 w.heap.size i D) := Lib.hid (keysAt_below HO.out hb3 (by omega))
      have HX3 := Lib.hid b3
      obtain ⟨q0, q1, q2⟩ := b3.cells3
      have HKY := Lib.hid (implKeyOf_any A' x.2.2.length c' x.1 x.2.1 W3)
      clear b3 hb3 HB HO d0 d1 d2
      go_wp2_with fail
      refine HKY.out.mono ?_
      rintro e w4 ⟨rfl, hb4⟩
      have z4 := hb4.size
      have HB4 : Hid (Below w.heap.size w w4) := Lib.hid (HB3.out.trans (hb4.mono (by omega)))
      have HX4 := Lib.hid (HX3.out.below hb4 z3)
      have HO4 : Hid (keysAt w4 w.heap.size i D) := Lib.hid (keysAt_below HO3.out hb4 (by omega))
      clear hb4 HX3 HB3 q0 q1 q2 HKY HO3
      go_upto_region 8 with fail
      obtain ⟨W5, hW5⟩ : ∃ W5, W5 = w4.alloc (.cells #[.string x.1, .string x.2.1] 125) := ⟨_, rfl⟩
      have b5 : bk W5 w4.heap.size 125 [.string x.1, .string x.2.1] := by rw [hW5]; exact bk.new w4 _ _
      have hb5 : Below w4.heap.size w4 W5 := by rw [hW5]; exact (Below.refl _ _).alloc (Nat.le_refl _) _
      rw [← hW5]
      clear hW5
      have z5 := b5.lt
      have HB5 : Hid (Below w.heap.size w W5) := Lib.hid (HB4.out.trans (hb5.mono (by omega)))
      have HX5 := Lib.hid (HX4.out.below hb5 (by omega))
      have HO5 : Hid (keysAt W5 w.heap.size i D) := Lib.hid (keysAt_below HO4.out hb5 (by omega))
      have HOK := Lib.hid (implSlotOk_any hi _ x W5 hs1 hs2 (HRD.out.below HB5.out hh))
      have HK5 := Lib.hid b5
      obtain ⟨q0, q1, q2⟩ := HX5.out.cells3
      clear b5 hb5 HX4 HB4 HO4 HRD
      generalize slotOk x = ok at HOK HAT
      go_wp2_with fail
      refine HOK.out.mono ?_
      rintro e w6 ⟨rfl, hb6⟩
      have z6 := hb6.size
      have HB6 : Hid (Below w.heap.size w w6) := Lib.hid (HB5.out.trans (hb6.mono (by omega)))
      have HO6 : Hid (keysAt w6 w.heap.size i D) := Lib.hid (keysAt_below HO5.out hb6 (by omega))
      have b6 := HK5.out.below hb6 (by omega)
      have k0 := b6.cell 0
      have k1 := b6.cell 1
      simp only [List.getElem?_cons_zero, List.getElem?_cons_succ] at k0 k1
      clear hb6 HX5 HB5 q0 q1 q2 HOK HO5 HK5 b6
      cases ok
      · have HV : Hid (slotsOk l = false) := Lib.hid (slots_ok_not hin (by rw [HAT.out]; rfl))
        go_wp2
        go_ret
        exact ⟨ret_bool HV.out.symm, HB6.out⟩
      have hlk := keys_look HO6.out HD.out HSZ.out.1 HSZ.out.2
      have HA2 := Lib.hid HALL.out
      clear HALL
      generalize (l.take i).any (isSlot x.1 x.2.1) = met at hlk HA2
      cases met
      · have HN2 : Hid (∀ j, j < i + 1 → slotAtOk l j = true) := Lib.hid (fun j hj => by
          by_cases e : j = i
          · subst e; rw [HAT.out, HA2.out]; rfl
          · exact HN.out j (by omega))
        have HD2 : Hid (keysAre (D.put (keyLit x.1 x.2.1) (.lit (.bool true))) (l.take (i + 1))) := Lib.hid (by rw [HTK.out]; exact HD.out.snoc HSZ.out.1 HSZ.out.2)
        have hkey := keyOf_slot x.1 x.2.1 HSZ.out.1 HSZ.out.2
        go_wp2_with (at_mapUpdate; refine wpList_mapUpdate_own _ rfl _ _ _ 123 rfl 125 4 lawKey Tryz.underlying123 _ w.heap.size i D rfl HO6.out (by unfold maxLen; omega) _ _ _ rfl rfl hkey _ [] (plainElem_bool Tryz.underlying4 true) ?_)
        intro w7 hown7 hg7
        have z7 : w6.heap.size ≤ w7.heap.size := hg7.size
        have HB7 : Hid (Below w.heap.size w w7) := Lib.hid (HB6.out.grown hg7 (by omega) (fun j hj => by cases hj; exact Nat.le_refl _))
        have HO7 : Hid (keysAt w7 w.heap.size (i + 1) (D.put (keyLit x.1 x.2.1) (.lit (.bool true)))) := Lib.hid hown7
        clear hown7 hg7 hkey hlk k0 k1
        go_wp2
        go_roundw
        case rel => exact ⟨i + 1, _, by omega, by go_num, HN2, HO7, HD2, HB7, by omega⟩
        case measure => simp [intOf] <;> omega
      · have HV : Hid (slotsOk l = false) := Lib.hid (slots_ok_not hin (by rw [HAT.out, HA2.out]; rfl))
        go_wp2
        go_ret
        exact ⟨ret_bool HV.out.symm, HB6.out⟩
    · obtain rfl : i = l.length := by omega
      have HV : Hid (slotsOk l = true) := Lib.hid (by rw [slots_ok_end HN.out]; exact decide_eq_true (by omega))
      go_wp2
      go_ret
      exact ⟨ret_bool HV.out.symm, HB.out⟩
end Go.Proofs.YtpeeagkfhdeagaaGreatDoor
/- The checks of an account in the program: ok, AcctOk, hasState; no conditions but the library's handle. -/
set_option linter.unusedVariables false
namespace Go.Proofs.YtpeeagkfhdeagaaGreatDoor
open Go.ChangeShapes Go.WideShapes Go.ChangeAt Go.RowKit

set_option maxRecDepth 100000 in
theorem acctOk_amts (a : AcctD) : acctOk a = (acctIdB (aId a) && (amtsB (aLim a) (aPos a) (aMost a) (aSum a) && (holdsOk (aH a) && (ringOk (aR a) && (slotsOk (aS a) && decide (satVal (aPos a) (storedL (aH a)) ≤ aLim a)))))) := by
  unfold acctOk acctHead acctTail amtsB
  cases acctIdB (aId a) <;> cases inB (aLim a) 0 9007199254740992 <;> cases inB (aMost a) 0 1000 <;> cases inB (aSum a) 0 9007199254740992 <;> cases isMon (aPos a) <;> rfl
set_option maxRecDepth 100000 in
set_option maxHeartbeats 8000000 in
theorem implOk_any (hi : Nat) (id : ByteArray) (lim pos most sum : Int) (hs : List HoldD) (sp hd : Int) (cs ss : List Int) (sl : List SlotD) (vh vc vs vl : Value) (w : World) (hg : Handle w) (y0 : id.size ≤ maxLen) (z1 : hs.length ≤ 1048576) (y1 : ∀ x ∈ hs, x.1.size ≤ maxLen) (z2 : cs.length ≤ 1048576) (z3 : ss.length ≤ 1048576) (z4 : sl.length ≤ 1048576) (y4 : ∀ x ∈ sl, x.1.size ≤ maxLen ∧ x.2.1.size ≤ maxLen) (r1 : HoldsR.rd hi w [vh] hs) (r2 : rd .i64 hi w vc cs) (r3 : rd .i64 hi w vs ss) (r4 : SlotsR.rd hi w [vl] sl) (hh : hi ≤ w.heap.size) :
    Calls Tryz.prog 90 #[.agg #[.int .i64 lim, .int .i64 pos, .int .i64 most, .int .i64 sum, .string id, vh, .int .i64 sp, .int .i64 hd, vc, vs, vl]] w fun e w' => e = .returned (.bool (acctOk (id, lim, pos, most, sum, hs, (sp, hd, cs, ss), sl))) ∧ Below w.heap.size w w' := by
  have HE : Hid (acctOk (id, lim, pos, most, sum, hs, (sp, hd, cs, ss), sl) = (acctIdB id && (amtsB lim pos most sum && (holdsOk hs && (ringOk (sp, hd, cs, ss) && (slotsOk sl && decide (satVal pos (storedL hs) ≤ lim))))))) := Lib.hid (acctOk_amts _)
  obtain ⟨AH, cH, rfl, -⟩ := Rep.slice_form r1
  obtain ⟨AC, cC, rfl, -⟩ := r2.form
  obtain ⟨AS, cS, rfl, -⟩ := r3.form
  obtain ⟨AL, cL, rfl, -⟩ := Rep.slice_form r4
  have HQ1 := Lib.hid (fun V (hV : Below w.heap.size w V) => implAcctIdOk_any id V y0)
  have HQ2 := Lib.hid (fun V (hV : Below w.heap.size w V) => implInRange_any lim pos most sum V)
  have HQ3 := Lib.hid (fun V (hV : Below w.heap.size w V) => implHoldsOk_any hi _ hs V z1 y1 (Rep.below (R := HoldsR) r1 hV hh) (Nat.le_trans hh hV.size))
  have HQ4 := Lib.hid (fun V (hV : Below w.heap.size w V) => implRingOk_any hi _ _ (sp, hd, cs, ss) V (r2.below hV hh) (r3.below hV hh) (Nat.le_trans hh hV.size) z2 z3)
  have HQ5 := Lib.hid (fun V (hV : Below w.heap.size w V) => implSlotsOk_any hi _ sl V (by omega) y4 (Rep.below (R := SlotsR) r4 hV hh) (Nat.le_trans hh hV.size))
  have HQ6 := Lib.hid (fun V (hV : Below w.heap.size w V) => implStored_any hi _ hs V (hg.below hV (Nat.le_refl _)) z1 (Rep.below (R := HoldsR) r1 hV hh) (Nat.le_trans hh hV.size))
  have HQ7 := Lib.hid (fun V (hV : Below w.heap.size w V) => implCovers_any lim pos most sum (storedL hs) V (hg.below hV (Nat.le_refl _)))
  clear r1 r2 r3 r4 y0 y1 y4 hg
  generalize decide (satVal pos (storedL hs) ≤ lim) = t6 at HE HQ7
  generalize storedL hs = st at HQ6 HQ7
  generalize acctOk (id, lim, pos, most, sum, hs, (sp, hd, cs, ss), sl) = res at HE ⊢
  generalize acctIdB id = t1 at HE HQ1
  generalize amtsB lim pos most sum = t2 at HE HQ2
  generalize holdsOk hs = t3 at HE HQ3
  generalize ringOk (sp, hd, cs, ss) = t4 at HE HQ4
  generalize slotsOk sl = t5 at HE HQ5
  go_enter Tryz.func90, Tryz.ntmps90
  go_upto_region 1 with fail
  obtain ⟨W, hW⟩ : ∃ W, W = w.alloc (.cells #[.int .i64 lim, .int .i64 pos, .int .i64 most, .int .i64 sum, .string id, .slice AH hs.length cH, .int .i64 sp, .int .i64 hd, .slice AC cs.length cC, .slice AS ss.length cS, .slice AL sl.length cL] 53) := ⟨_, rfl⟩
  have b0 : bk W w.heap.size 53 [.int .i64 lim, .int .i64 pos, .int .i64 most, .int .i64 sum, .string id, .slice AH hs.length cH, .int .i64 sp, .int .i64 hd, .slice AC cs.length cC, .slice AS ss.length cS, .slice AL sl.length cL] := by rw [hW]; exact bk.new w _ _
  have HB0 : Hid (Below w.heap.size w W) := Lib.hid (by rw [hW]; exact (Below.refl _ _).alloc (Nat.le_refl _) _)
  rw [← hW]
  clear hW
  obtain ⟨⟨p0, p1, p2, p3, p4, p5, p6, p7, p8, p9, p10⟩, -⟩ := b0.eleven
  have z0 := b0.lt
  have P0 := Lib.hid p0
  have P1 := Lib.hid p1
  have P2 := Lib.hid p2
  have P3 := Lib.hid p3
  have P4 := Lib.hid p4
  have P5 := Lib.hid p5
  have P6 := Lib.hid p6
  have P7 := Lib.hid p7
  have P8 := Lib.hid p8
  have P9 := Lib.hid p9
  have P10 := Lib.hid p10
  clear p0 p1 p2 p3 p4 p5 p6 p7 p8 p9 p10 b0
  have HBX : Hid (∀ V, Ext W V → Below w.heap.size w V) := Lib.hid fun V hV => HB0.out.trans (hV.below.mono (by omega))
  have HX : Hid (Ext W W.drew) := Lib.hid (Ext.refl W).drew
  cases t1
  · refine quiet_region (C := Ext W) (by kernel_rfl) (by kernel_rfl) HX.out ?_
    repeat (first
      | go_big_quiet_skip
      | (go_big_quiet_want; go_big_quiet_op; go_big_quiet_on)
      | (go_big_quiet_want; go_big_quiet_op; apply Exists.intro; refine ⟨fun _ _ => rfl, ?_⟩; go_big_quiet_on)
      | (go_big_quiet_want
         apply Exists.intro
         refine ⟨fun V hV => ?_, ?_⟩
         (have q0 := hV.cell P0.out (by omega)
          have q1 := hV.cell P1.out (by omega)
          have q2 := hV.cell P2.out (by omega)
          have q3 := hV.cell P3.out (by omega)
          have q4 := hV.cell P4.out (by omega)
          have q5 := hV.cell P5.out (by omega)
          have q6 := hV.cell P6.out (by omega)
          have q7 := hV.cell P7.out (by omega)
          have q8 := hV.cell P8.out (by omega)
          have q9 := hV.cell P9.out (by omega)
          have q10 := hV.cell P10.out (by omega)
          unfold Oper.quietAt
          go_simp
          rfl)
         simp only [Act.put, List.setIfInBounds_toArray, List.set_cons_zero, List.set_cons_succ]
         go_big_quiet_on)
      | (go_big_quiet_want
         apply Exists.intro
         refine ⟨fun V hV => ?_, ?_⟩
         (unfold Oper.quietAt
          go_simp
          go_at_call 102
          (with_reducible refine (HQ1.out V (HBX.out V hV)).mono ?_)
          rintro e w4 ⟨rfl, hb4⟩
          exact ⟨rfl, hV.step hb4⟩)
         simp only [Act.put, List.setIfInBounds_toArray, List.set_cons_zero, List.set_cons_succ]
         go_big_quiet_on)
      | (go_big_quiet_want
         apply Exists.intro
         refine ⟨fun V hV => ?_, ?_⟩
         (unfold Oper.quietAt
          go_simp
          go_at_call 103
          (with_reducible refine (HQ2.out V (HBX.out V hV)).mono ?_)
          rintro e w4 ⟨rfl, hb4⟩
          exact ⟨rfl, hV.step hb4⟩)
         simp only [Act.put, List.setIfInBounds_toArray, List.set_cons_zero, List.set_cons_succ]
         go_big_quiet_on)
      | (go_big_quiet_want
         apply Exists.intro
         refine ⟨fun V hV => ?_, ?_⟩
         (unfold Oper.quietAt
          go_simp
          go_at_call 104
          (with_reducible refine (HQ3.out V (HBX.out V hV)).mono ?_)
          rintro e w4 ⟨rfl, hb4⟩
          exact ⟨rfl, hV.step hb4⟩)
         simp only [Act.put, List.setIfInBounds_toArray, List.set_cons_zero, List.set_cons_succ]
         go_big_quiet_on)
      | (go_big_quiet_want
         apply Exists.intro
         refine ⟨fun V hV => ?_, ?_⟩
         (unfold Oper.quietAt
          go_simp
          go_at_call 97
          (with_reducible refine (HQ4.out V (HBX.out V hV)).mono ?_)
          rintro e w4 ⟨rfl, hb4⟩
          exact ⟨rfl, hV.step hb4⟩)
         simp only [Act.put, List.setIfInBounds_toArray, List.set_cons_zero, List.set_cons_succ]
         go_big_quiet_on)
      | (go_big_quiet_want
         apply Exists.intro
         refine ⟨fun V hV => ?_, ?_⟩
         (unfold Oper.quietAt
          go_simp
          go_at_call 105
          (with_reducible refine (HQ5.out V (HBX.out V hV)).mono ?_)
          rintro e w4 ⟨rfl, hb4⟩
          exact ⟨rfl, hV.step hb4⟩)
         simp only [Act.put, List.setIfInBounds_toArray, List.set_cons_zero, List.set_cons_succ]
         go_big_quiet_on)
      | (go_big_quiet_want
         apply Exists.intro
         refine ⟨fun V hV => ?_, ?_⟩
         (unfold Oper.quietAt
          go_simp
          go_at_call 61
          (with_reducible refine (HQ6.out V (HBX.out V hV)).mono ?_)
          rintro e w4 ⟨rfl, hb4⟩
          exact ⟨rfl, hV.step hb4⟩)
         simp only [Act.put, List.setIfInBounds_toArray, List.set_cons_zero, List.set_cons_succ]
         go_big_quiet_on)
      | (go_big_quiet_want
         apply Exists.intro
         refine ⟨fun V hV => ?_, ?_⟩
         (unfold Oper.quietAt
          go_simp
          go_at_call 106
          (with_reducible refine (HQ7.out V (HBX.out V hV)).mono ?_)
          rintro e w4 ⟨rfl, hb4⟩
          exact ⟨rfl, hV.step hb4⟩)
         simp only [Act.put, List.setIfInBounds_toArray, List.set_cons_zero, List.set_cons_succ]
         go_big_quiet_on)
      | fail)
    refine wpQuiet_nil ?_
    intro W4 hW4
    go_wp2
    go_ret
    exact ⟨by rw [HE.out]; rfl, HBX.out W4 hW4⟩
  cases t2
  · refine quiet_region (C := Ext W) (by kernel_rfl) (by kernel_rfl) HX.out ?_
    repeat (first
      | go_big_quiet_skip
      | (go_big_quiet_want; go_big_quiet_op; go_big_quiet_on)
      | (go_big_quiet_want; go_big_quiet_op; apply Exists.intro; refine ⟨fun _ _ => rfl, ?_⟩; go_big_quiet_on)
      | (go_big_quiet_want
         apply Exists.intro
         refine ⟨fun V hV => ?_, ?_⟩
         (have q0 := hV.cell P0.out (by omega)
          have q1 := hV.cell P1.out (by omega)
          have q2 := hV.cell P2.out (by omega)
          have q3 := hV.cell P3.out (by omega)
          have q4 := hV.cell P4.out (by omega)
          have q5 := hV.cell P5.out (by omega)
          have q6 := hV.cell P6.out (by omega)
          have q7 := hV.cell P7.out (by omega)
          have q8 := hV.cell P8.out (by omega)
          have q9 := hV.cell P9.out (by omega)
          have q10 := hV.cell P10.out (by omega)
          unfold Oper.quietAt
          go_simp
          rfl)
         simp only [Act.put, List.setIfInBounds_toArray, List.set_cons_zero, List.set_cons_succ]
         go_big_quiet_on)
      | (go_big_quiet_want
         apply Exists.intro
         refine ⟨fun V hV => ?_, ?_⟩
         (unfold Oper.quietAt
          go_simp
          go_at_call 102
          (with_reducible refine (HQ1.out V (HBX.out V hV)).mono ?_)
          rintro e w4 ⟨rfl, hb4⟩
          exact ⟨rfl, hV.step hb4⟩)
         simp only [Act.put, List.setIfInBounds_toArray, List.set_cons_zero, List.set_cons_succ]
         go_big_quiet_on)
      | (go_big_quiet_want
         apply Exists.intro
         refine ⟨fun V hV => ?_, ?_⟩
         (unfold Oper.quietAt
          go_simp
          go_at_call 103
          (with_reducible refine (HQ2.out V (HBX.out V hV)).mono ?_)
          rintro e w4 ⟨rfl, hb4⟩
          exact ⟨rfl, hV.step hb4⟩)
         simp only [Act.put, List.setIfInBounds_toArray, List.set_cons_zero, List.set_cons_succ]
         go_big_quiet_on)
      | (go_big_quiet_want
         apply Exists.intro
         refine ⟨fun V hV => ?_, ?_⟩
         (unfold Oper.quietAt
          go_simp
          go_at_call 104
          (with_reducible refine (HQ3.out V (HBX.out V hV)).mono ?_)
          rintro e w4 ⟨rfl, hb4⟩
          exact ⟨rfl, hV.step hb4⟩)
         simp only [Act.put, List.setIfInBounds_toArray, List.set_cons_zero, List.set_cons_succ]
         go_big_quiet_on)
      | (go_big_quiet_want
         apply Exists.intro
         refine ⟨fun V hV => ?_, ?_⟩
         (unfold Oper.quietAt
          go_simp
          go_at_call 97
          (with_reducible refine (HQ4.out V (HBX.out V hV)).mono ?_)
          rintro e w4 ⟨rfl, hb4⟩
          exact ⟨rfl, hV.step hb4⟩)
         simp only [Act.put, List.setIfInBounds_toArray, List.set_cons_zero, List.set_cons_succ]
         go_big_quiet_on)
      | (go_big_quiet_want
         apply Exists.intro
         refine ⟨fun V hV => ?_, ?_⟩
         (unfold Oper.quietAt
          go_simp
          go_at_call 105
          (with_reducible refine (HQ5.out V (HBX.out V hV)).mono ?_)
          rintro e w4 ⟨rfl, hb4⟩
          exact ⟨rfl, hV.step hb4⟩)
         simp only [Act.put, List.setIfInBounds_toArray, List.set_cons_zero, List.set_cons_succ]
         go_big_quiet_on)
      | (go_big_quiet_want
         apply Exists.intro
         refine ⟨fun V hV => ?_, ?_⟩
         (unfold Oper.quietAt
          go_simp
          go_at_call 61
          (with_reducible refine (HQ6.out V (HBX.out V hV)).mono ?_)
          rintro e w4 ⟨rfl, hb4⟩
          exact ⟨rfl, hV.step hb4⟩)
         simp only [Act.put, List.setIfInBounds_toArray, List.set_cons_zero, List.set_cons_succ]
         go_big_quiet_on)
      | (go_big_quiet_want
         apply Exists.intro
         refine ⟨fun V hV => ?_, ?_⟩
         (unfold Oper.quietAt
          go_simp
          go_at_call 106
          (with_reducible refine (HQ7.out V (HBX.out V hV)).mono ?_)
          rintro e w4 ⟨rfl, hb4⟩
          exact ⟨rfl, hV.step hb4⟩)
         simp only [Act.put, List.setIfInBounds_toArray, List.set_cons_zero, List.set_cons_succ]
         go_big_quiet_on)
      | fail)
    refine wpQuiet_nil ?_
    intro W4 hW4
    go_wp2
    go_ret
    exact ⟨by rw [HE.out]; rfl, HBX.out W4 hW4⟩
  cases t3
  · refine quiet_region (C := Ext W) (by kernel_rfl) (by kernel_rfl) HX.out ?_
    repeat (first
      | go_big_quiet_skip
      | (go_big_quiet_want; go_big_quiet_op; go_big_quiet_on)
      | (go_big_quiet_want; go_big_quiet_op; apply Exists.intro; refine ⟨fun _ _ => rfl, ?_⟩; go_big_quiet_on)
      | (go_big_quiet_want
         apply Exists.intro
         refine ⟨fun V hV => ?_, ?_⟩
         (have q0 := hV.cell P0.out (by omega)
          have q1 := hV.cell P1.out (by omega)
          have q2 := hV.cell P2.out (by omega)
          have q3 := hV.cell P3.out (by omega)
          have q4 := hV.cell P4.out (by omega)
          have q5 := hV.cell P5.out (by omega)
          have q6 := hV.cell P6.out (by omega)
          have q7 := hV.cell P7.out (by omega)
          have q8 := hV.cell P8.out (by omega)
          have q9 := hV.cell P9.out (by omega)
          have q10 := hV.cell P10.out (by omega)
          unfold Oper.quietAt
          go_simp
          rfl)
         simp only [Act.put, List.setIfInBounds_toArray, List.set_cons_zero, List.set_cons_succ]
         go_big_quiet_on)
      | (go_big_quiet_want
         apply Exists.intro
         refine ⟨fun V hV => ?_, ?_⟩
         (unfold Oper.quietAt
          go_simp
          go_at_call 102
          (with_reducible refine (HQ1.out V (HBX.out V hV)).mono ?_)
          rintro e w4 ⟨rfl, hb4⟩
          exact ⟨rfl, hV.step hb4⟩)
         simp only [Act.put, List.setIfInBounds_toArray, List.set_cons_zero, List.set_cons_succ]
         go_big_quiet_on)
      | (go_big_quiet_want
         apply Exists.intro
         refine ⟨fun V hV => ?_, ?_⟩
         (unfold Oper.quietAt
          go_simp
          go_at_call 103
          (with_reducible refine (HQ2.out V (HBX.out V hV)).mono ?_)
          rintro e w4 ⟨rfl, hb4⟩
          exact ⟨rfl, hV.step hb4⟩)
         simp only [Act.put, List.setIfInBounds_toArray, List.set_cons_zero, List.set_cons_succ]
         go_big_quiet_on)
      | (go_big_quiet_want
         apply Exists.intro
         refine ⟨fun V hV => ?_, ?_⟩
         (unfold Oper.quietAt
          go_simp
          go_at_call 104
          (with_reducible refine (HQ3.out V (HBX.out V hV)).mono ?_)
          rintro e w4 ⟨rfl, hb4⟩
          exact ⟨rfl, hV.step hb4⟩)
         simp only [Act.put, List.setIfInBounds_toArray, List.set_cons_zero, List.set_cons_succ]
         go_big_quiet_on)
      | (go_big_quiet_want
         apply Exists.intro
         refine ⟨fun V hV => ?_, ?_⟩
         (unfold Oper.quietAt
          go_simp
          go_at_call 97
          (with_reducible refine (HQ4.out V (HBX.out V hV)).mono ?_)
          rintro e w4 ⟨rfl, hb4⟩
          exact ⟨rfl, hV.step hb4⟩)
         simp only [Act.put, List.setIfInBounds_toArray, List.set_cons_zero, List.set_cons_succ]
         go_big_quiet_on)
      | (go_big_quiet_want
         apply Exists.intro
         refine ⟨fun V hV => ?_, ?_⟩
         (unfold Oper.quietAt
          go_simp
          go_at_call 105
          (with_reducible refine (HQ5.out V (HBX.out V hV)).mono ?_)
          rintro e w4 ⟨rfl, hb4⟩
          exact ⟨rfl, hV.step hb4⟩)
         simp only [Act.put, List.setIfInBounds_toArray, List.set_cons_zero, List.set_cons_succ]
         go_big_quiet_on)
      | (go_big_quiet_want
         apply Exists.intro
         refine ⟨fun V hV => ?_, ?_⟩
         (unfold Oper.quietAt
          go_simp
          go_at_call 61
          (with_reducible refine (HQ6.out V (HBX.out V hV)).mono ?_)
          rintro e w4 ⟨rfl, hb4⟩
          exact ⟨rfl, hV.step hb4⟩)
         simp only [Act.put, List.setIfInBounds_toArray, List.set_cons_zero, List.set_cons_succ]
         go_big_quiet_on)
      | (go_big_quiet_want
         apply Exists.intro
         refine ⟨fun V hV => ?_, ?_⟩
         (unfold Oper.quietAt
          go_simp
          go_at_call 106
          (with_reducible refine (HQ7.out V (HBX.out V hV)).mono ?_)
          rintro e w4 ⟨rfl, hb4⟩
          exact ⟨rfl, hV.step hb4⟩)
         simp only [Act.put, List.setIfInBounds_toArray, List.set_cons_zero, List.set_cons_succ]
         go_big_quiet_on)
      | fail)
    refine wpQuiet_nil ?_
    intro W4 hW4
    go_wp2
    go_ret
    exact ⟨by rw [HE.out]; rfl, HBX.out W4 hW4⟩
  cases t4
  · refine quiet_region (C := Ext W) (by kernel_rfl) (by kernel_rfl) HX.out ?_
    repeat (first
      | go_big_quiet_skip
      | (go_big_quiet_want; go_big_quiet_op; go_big_quiet_on)
      | (go_big_quiet_want; go_big_quiet_op; apply Exists.intro; refine ⟨fun _ _ => rfl, ?_⟩; go_big_quiet_on)
      | (go_big_quiet_want
         apply Exists.intro
         refine ⟨fun V hV => ?_, ?_⟩
         (have q0 := hV.cell P0.out (by omega)
          have q1 := hV.cell P1.out (by omega)
          have q2 := hV.cell P2.out (by omega)
          have q3 := hV.cell P3.out (by omega)
          have q4 := hV.cell P4.out (by omega)
          have q5 := hV.cell P5.out (by omega)
          have q6 := hV.cell P6.out (by omega)
          have q7 := hV.cell P7.out (by omega)
          have q8 := hV.cell P8.out (by omega)
          have q9 := hV.cell P9.out (by omega)
          have q10 := hV.cell P10.out (by omega)
          unfold Oper.quietAt
          go_simp
          rfl)
         simp only [Act.put, List.setIfInBounds_toArray, List.set_cons_zero, List.set_cons_succ]
         go_big_quiet_on)
      | (go_big_quiet_want
         apply Exists.intro
         refine ⟨fun V hV => ?_, ?_⟩
         (unfold Oper.quietAt
          go_simp
          go_at_call 102
          (with_reducible refine (HQ1.out V (HBX.out V hV)).mono ?_)
          rintro e w4 ⟨rfl, hb4⟩
          exact ⟨rfl, hV.step hb4⟩)
         simp only [Act.put, List.setIfInBounds_toArray, List.set_cons_zero, List.set_cons_succ]
         go_big_quiet_on)
      | (go_big_quiet_want
         apply Exists.intro
         refine ⟨fun V hV => ?_, ?_⟩
         (unfold Oper.quietAt
          go_simp
          go_at_call 103
          (with_reducible refine (HQ2.out V (HBX.out V hV)).mono ?_)
          rintro e w4 ⟨rfl, hb4⟩
          exact ⟨rfl, hV.step hb4⟩)
         simp only [Act.put, List.setIfInBounds_toArray, List.set_cons_zero, List.set_cons_succ]
         go_big_quiet_on)
      | (go_big_quiet_want
         apply Exists.intro
         refine ⟨fun V hV => ?_, ?_⟩
         (unfold Oper.quietAt
          go_simp
          go_at_call 104
          (with_reducible refine (HQ3.out V (HBX.out V hV)).mono ?_)
          rintro e w4 ⟨rfl, hb4⟩
          exact ⟨rfl, hV.step hb4⟩)
         simp only [Act.put, List.setIfInBounds_toArray, List.set_cons_zero, List.set_cons_succ]
         go_big_quiet_on)
      | (go_big_quiet_want
         apply Exists.intro
         refine ⟨fun V hV => ?_, ?_⟩
         (unfold Oper.quietAt
          go_simp
          go_at_call 97
          (with_reducible refine (HQ4.out V (HBX.out V hV)).mono ?_)
          rintro e w4 ⟨rfl, hb4⟩
          exact ⟨rfl, hV.step hb4⟩)
         simp only [Act.put, List.setIfInBounds_toArray, List.set_cons_zero, List.set_cons_succ]
         go_big_quiet_on)
      | (go_big_quiet_want
         apply Exists.intro
         refine ⟨fun V hV => ?_, ?_⟩
         (unfold Oper.quietAt
          go_simp
          go_at_call 105
          (with_reducible refine (HQ5.out V (HBX.out V hV)).mono ?_)
          rintro e w4 ⟨rfl, hb4⟩
          exact ⟨rfl, hV.step hb4⟩)
         simp only [Act.put, List.setIfInBounds_toArray, List.set_cons_zero, List.set_cons_succ]
         go_big_quiet_on)
      | (go_big_quiet_want
         apply Exists.intro
         refine ⟨fun V hV => ?_, ?_⟩
         (unfold Oper.quietAt
          go_simp
          go_at_call 61
          (with_reducible refine (HQ6.out V (HBX.out V hV)).mono ?_)
          rintro e w4 ⟨rfl, hb4⟩
          exact ⟨rfl, hV.step hb4⟩)
         simp only [Act.put, List.setIfInBounds_toArray, List.set_cons_zero, List.set_cons_succ]
         go_big_quiet_on)
      | (go_big_quiet_want
         apply Exists.intro
         refine ⟨fun V hV => ?_, ?_⟩
         (unfold Oper.quietAt
          go_simp
          go_at_call 106
          (with_reducible refine (HQ7.out V (HBX.out V hV)).mono ?_)
          rintro e w4 ⟨rfl, hb4⟩
          exact ⟨rfl, hV.step hb4⟩)
         simp only [Act.put, List.setIfInBounds_toArray, List.set_cons_zero, List.set_cons_succ]
         go_big_quiet_on)
      | fail)
    refine wpQuiet_nil ?_
    intro W4 hW4
    go_wp2
    go_ret
    exact ⟨by rw [HE.out]; rfl, HBX.out W4 hW4⟩
  cases t5
  · refine quiet_region (C := Ext W) (by kernel_rfl) (by kernel_rfl) HX.out ?_
    repeat (first
      | go_big_quiet_skip
      | (go_big_quiet_want; go_big_quiet_op; go_big_quiet_on)
      | (go_big_quiet_want; go_big_quiet_op; apply Exists.intro; refine ⟨fun _ _ => rfl, ?_⟩; go_big_quiet_on)
      | (go_big_quiet_want
         apply Exists.intro
         refine ⟨fun V hV => ?_, ?_⟩
         (have q0 := hV.cell P0.out (by omega)
          have q1 := hV.cell P1.out (by omega)
          have q2 := hV.cell P2.out (by omega)
          have q3 := hV.cell P3.out (by omega)
          have q4 := hV.cell P4.out (by omega)
          have q5 := hV.cell P5.out (by omega)
          have q6 := hV.cell P6.out (by omega)
          have q7 := hV.cell P7.out (by omega)
          have q8 := hV.cell P8.out (by omega)
          have q9 := hV.cell P9.out (by omega)
          have q10 := hV.cell P10.out (by omega)
          unfold Oper.quietAt
          go_simp
          rfl)
         simp only [Act.put, List.setIfInBounds_toArray, List.set_cons_zero, List.set_cons_succ]
         go_big_quiet_on)
      | (go_big_quiet_want
         apply Exists.intro
         refine ⟨fun V hV => ?_, ?_⟩
         (unfold Oper.quietAt
          go_simp
          go_at_call 102
          (with_reducible refine (HQ1.out V (HBX.out V hV)).mono ?_)
          rintro e w4 ⟨rfl, hb4⟩
          exact ⟨rfl, hV.step hb4⟩)
         simp only [Act.put, List.setIfInBounds_toArray, List.set_cons_zero, List.set_cons_succ]
         go_big_quiet_on)
      | (go_big_quiet_want
         apply Exists.intro
         refine ⟨fun V hV => ?_, ?_⟩
         (unfold Oper.quietAt
          go_simp
          go_at_call 103
          (with_reducible refine (HQ2.out V (HBX.out V hV)).mono ?_)
          rintro e w4 ⟨rfl, hb4⟩
          exact ⟨rfl, hV.step hb4⟩)
         simp only [Act.put, List.setIfInBounds_toArray, List.set_cons_zero, List.set_cons_succ]
         go_big_quiet_on)
      | (go_big_quiet_want
         apply Exists.intro
         refine ⟨fun V hV => ?_, ?_⟩
         (unfold Oper.quietAt
          go_simp
          go_at_call 104
          (with_reducible refine (HQ3.out V (HBX.out V hV)).mono ?_)
          rintro e w4 ⟨rfl, hb4⟩
          exact ⟨rfl, hV.step hb4⟩)
         simp only [Act.put, List.setIfInBounds_toArray, List.set_cons_zero, List.set_cons_succ]
         go_big_quiet_on)
      | (go_big_quiet_want
         apply Exists.intro
         refine ⟨fun V hV => ?_, ?_⟩
         (unfold Oper.quietAt
          go_simp
          go_at_call 97
          (with_reducible refine (HQ4.out V (HBX.out V hV)).mono ?_)
          rintro e w4 ⟨rfl, hb4⟩
          exact ⟨rfl, hV.step hb4⟩)
         simp only [Act.put, List.setIfInBounds_toArray, List.set_cons_zero, List.set_cons_succ]
         go_big_quiet_on)
      | (go_big_quiet_want
         apply Exists.intro
         refine ⟨fun V hV => ?_, ?_⟩
         (unfold Oper.quietAt
          go_simp
          go_at_call 105
          (with_reducible refine (HQ5.out V (HBX.out V hV)).mono ?_)
          rintro e w4 ⟨rfl, hb4⟩
          exact ⟨rfl, hV.step hb4⟩)
         simp only [Act.put, List.setIfInBounds_toArray, List.set_cons_zero, List.set_cons_succ]
         go_big_quiet_on)
      | (go_big_quiet_want
         apply Exists.intro
         refine ⟨fun V hV => ?_, ?_⟩
         (unfold Oper.quietAt
          go_simp
          go_at_call 61
          (with_reducible refine (HQ6.out V (HBX.out V hV)).mono ?_)
          rintro e w4 ⟨rfl, hb4⟩
          exact ⟨rfl, hV.step hb4⟩)
         simp only [Act.put, List.setIfInBounds_toArray, List.set_cons_zero, List.set_cons_succ]
         go_big_quiet_on)
      | (go_big_quiet_want
         apply Exists.intro
         refine ⟨fun V hV => ?_, ?_⟩
         (unfold Oper.quietAt
          go_simp
          go_at_call 106
          (with_reducible refine (HQ7.out V (HBX.out V hV)).mono ?_)
          rintro e w4 ⟨rfl, hb4⟩
          exact ⟨rfl, hV.step hb4⟩)
         simp only [Act.put, List.setIfInBounds_toArray, List.set_cons_zero, List.set_cons_succ]
         go_big_quiet_on)
      | fail)
    refine wpQuiet_nil ?_
    intro W4 hW4
    go_wp2
    go_ret
    exact ⟨by rw [HE.out]; rfl, HBX.out W4 hW4⟩
  · refine quiet_region (C := Ext W) (by kernel_rfl) (by kernel_rfl) HX.out ?_
    repeat (first
      | go_big_quiet_skip
      | (go_big_quiet_want; go_big_quiet_op; go_big_quiet_on)
      | (go_big_quiet_want; go_big_quiet_op; apply Exists.intro; refine ⟨fun _ _ => rfl, ?_⟩; go_big_quiet_on)
      | (go_big_quiet_want
         apply Exists.intro
         refine ⟨fun V hV => ?_, ?_⟩
         (have q0 := hV.cell P0.out (by omega)
          have q1 := hV.cell P1.out (by omega)
          have q2 := hV.cell P2.out (by omega)
          have q3 := hV.cell P3.out (by omega)
          have q4 := hV.cell P4.out (by omega)
          have q5 := hV.cell P5.out (by omega)
          have q6 := hV.cell P6.out (by omega)
          have q7 := hV.cell P7.out (by omega)
          have q8 := hV.cell P8.out (by omega)
          have q9 := hV.cell P9.out (by omega)
          have q10 := hV.cell P10.out (by omega)
          unfold Oper.quietAt
          go_simp
          rfl)
         simp only [Act.put, List.setIfInBounds_toArray, List.set_cons_zero, List.set_cons_succ]
         go_big_quiet_on)
      | (go_big_quiet_want
         apply Exists.intro
         refine ⟨fun V hV => ?_, ?_⟩
         (unfold Oper.quietAt
          go_simp
          go_at_call 102
          (with_reducible refine (HQ1.out V (HBX.out V hV)).mono ?_)
          rintro e w4 ⟨rfl, hb4⟩
          exact ⟨rfl, hV.step hb4⟩)
         simp only [Act.put, List.setIfInBounds_toArray, List.set_cons_zero, List.set_cons_succ]
         go_big_quiet_on)
      | (go_big_quiet_want
         apply Exists.intro
         refine ⟨fun V hV => ?_, ?_⟩
         (unfold Oper.quietAt
          go_simp
          go_at_call 103
          (with_reducible refine (HQ2.out V (HBX.out V hV)).mono ?_)
          rintro e w4 ⟨rfl, hb4⟩
          exact ⟨rfl, hV.step hb4⟩)
         simp only [Act.put, List.setIfInBounds_toArray, List.set_cons_zero, List.set_cons_succ]
         go_big_quiet_on)
      | (go_big_quiet_want
         apply Exists.intro
         refine ⟨fun V hV => ?_, ?_⟩
         (unfold Oper.quietAt
          go_simp
          go_at_call 104
          (with_reducible refine (HQ3.out V (HBX.out V hV)).mono ?_)
          rintro e w4 ⟨rfl, hb4⟩
          exact ⟨rfl, hV.step hb4⟩)
         simp only [Act.put, List.setIfInBounds_toArray, List.set_cons_zero, List.set_cons_succ]
         go_big_quiet_on)
      | (go_big_quiet_want
         apply Exists.intro
         refine ⟨fun V hV => ?_, ?_⟩
         (unfold Oper.quietAt
          go_simp
          go_at_call 97
          (with_reducible refine (HQ4.out V (HBX.out V hV)).mono ?_)
          rintro e w4 ⟨rfl, hb4⟩
          exact ⟨rfl, hV.step hb4⟩)
         simp only [Act.put, List.setIfInBounds_toArray, List.set_cons_zero, List.set_cons_succ]
         go_big_quiet_on)
      | (go_big_quiet_want
         apply Exists.intro
         refine ⟨fun V hV => ?_, ?_⟩
         (unfold Oper.quietAt
          go_simp
          go_at_call 105
          (with_reducible refine (HQ5.out V (HBX.out V hV)).mono ?_)
          rintro e w4 ⟨rfl, hb4⟩
          exact ⟨rfl, hV.step hb4⟩)
         simp only [Act.put, List.setIfInBounds_toArray, List.set_cons_zero, List.set_cons_succ]
         go_big_quiet_on)
      | (go_big_quiet_want
         apply Exists.intro
         refine ⟨fun V hV => ?_, ?_⟩
         (unfold Oper.quietAt
          go_simp
          go_at_call 61
          (with_reducible refine (HQ6.out V (HBX.out V hV)).mono ?_)
          rintro e w4 ⟨rfl, hb4⟩
          exact ⟨rfl, hV.step hb4⟩)
         simp only [Act.put, List.setIfInBounds_toArray, List.set_cons_zero, List.set_cons_succ]
         go_big_quiet_on)
      | (go_big_quiet_want
         apply Exists.intro
         refine ⟨fun V hV => ?_, ?_⟩
         (unfold Oper.quietAt
          go_simp
          go_at_call 106
          (with_reducible refine (HQ7.out V (HBX.out V hV)).mono ?_)
          rintro e w4 ⟨rfl, hb4⟩
          exact ⟨rfl, hV.step hb4⟩)
         simp only [Act.put, List.setIfInBounds_toArray, List.set_cons_zero, List.set_cons_succ]
         go_big_quiet_on)
      | fail)
    refine wpQuiet_nil ?_
    intro W4 hW4
    go_wp2
    go_ret
    exact ⟨by rw [HE.out]; rfl, HBX.out W4 hW4⟩
set_option maxRecDepth 100000 in
set_option maxHeartbeats 1600000 in
theorem implAcctOk_any (hi : Nat) (vh vc vs vl : Value) (a : AcctD) (w : World) (hg : Handle w) (hz : acctSmall 1048576 a) (hbig : acctBig a) (h : AcctR.rd hi w (aCells a vh vc vs vl) a) (hh : hi ≤ w.heap.size) :
    Calls Tryz.prog 59 #[.agg #[.string (aId a), .int .i64 (aLim a), .int .i64 (aPos a), .int .i64 (aMost a), .int .i64 (aSum a), vh, .int .i64 (aR a).1, .int .i64 (aR a).2.1, vc, vs, vl]] w fun e w' => e = .returned (.bool (acctOk a)) ∧ Below w.heap.size w w' := by
  obtain ⟨vh0, vc0, vs0, vl0, hcs, r1, r2, r3, r4⟩ := acct_rd h
  simp only [aCells, List.cons.injEq, and_true, true_and] at hcs
  obtain ⟨rfl, rfl, rfl, rfl⟩ := hcs
  clear h
  obtain ⟨z1, z2, z3, z4, z5⟩ := hz
  obtain ⟨y0, y1, y1', y2, y3, y4, y5⟩ := hbig
  obtain ⟨id, lim, pos, most, sum, hs, ⟨sp, hd, cs, ss⟩, sl⟩ := a
  simp only [aId, aLim, aPos, aMost, aSum, aH, aS] at r1 r2 r3 r4 z1 z2 z3 z4 z5 y0 y1 y1' y2 y3 y4 y5 ⊢
  have HQ := Lib.hid (fun V (hV : Below w.heap.size w V) => implOk_any hi id lim pos most sum hs sp hd cs ss sl vh vc vs vl V (hg.below hV (Nat.le_refl _)) y0 z1 y1' z2 z3 z4 (fun x hx => ⟨(y5 x hx).1, (y5 x hx).2.1⟩) (Rep.below (R := HoldsR) r1 hV hh) (r2.below hV hh) (r3.below hV hh) (Rep.below (R := SlotsR) r4 hV hh) (Nat.le_trans hh hV.size))
  obtain ⟨AH, cH, rfl, -⟩ := Rep.slice_form r1
  obtain ⟨AC, cC, rfl, -⟩ := r2.form
  obtain ⟨AS, cS, rfl, -⟩ := r3.form
  obtain ⟨AL, cL, rfl, -⟩ := Rep.slice_form r4
  have HAO := Lib.hid (fun V => implAccountOf_any id lim pos most sum AH hs.length cH sp hd AC cs.length cC AS ss.length cS AL sl.length cL V)
  clear r1 r2 r3 r4 z5 y0 y1 y1' y2 y3 y4 y5 hg
  generalize acctOk (id, lim, pos, most, sum, hs, (sp, hd, cs, ss), sl) = res at HQ ⊢
  go_enter Tryz.func59, Tryz.ntmps59
  go_upto_region 1 with fail
  obtain ⟨W, hW⟩ : ∃ W, W = w.alloc (.cells #[.string id, .int .i64 lim, .int .i64 pos, .int .i64 most, .int .i64 sum, .slice AH hs.length cH, .int .i64 sp, .int .i64 hd, .slice AC cs.length cC, .slice AS ss.length cS, .slice AL sl.length cL] 35) := ⟨_, rfl⟩
  have b0 : bk W w.heap.size 35 [.string id, .int .i64 lim, .int .i64 pos, .int .i64 most, .int .i64 sum, .slice AH hs.length cH, .int .i64 sp, .int .i64 hd, .slice AC cs.length cC, .slice AS ss.length cS, .slice AL sl.length cL] := by rw [hW]; exact bk.new w _ _
  have HB0 : Hid (Below w.heap.size w W) := Lib.hid (by rw [hW]; exact (Below.refl _ _).alloc (Nat.le_refl _) _)
  rw [← hW]
  clear hW
  obtain ⟨⟨p0, p1, p2, p3, p4, p5, p6, p7, p8, p9, p10⟩, -⟩ := b0.eleven
  have z0 := b0.lt
  clear b0
  go_wp2_with fail
  refine (HAO.out W).mono ?_
  rintro e w1 ⟨rfl, hb1⟩
  have HB1 : Hid (Below w.heap.size w w1) := Lib.hid (HB0.out.trans (hb1.mono (by omega)))
  have x1 := hb1.size
  clear hb1 p0 p1 p2 p3 p4 p5 p6 p7 p8 p9 p10
  go_wp2_with fail
  refine (HQ.out w1 HB1.out).mono ?_
  rintro e w2 ⟨rfl, hb2⟩
  have HB2 : Hid (Below w.heap.size w w2) := Lib.hid (HB1.out.trans (hb2.mono (by omega)))
  clear hb2
  go_wp2
  go_ret
  exact ⟨rfl, HB2.out⟩
set_option maxRecDepth 100000 in
set_option maxHeartbeats 1600000 in
theorem implHasState_any (hi : Nat) (vh vc vs vl : Value) (a : AcctD) (now : Int) (w : World) (hg : Handle w) (hz : acctSmall 1048576 a) (hbig : acctBig a) (h : AcctR.rd hi w (aCells a vh vc vs vl) a) (hh : hi ≤ w.heap.size) :
    Calls Tryz.prog 26 #[.agg #[.string (aId a), .int .i64 (aLim a), .int .i64 (aPos a), .int .i64 (aMost a), .int .i64 (aSum a), vh, .int .i64 (aR a).1, .int .i64 (aR a).2.1, vc, vs, vl], .int .i64 now] w fun e w' => e = .returned (.bool (acctOk a && timeB now)) ∧ Below w.heap.size w w' := by
  have HOK := Lib.hid (fun V (hV : Below w.heap.size w V) => implAcctOk_any hi vh vc vs vl a V (hg.below hV (Nat.le_refl _)) hz hbig (Rep.below (R := AcctR) h hV hh) (Nat.le_trans hh hV.size))
  have HTM := Lib.hid (fun V => implTime_any now V)
  obtain ⟨vh0, vc0, vs0, vl0, hcs, r1, r2, r3, r4⟩ := acct_rd h
  simp only [aCells, List.cons.injEq, and_true, true_and] at hcs
  obtain ⟨rfl, rfl, rfl, rfl⟩ := hcs
  clear h
  obtain ⟨id, lim, pos, most, sum, hs, ⟨sp, hd, cs, ss⟩, sl⟩ := a
  simp only [aId, aLim, aPos, aMost, aSum, aH, aS] at r1 r2 r3 r4 HOK ⊢
  obtain ⟨AH, cH, rfl, -⟩ := Rep.slice_form r1
  obtain ⟨AC, cC, rfl, -⟩ := r2.form
  obtain ⟨AS, cS, rfl, -⟩ := r3.form
  obtain ⟨AL, cL, rfl, -⟩ := Rep.slice_form r4
  clear r1 r2 r3 r4 hg hz hbig
  generalize acctOk (id, lim, pos, most, sum, hs, (sp, hd, cs, ss), sl) = ok at HOK ⊢
  generalize timeB now = tm at HTM ⊢
  go_enter Tryz.func26, Tryz.ntmps26
  go_upto_region 1 with fail
  obtain ⟨W, hW⟩ : ∃ W, W = w.alloc (.cells #[.string id, .int .i64 lim, .int .i64 pos, .int .i64 most, .int .i64 sum, .slice AH hs.length cH, .int .i64 sp, .int .i64 hd, .slice AC cs.length cC, .slice AS ss.length cS, .slice AL sl.length cL] 35) := ⟨_, rfl⟩
  have b0 : bk W w.heap.size 35 [.string id, .int .i64 lim, .int .i64 pos, .int .i64 most, .int .i64 sum, .slice AH hs.length cH, .int .i64 sp, .int .i64 hd, .slice AC cs.length cC, .slice AS ss.length cS, .slice AL sl.length cL] := by rw [hW]; exact bk.new w _ _
  have HB0 : Hid (Below w.heap.size w W) := Lib.hid (by rw [hW]; exact (Below.refl _ _).alloc (Nat.le_refl _) _)
  rw [← hW]
  clear hW
  obtain ⟨⟨p0, p1, p2, p3, p4, p5, p6, p7, p8, p9, p10⟩, -⟩ := b0.eleven
  have z0 := b0.lt
  clear b0
  go_wp2_with fail
  refine (HOK.out W HB0.out).mono ?_
  rintro e w1 ⟨rfl, hb1⟩
  have HB1 : Hid (Below w.heap.size w w1) := Lib.hid (HB0.out.trans (hb1.mono (by omega)))
  clear hb1 p0 p1 p2 p3 p4 p5 p6 p7 p8 p9 p10
  cases ok
  · go_wp2
    go_ret
    exact ⟨rfl, HB1.out⟩
  go_wp2_with fail
  refine (HTM.out _).mono ?_
  rintro e w2 ⟨rfl, rfl⟩
  go_wp2
  go_ret
  exact ⟨rfl, HB1.out⟩
end Go.Proofs.YtpeeagkfhdeagaaGreatDoor
/- Room of the reference; no conditions. -/
set_option linter.unusedVariables false
namespace Go.Proofs.YtpeeagkfhdeagaaGreatDoor
open Go.ChangeShapes Go.WideShapes Go.ChangeAt Go.RowKit

set_option maxRecDepth 100000 in
theorem satVal_range (a b : Int) : 0 ≤ satVal a b ∧ satVal a b ≤ 4611686018427387904 := by
  unfold satVal
  split
  · rename_i h
    simp only [addOk, isMon, Bool.and_eq_true, decide_eq_true_eq] at h
    omega
  · omega
set_option maxRecDepth 100000 in
theorem storedL_range (l : List HoldD) : 0 ≤ storedL l ∧ storedL l ≤ 4611686018427387904 := by
  unfold storedL
  have h : ∀ (l : List HoldD) (n : Int), 0 ≤ n ∧ n ≤ 4611686018427387904 → 0 ≤ l.foldl (fun n x => satVal n x.2.1) n ∧ l.foldl (fun n x => satVal n x.2.1) n ≤ 4611686018427387904 := by
    intro l
    induction l with
    | nil => intro n h; exact h
    | cons x l ih => intro n _; exact ih _ (satVal_range _ _)
  exact h l 0 (by omega)
def roomOf (a : AcctD) (now : Int) : Int := if (acctOk a && timeB now) = true then aLim a - aPos a - storedL (liveL (aH a) now) else 0
set_option maxRecDepth 100000 in
theorem acctOk_nums {a : AcctD} (h : acctOk a = true) : 0 ≤ aLim a ∧ aLim a ≤ 9007199254740992 ∧ 0 ≤ aPos a ∧ aPos a ≤ 4611686018427387904 := by
  unfold acctOk acctHead inB isMon at h
  simp only [Bool.and_eq_true, decide_eq_true_eq] at h
  omega
set_option maxRecDepth 100000 in
set_option maxHeartbeats 8000000 in
theorem specRoom_any (hi : Nat) (vh vc vs vl : Value) (a : AcctD) (now : Int) (w : World) (hz : acctSmall 1048576 a) (hbig : acctBig a) (h : AcctR.rd hi w (aCells a vh vc vs vl) a) (hh : hi ≤ w.heap.size) :
    Calls Tryz.prog 7 #[.agg #[.string (aId a), .int .i64 (aLim a), .int .i64 (aPos a), .int .i64 (aMost a), .int .i64 (aSum a), vh, .int .i64 (aR a).1, .int .i64 (aR a).2.1, vc, vs, vl], .int .i64 now] w fun e w' => e = .returned (.int .i64 (roomOf a now)) ∧ Below w.heap.size w w' := by
  have HOK := Lib.hid (fun W (hW : Below w.heap.size w W) => specAcctOk_any hi vh vc vs vl a W hz hbig (Rep.below (R := AcctR) h hW hh) (Nat.le_trans hh hW.size))
  obtain ⟨vh0, vc0, vs0, vl0, hcs, r1, r2, r3, r4⟩ := acct_rd h
  simp only [aCells, List.cons.injEq, and_true, true_and] at hcs
  obtain ⟨rfl, rfl, rfl, rfl⟩ := hcs
  clear h
  have HLV := Lib.hid (fun W (hW : Below w.heap.size w W) => specLiveSum_any hi _ (aH a) now W hz.h (Rep.below (R := HoldsR) r1 hW hh) (Nat.le_trans hh hW.size))
  have HTM := Lib.hid (fun W => specTime_any now W)
  obtain ⟨AH, cH, rfl, -⟩ := Rep.slice_form r1
  have HRO : Hid (roomOf a now = if (acctOk a && timeB now) = true then aLim a - aPos a - storedL (liveL (aH a) now) else 0) := Lib.hid rfl
  have HNU := Lib.hid (fun hk => acctOk_nums (a := a) hk)
  obtain ⟨sr0, sr1⟩ := storedL_range (liveL (aH a) now)
  clear r1 r2 r3 r4 hz hbig
  generalize acctOk a = ok at HOK HRO HNU
  generalize timeB now = tm at HTM HRO
  generalize storedL (liveL (aH a) now) = st at HLV HRO sr0 sr1
  generalize roomOf a now = rm at HRO ⊢
  obtain ⟨id, lim, pos, most, sum, hs, ⟨rs, rh, cs, ss⟩, sl⟩ := a
  simp only [aId, aLim, aPos, aMost, aSum, aH] at HOK HLV HRO HNU ⊢
  go_enter Tryz.func7, Tryz.ntmps7
  go_upto_region 1 with fail
  obtain ⟨W, hW⟩ : ∃ W, W = w.alloc (.cells #[.string id, .int .i64 lim, .int .i64 pos, .int .i64 most, .int .i64 sum, .slice AH hs.length cH, .int .i64 rs, .int .i64 rh, vc, vs, vl] 35) := ⟨_, rfl⟩
  have bb : bk W w.heap.size 35 [.string id, .int .i64 lim, .int .i64 pos, .int .i64 most, .int .i64 sum, .slice AH hs.length cH, .int .i64 rs, .int .i64 rh, vc, vs, vl] := by rw [hW]; exact bk.new w _ _
  have HBW : Hid (Below w.heap.size w W) := Lib.hid (by rw [hW]; exact (Below.refl _ _).alloc (Nat.le_refl _) _)
  have x0 : w.heap.size + 1 ≤ W.heap.size := by rw [hW]; simp
  rw [← hW]
  clear hW
  obtain ⟨⟨p0, p1, p2, p3, p4, p5, p6, p7, p8, p9, p10⟩, -⟩ := bb.eleven
  have B0 := Lib.hid bb
  clear bb
  go_wp2_with fail
  refine (HOK.out W HBW.out).mono ?_
  rintro e W3 ⟨rfl, hb3⟩
  have x3 := hb3.size
  have HB3 : Hid (Below w.heap.size w W3) := Lib.hid (HBW.out.trans (hb3.mono (by omega)))
  have B3 := Lib.hid (B0.out.below hb3 (by omega))
  clear hb3 HBW p0 p1 p2 p3 p4 p5 p6 p7 p8 p9 p10 B0
  cases ok
  · have HN := Lib.hid (HRO.out.trans (show _ = (0 : Int) by simp))
    go_wp2
    go_ret
    exact ⟨by rw [HN.out]; rfl, HB3.out⟩
  go_wp2_with fail
  refine (HTM.out _).mono ?_
  rintro e w1 ⟨rfl, rfl⟩
  cases tm
  · have HN := Lib.hid (HRO.out.trans (show _ = (0 : Int) by simp))
    go_wp2
    go_ret
    exact ⟨by rw [HN.out]; rfl, HB3.out⟩
  obtain ⟨k1, k2, k3, k4⟩ := HNU.out (by trivial)
  have HN : Hid (rm = lim - pos - st) := Lib.hid (HRO.out.trans (by simp))
  clear HRO HOK HTM HNU
  obtain ⟨⟨p0, p1, p2, p3, p4, p5, p6, p7, p8, p9, p10⟩, -⟩ := B3.out.eleven
  go_upto_region 3 with fail
  have HX : Hid (Ext W3 W3.drew) := Lib.hid (Ext.refl W3).drew
  have HBX : Hid (∀ W, Ext W3 W → Below w.heap.size w W) := Lib.hid fun W hW => HB3.out.trans (hW.below.mono (by omega))
  have P1 := Lib.hid p1
  have P2 := Lib.hid p2
  have P5 := Lib.hid p5
  clear p0 p1 p2 p3 p4 p5 p6 p7 p8 p9 p10
  refine quiet_region (C := Ext W3) (by kernel_rfl) (by kernel_rfl) HX.out ?_
  repeat (first
    | go_big_quiet_skip
    | (go_big_quiet_want; go_big_quiet_op; go_big_quiet_on)
    | (go_big_quiet_want; go_big_quiet_op; apply Exists.intro; refine ⟨fun _ _ => rfl, ?_⟩; go_big_quiet_on)
    | (go_big_quiet_want
       apply Exists.intro
       refine ⟨fun W hW => ?_, ?_⟩
       (have q1 := hW.cell P1.out (by omega)
        have q2 := hW.cell P2.out (by omega)
        have q5 := hW.cell P5.out (by omega)
        unfold Oper.quietAt
        go_simp
        rfl)
       simp only [Act.put, List.setIfInBounds_toArray, List.set_cons_zero, List.set_cons_succ]
       go_big_quiet_on)
    | (go_big_quiet_want
       apply Exists.intro
       refine ⟨fun W hW => ?_, ?_⟩
       (unfold Oper.quietAt
        go_simp
        go_at_call 22
        refine (HLV.out W (HBX.out W hW)).mono ?_
        rintro e w4 ⟨rfl, hb4⟩
        exact ⟨rfl, hW.step hb4⟩)
       simp only [Act.put, List.setIfInBounds_toArray, List.set_cons_zero, List.set_cons_succ]
       go_big_quiet_on))
  refine wpQuiet_nil ?_
  intro W4 hW4
  go_wp2
  go_ret
  exact ⟨by rw [HN.out]; first | rfl | exact ret_int (by omega), HBX.out W4 hW4⟩
end Go.Proofs.YtpeeagkfhdeagaaGreatDoor
/- Room of the program; no conditions but the library's handle. -/
set_option linter.unusedVariables false
namespace Go.Proofs.YtpeeagkfhdeagaaGreatDoor
open Go.ChangeShapes Go.WideShapes Go.ChangeAt Go.RowKit

set_option maxRecDepth 100000 in
set_option maxHeartbeats 8000000 in
theorem implRoom_any (hi : Nat) (vh vc vs vl : Value) (a : AcctD) (now : Int) (w : World) (hg : Handle w) (hz : acctSmall 1048576 a) (hbig : acctBig a) (h : AcctR.rd hi w (aCells a vh vc vs vl) a) (hh : hi ≤ w.heap.size) :
    Calls Tryz.prog 9 #[.agg #[.string (aId a), .int .i64 (aLim a), .int .i64 (aPos a), .int .i64 (aMost a), .int .i64 (aSum a), vh, .int .i64 (aR a).1, .int .i64 (aR a).2.1, vc, vs, vl], .int .i64 now] w fun e w' => e = .returned (.int .i64 (roomOf a now)) ∧ Below w.heap.size w w' := by
  have HHS := Lib.hid (fun W (hW : Below w.heap.size w W) => implHasState_any hi vh vc vs vl a now W (hg.below hW (Nat.le_refl _)) hz hbig (Rep.below (R := AcctR) h hW hh) (Nat.le_trans hh hW.size))
  obtain ⟨vh0, vc0, vs0, vl0, hcs, r1, r2, r3, r4⟩ := acct_rd h
  simp only [aCells, List.cons.injEq, and_true, true_and] at hcs
  obtain ⟨rfl, rfl, rfl, rfl⟩ := hcs
  clear h
  have HLV := Lib.hid (fun W (hW : Below w.heap.size w W) => implLiveSum_any hi _ (aH a) now W (hg.below hW (Nat.le_refl _)) hz.h (Rep.below (R := HoldsR) r1 hW hh) (Nat.le_trans hh hW.size))
  have HRO : Hid (roomOf a now = if (acctOk a && timeB now) = true then aLim a - aPos a - storedL (liveL (aH a) now) else 0) := Lib.hid rfl
  have HNU : Hid ((acctOk a && timeB now) = true → 0 ≤ aLim a ∧ aLim a ≤ 9007199254740992 ∧ 0 ≤ aPos a ∧ aPos a ≤ 4611686018427387904) := Lib.hid fun hk => acctOk_nums (by simp only [Bool.and_eq_true] at hk; exact hk.1)
  obtain ⟨sr0, sr1⟩ := storedL_range (liveL (aH a) now)
  obtain ⟨AH, cH, rfl, -⟩ := Rep.slice_form r1
  obtain ⟨AC, cC, rfl, -⟩ := r2.form
  obtain ⟨AS, cS, rfl, -⟩ := r3.form
  obtain ⟨AL, cL, rfl, -⟩ := Rep.slice_form r4
  clear r1 r2 r3 r4 hz hbig hg
  generalize (acctOk a && timeB now) = ok at HHS HRO HNU
  generalize storedL (liveL (aH a) now) = st at HLV HRO sr0 sr1
  generalize roomOf a now = rm at HRO ⊢
  obtain ⟨id, lim, pos, most, sum, hs, ⟨rs, rh, cs, ss⟩, sl⟩ := a
  simp only [aId, aLim, aPos, aMost, aSum, aH, aS] at HHS HLV HRO HNU ⊢
  have HAO := Lib.hid (fun V => implAccountOf_any id lim pos most sum AH hs.length cH rs rh AC cs.length cC AS ss.length cS AL sl.length cL V)
  go_enter Tryz.func9, Tryz.ntmps9
  go_upto_region 1 with fail
  obtain ⟨W, hW⟩ : ∃ W, W = w.alloc (.cells #[.string id, .int .i64 lim, .int .i64 pos, .int .i64 most, .int .i64 sum, .slice AH hs.length cH, .int .i64 rs, .int .i64 rh, .slice AC cs.length cC, .slice AS ss.length cS, .slice AL sl.length cL] 35) := ⟨_, rfl⟩
  have bb : bk W w.heap.size 35 [.string id, .int .i64 lim, .int .i64 pos, .int .i64 most, .int .i64 sum, .slice AH hs.length cH, .int .i64 rs, .int .i64 rh, .slice AC cs.length cC, .slice AS ss.length cS, .slice AL sl.length cL] := by rw [hW]; exact bk.new w _ _
  have HBW : Hid (Below w.heap.size w W) := Lib.hid (by rw [hW]; exact (Below.refl _ _).alloc (Nat.le_refl _) _)
  rw [← hW]
  clear hW
  have x0 := bb.lt
  obtain ⟨⟨p0, p1, p2, p3, p4, p5, p6, p7, p8, p9, p10⟩, -⟩ := bb.eleven
  have B0 := Lib.hid bb
  clear bb
  go_wp2_with fail
  refine (HHS.out W HBW.out).mono ?_
  rintro e W3 ⟨rfl, hb3⟩
  have x3 := hb3.size
  have HB3 : Hid (Below w.heap.size w W3) := Lib.hid (HBW.out.trans (hb3.mono (by omega)))
  have B3 := Lib.hid (B0.out.below hb3 (by omega))
  clear hb3 HBW p0 p1 p2 p3 p4 p5 p6 p7 p8 p9 p10 B0
  cases ok
  · have HN := Lib.hid (HRO.out.trans (show _ = (0 : Int) by simp))
    go_wp2
    go_ret
    exact ⟨by rw [HN.out]; rfl, HB3.out⟩
  obtain ⟨k1, k2, k3, k4⟩ := HNU.out (by trivial)
  have HN : Hid (rm = lim - pos - st) := Lib.hid (HRO.out.trans (by simp))
  have HRE := Lib.hid (fun V => implRest_any lim pos most sum st V (by omega) (by omega) (by omega) (by omega))
  clear HRO HHS HNU k1 k2 k3 k4 sr0 sr1
  obtain ⟨⟨p0, p1, p2, p3, p4, p5, p6, p7, p8, p9, p10⟩, -⟩ := B3.out.eleven
  go_wp2_with fail
  refine (HAO.out W3).mono ?_
  rintro e W4 ⟨rfl, hb4⟩
  have x4 := hb4.size
  have HB4 : Hid (Below w.heap.size w W4) := Lib.hid (HB3.out.trans (hb4.mono (by omega)))
  clear hb4 B3 HB3 p0 p1 p2 p3 p4 p5 p6 p7 p8 p9 p10
  go_upto_region 4 with fail
  obtain ⟨V, hV⟩ : ∃ V, V = W4.alloc (.cells #[.int .i64 lim, .int .i64 pos, .int .i64 most, .int .i64 sum, .string id, .slice AH hs.length cH, .int .i64 rs, .int .i64 rh, .slice AC cs.length cC, .slice AS ss.length cS, .slice AL sl.length cL] 53) := ⟨_, rfl⟩
  have b5 : bk V W4.heap.size 53 [.int .i64 lim, .int .i64 pos, .int .i64 most, .int .i64 sum, .string id, .slice AH hs.length cH, .int .i64 rs, .int .i64 rh, .slice AC cs.length cC, .slice AS ss.length cS, .slice AL sl.length cL] := by rw [hV]; exact bk.new W4 _ _
  have HB5 : Hid (Below w.heap.size w V) := Lib.hid (by rw [hV]; exact HB4.out.alloc (by omega) _)
  rw [← hV]
  clear hV HB4
  have x5 := b5.lt
  obtain ⟨⟨p0, p1, p2, p3, p4, p5, p6, p7, p8, p9, p10⟩, -⟩ := b5.eleven
  have P0 := Lib.hid p0
  have P1 := Lib.hid p1
  have P2 := Lib.hid p2
  have P3 := Lib.hid p3
  have P5 := Lib.hid p5
  clear b5 p0 p1 p2 p3 p4 p5 p6 p7 p8 p9 p10
  have HX : Hid (Ext V V.drew) := Lib.hid (Ext.refl V).drew
  have HBX : Hid (∀ U, Ext V U → Below w.heap.size w U) := Lib.hid fun U hU => HB5.out.trans (hU.below.mono (by omega))
  refine quiet_region (C := Ext V) (by kernel_rfl) (by kernel_rfl) HX.out ?_
  repeat (first
    | go_big_quiet_skip
    | (go_big_quiet_want; go_big_quiet_op; go_big_quiet_on)
    | (go_big_quiet_want; go_big_quiet_op; apply Exists.intro; refine ⟨fun _ _ => rfl, ?_⟩; go_big_quiet_on)
    | (go_big_quiet_want
       apply Exists.intro
       refine ⟨fun U hU => ?_, ?_⟩
       (have q0 := hU.cell P0.out (by omega)
        have q1 := hU.cell P1.out (by omega)
        have q2 := hU.cell P2.out (by omega)
        have q3 := hU.cell P3.out (by omega)
        have q5 := hU.cell P5.out (by omega)
        unfold Oper.quietAt
        go_simp
        rfl)
       simp only [Act.put, List.setIfInBounds_toArray, List.set_cons_zero, List.set_cons_succ]
       go_big_quiet_on)
    | (go_big_quiet_want
       apply Exists.intro
       refine ⟨fun U hU => ?_, ?_⟩
       (unfold Oper.quietAt
        go_simp
        go_at_call 29
        (with_reducible refine (HLV.out U (HBX.out U hU)).mono ?_)
        rintro e w4 ⟨rfl, hb4⟩
        exact ⟨rfl, hU.step hb4⟩)
       simp only [Act.put, List.setIfInBounds_toArray, List.set_cons_zero, List.set_cons_succ]
       go_big_quiet_on)
    | (go_big_quiet_want
       apply Exists.intro
       refine ⟨fun U hU => ?_, ?_⟩
       (unfold Oper.quietAt
        go_simp
        go_at_call 28
        (with_reducible refine (HRE.out U).mono ?_)
        rintro e w4 ⟨rfl, hb4⟩
        exact ⟨rfl, hU.step hb4⟩)
       simp only [Act.put, List.setIfInBounds_toArray, List.set_cons_zero, List.set_cons_succ]
       go_big_quiet_on)
    | fail)
  refine wpQuiet_nil ?_
  intro W5 hW5
  go_wp2
  go_ret
  exact ⟨by rw [HN.out]; rfl, HBX.out W5 hW5⟩
end Go.Proofs.YtpeeagkfhdeagaaGreatDoor
/- A ring's copy by the reference; no conditions. -/
set_option linter.unusedVariables false
namespace Go.Proofs.YtpeeagkfhdeagaaGreatDoor
open Go.ChangeShapes Go.WideShapes Go.ChangeAt Go.RowKit

set_option maxRecDepth 100000 in
theorem ow_void (T : TypeId) (K : IntKind) (w : World) : ow T K w.heap.size (w.alloc (.cells #[] T)) (.slice (some ⟨w.heap.size, 0, none⟩) 0 0) [] := by
  refine ⟨rfl, Or.inr ⟨w.heap.size, 0, #[], rfl, Nat.le_refl _, ?_, Nat.le_refl _, Nat.zero_le _, rfl, rfl⟩⟩
  show (w.heap.push _)[w.heap.size]? = _
  simp
set_option maxRecDepth 100000 in
set_option maxHeartbeats 1600000 in
theorem specCopy_any (hi : Nat) (vc vs : Value) (r : RingD) (w : World) (h1 : rd .i64 hi w vc r.2.2.1) (h2 : rd .i64 hi w vs r.2.2.2) (hh : hi ≤ w.heap.size) (hc : r.2.2.1.length ≤ 1048576) (hs : r.2.2.2.length ≤ 1048576) :
    Calls Tryz.prog 65 #[.agg #[.int .i64 r.1, .int .i64 r.2.1, vc, vs]] w (ringOne r w) := by
  obtain ⟨sp, hd, cs, ss⟩ := r
  simp only at h1 h2 hc hs ⊢
  obtain ⟨A1, c1, rfl, -⟩ := h1.form
  obtain ⟨A2, c2, rfl, -⟩ := h2.form
  have HC := Lib.hid h1
  have HS := Lib.hid h2
  clear h1 h2
  go_enter Tryz.func65, Tryz.ntmps65
  go_upto_region 1 with fail
  obtain ⟨W, hW⟩ : ∃ W, W = (w.alloc (.cells #[.int .i64 sp, .int .i64 hd, .slice A1 cs.length c1, .slice A2 ss.length c2] 32)).alloc (.cells #[.int .i64 0, .int .i64 0, .slice none 0 0, .slice none 0 0] 32) := ⟨_, rfl⟩
  have b0 : bk W w.heap.size 32 [.int .i64 sp, .int .i64 hd, .slice A1 cs.length c1, .slice A2 ss.length c2] := by rw [hW]; exact (bk.new w _ _).alloc _
  have b1 : bk W (w.heap.size + 1) 32 [.int .i64 0, .int .i64 0, .slice none 0 0, .slice none 0 0] := by rw [hW]; simpa using bk.new (w.alloc _) _ _
  have HB0 : Hid (Below w.heap.size w W) := Lib.hid (by rw [hW]; exact ((Below.refl _ _).alloc (Nat.le_refl _) _).alloc (by simp) _)
  have z0 : w.heap.size + 2 ≤ W.heap.size := by rw [hW]; simp
  rw [← hW]
  clear hW
  obtain ⟨⟨p0, p1, p2, p3⟩, q0, q1, q2, q3⟩ := b0.cells
  have B0 := Lib.hid b0
  have B1 := Lib.hid b1
  clear b0 b1
  have y0 : w.heap.size < W.heap.size := by omega
  go_wp2_with (at_builtin; refine app_all (W.alloc (.cells #[] 3)) rfl _ _ 23 rfl W.heap.size 3 .i64 8 Tryz.underlying23 infoI64 _ [] rfl (ow_void _ _ W) hi _ cs (by rfl) (HC.out.below (HB0.out.alloc (by omega) _) hh) (by unfold maxLen; simp; omega) (by simp; omega) (by simp) ?_)
  intro v1 w1 hv1 hg1 hb1
  have hn1 := hv1.nums
  obtain ⟨AU, cU, rfl, -⟩ := hn1.form
  have z1 : W.heap.size + 1 ≤ w1.heap.size := by have := hg1.size; simpa using this
  have hb1' : Below W.heap.size W w1 := ((Below.refl _ _).alloc (Nat.le_refl _) _).trans hb1
  have b0 := B0.out.below hb1' (by omega)
  have b1 := B1.out.below hb1' (by omega)
  have HB1 : Hid (Below w.heap.size w w1) := Lib.hid (HB0.out.trans (hb1'.mono (by omega)))
  have HU1 := Lib.hid hn1
  clear hv1 hg1 hb1 hb1' hn1 p0 p1 p2 p3 q0 q1 q2 q3 HB0 B0 B1
  obtain ⟨⟨p0, p1, p2, p3⟩, q0, q1, q2, q3⟩ := b0.cells
  have B0 := Lib.hid b0
  have B1 := Lib.hid b1
  clear b0 b1
  go_upto_region 2 with fail
  obtain ⟨W2, hW2⟩ : ∃ W2, W2 = w1.setCell ⟨w.heap.size, 2, none⟩ (.slice AU cs.length cU) := ⟨_, rfl⟩
  rw [← hW2]
  have b0 := B0.out.set 2 (.slice AU cs.length cU)
  have b1 := B1.out.far (p := ⟨w.heap.size, 2, none⟩) (show w.heap.size + 1 ≠ w.heap.size by omega) (.slice AU cs.length cU)
  rw [← hW2] at b0 b1
  have HU2 : Hid (nums .i64 W.heap.size w1.heap.size W2 (.slice AU cs.length cU) cs) := Lib.hid (by rw [hW2]; exact HU1.out.far _ (fun h => by have := HU1.out.blk _ h; omega))
  have HB2 : Hid (Below w.heap.size w W2) := Lib.hid (by rw [hW2]; exact HB1.out.setCell (p := ⟨_, _, none⟩) (Nat.le_refl _) _)
  have z2 : w1.heap.size ≤ W2.heap.size := by rw [hW2]; simp
  clear hW2 p0 p1 p2 p3 q0 q1 q2 q3 HU1 HB1 B0 B1
  obtain ⟨⟨p0, p1, p2, p3⟩, q0, q1, q2, q3⟩ := b0.cells
  have B0 := Lib.hid b0
  have B1 := Lib.hid b1
  clear b0 b1
  have y2 : w.heap.size < W2.heap.size := by omega
  go_wp2_with (at_builtin; refine app_all (W2.alloc (.cells #[] 3)) rfl _ _ 23 rfl W2.heap.size 3 .i64 8 Tryz.underlying23 infoI64 _ [] rfl (ow_void _ _ W2) hi _ ss (by rfl) (HS.out.below (HB2.out.alloc (by omega) _) hh) (by unfold maxLen; simp; omega) (by simp; omega) (by simp) ?_)
  intro v3 w3 hv3 hg3 hb3
  have hn3 := hv3.nums
  obtain ⟨AV, cV, rfl, -⟩ := hn3.form
  have z3 : W2.heap.size + 1 ≤ w3.heap.size := by have := hg3.size; simpa using this
  have hb3' : Below W2.heap.size W2 w3 := ((Below.refl _ _).alloc (Nat.le_refl _) _).trans hb3
  have b0 := B0.out.below hb3' (by omega)
  have b1 := B1.out.below hb3' (by omega)
  have HB3 : Hid (Below w.heap.size w w3) := Lib.hid (HB2.out.trans (hb3'.mono (by omega)))
  have HU3 := Lib.hid (HU2.out.below hb3' (by omega))
  have HV3 := Lib.hid hn3
  clear hv3 hg3 hb3 hb3' hn3 p0 p1 p2 p3 q0 q1 q2 q3 HB2 B0 B1 HU2
  obtain ⟨⟨p0, p1, p2, p3⟩, q0, q1, q2, q3⟩ := b0.cells
  obtain ⟨⟨r0, r1, r2, r3⟩, f0, f1, f2, f3⟩ := b1.cells
  clear b0 b1
  go_wp2
  refine bodyPost_ret (v := .agg #[.int .i64 sp, .int .i64 hd, .slice AU cs.length cU, .slice AV ss.length cV]) (by simp [results, Tryz.results65, go_sem, r0, r1, r2, r3]) rfl ?_
  have ht := (((((Turned.refl w.heap.size (w.heap.size + 2) w3).set (b := w.heap.size) 3 (.slice AV ss.length cV) (by omega) (by omega)).set (b := w.heap.size + 1) 0 (.int .i64 sp) (by omega) (by omega)).set (b := w.heap.size + 1) 1 (.int .i64 hd) (by omega) (by omega)).set (b := w.heap.size + 1) 2 (.slice AU cs.length cU) (by omega) (by omega)).set (b := w.heap.size + 1) 3 (.slice AV ss.length cV) (by omega) (by omega)
  have hsz := ht.size
  exact ⟨_, _, rfl, ring_mine_of ((HU3.out.turned ht (.inr (by omega)) (by omega)).mono (by omega) (by omega)) ((HV3.out.turned ht (.inr (by omega)) (by omega)).mono (by omega) (by omega)) (fun b h h' => by have h5 := HU3.out.blk b h; have h6 := HV3.out.blk b h'; omega), HB3.out.trans (ht.below (Nat.le_refl _) (by omega))⟩
end Go.Proofs.YtpeeagkfhdeagaaGreatDoor
/- append of a whole slice of structs; the reference's copy of an account; no conditions. -/
set_option linter.unusedVariables false
namespace Go.Proofs.YtpeeagkfhdeagaaGreatDoor
open Go.ChangeShapes Go.WideShapes Go.ChangeAt Go.RowKit

set_option maxRecDepth 100000 in
set_option maxHeartbeats 4000000 in
theorem specAcctCopy_any (hi : Nat) (vh vc vs vl : Value) (a : AcctD) (w : World) (hz : acctSmall 1048576 a) (h : AcctR.rd hi w (aCells a vh vc vs vl) a) (hh : hi ≤ w.heap.size) :
    Calls Tryz.prog 33 #[.agg #[.string (aId a), .int .i64 (aLim a), .int .i64 (aPos a), .int .i64 (aMost a), .int .i64 (aSum a), vh, .int .i64 (aR a).1, .int .i64 (aR a).2.1, vc, vs, vl]] w (acctOne a w) := by
  obtain ⟨vh', vc', vs', vl', hcs, r1, r2, r3, r4⟩ := acct_rd h
  simp only [aCells, List.cons.injEq, and_true, true_and] at hcs
  obtain ⟨rfl, rfl, rfl, rfl⟩ := hcs
  clear h
  obtain ⟨z1, z2, z3, z4, z5⟩ := hz
  obtain ⟨id, lim, pos, most, sum, hs, ⟨sp, hd, cs, ss⟩, sl⟩ := a
  simp only [aId, aLim, aPos, aMost, aSum, aH, aS] at r1 r2 r3 r4 z1 z2 z3 z4 z5 ⊢
  obtain ⟨AH, cH, hv0, -, hr1⟩ := holds_rd r1
  subst hv0
  obtain ⟨AC, cC, rfl, -⟩ := r2.form
  obtain ⟨AS, cS, rfl, -⟩ := r3.form
  obtain ⟨AL, cL, rfl, -⟩ := Rep.slice_form r4
  have HSR : Hid (∀ V, Below w.heap.size w V → ∀ (j : Nat) (y : HoldD), hs[j]? = some y → ∃ b off, AH = some ⟨b, off, none⟩ ∧ atL V b (off + j * 3) (hCells y)) := Lib.hid fun V hV j y hy => by
    obtain ⟨b, off, e, hb, q0, q1, q2⟩ := hr1 j y hy
    refine ⟨b, off, e, fun t u hu => ?_⟩
    rw [hV.cell (p := ⟨b, _, none⟩) (show b < w.heap.size by omega)]
    match t, hu with
    | 0, hu => cases hu; exact q0
    | 1, hu => cases hu; exact q1
    | 2, hu => cases hu; exact q2
    | n + 3, hu => simp [hCells] at hu
  have HT2 := Lib.hid (fun W (hW : Below w.heap.size w W) => specCopy_any hi _ _ (sp, hd, cs, ss) W (r2.below hW hh) (r3.below hW hh) (Nat.le_trans hh hW.size) z2 z3)
  have HT3 := Lib.hid (fun W (hW : Below w.heap.size w W) => specCopySlots_any hi _ sl W (by omega) z5 (Rep.below (R := SlotsR) r4 hW hh) (Nat.le_trans hh hW.size))
  clear r1 hr1 r2 r3 r4 z5
  go_enter Tryz.func33, Tryz.ntmps33
  go_upto_region 1 with fail
  obtain ⟨W, hW⟩ : ∃ W, W = (w.alloc (.cells #[.string id, .int .i64 lim, .int .i64 pos, .int .i64 most, .int .i64 sum, .slice AH hs.length cH, .int .i64 sp, .int .i64 hd, .slice AC cs.length cC, .slice AS ss.length cS, .slice AL sl.length cL] 35)).alloc (.cells #[.string ⟨#[]⟩, .int .i64 0, .int .i64 0, .int .i64 0, .int .i64 0, .slice none 0 0, .int .i64 0, .int .i64 0, .slice none 0 0, .slice none 0 0, .slice none 0 0] 35) := ⟨_, rfl⟩
  have b0 : bk W w.heap.size 35 [.string id, .int .i64 lim, .int .i64 pos, .int .i64 most, .int .i64 sum, .slice AH hs.length cH, .int .i64 sp, .int .i64 hd, .slice AC cs.length cC, .slice AS ss.length cS, .slice AL sl.length cL] := by rw [hW]; exact (bk.new w _ _).alloc _
  have b1 : bk W (w.heap.size + 1) 35 [.string ⟨#[]⟩, .int .i64 0, .int .i64 0, .int .i64 0, .int .i64 0, .slice none 0 0, .int .i64 0, .int .i64 0, .slice none 0 0, .slice none 0 0, .slice none 0 0] := by rw [hW]; simpa using bk.new (w.alloc _) 35 [.string ⟨#[]⟩, .int .i64 0, .int .i64 0, .int .i64 0, .int .i64 0, .slice none 0 0, .int .i64 0, .int .i64 0, .slice none 0 0, .slice none 0 0, .slice none 0 0]
  have HB0 : Hid (Below w.heap.size w W) := Lib.hid (by rw [hW]; exact ((Below.refl _ _).alloc (Nat.le_refl _) _).alloc (by simp) _)
  have y0 : w.heap.size + 2 ≤ W.heap.size := by rw [hW]; simp
  rw [← hW]
  clear hW
  have y1 : w.heap.size < W.heap.size := by omega
  obtain ⟨⟨p0, p1, p2, p3, p4, p5, p6, p7, p8, p9, p10⟩, -⟩ := b0.eleven
  have B0 := Lib.hid b0
  have B1 := Lib.hid b1
  clear b0 b1
  go_wp2_with (at_builtin; refine app_rows hCells 3 (fun _ => rfl) (by decide) hCells_one 31 79 #[.string ⟨#[]⟩, .int .i64 0, .int .i64 0] 32 Tryz.underlying31 infoHold rfl _ _ rfl rfl W.heap.size (W.alloc (.cells #[] 79)) _ [] hs AH cH (by rfl) (by rfl) (owE_empty _ _ _ _ W (Nat.le_refl _)) (HSR.out _ (HB0.out.alloc (by omega) _)) (by unfold maxLen; simp; omega) (by simp; omega) (by simp) ?_)
  intro A1 c1 w1 ho1 hg1 hb1
  have z10 : W.heap.size + 1 ≤ w1.heap.size := by have := hg1.size; simpa using this
  have hb1' : Below W.heap.size W w1 := ((Below.refl W.heap.size W).alloc (Nat.le_refl _) _).trans hb1
  have C0 := Lib.hid (B0.out.below hb1' (by omega))
  have C1 := Lib.hid (B1.out.below hb1' (by omega))
  have HH1 : Hid (HoldsR.mine W.heap.size w1.heap.size w1 [.slice A1 hs.length c1] hs) := Lib.hid (owE_holds ho1)
  have HB1 : Hid (Below w.heap.size w w1) := Lib.hid (HB0.out.trans (hb1'.mono (by omega)))
  clear ho1 hg1 hb1 hb1' HB0 B0 B1 p0 p1 p2 p3 p4 p5 p6 p7 p8 p9 p10
  obtain ⟨⟨p0, p1, p2, p3, p4, p5, p6, p7, p8, p9, p10⟩, f0, f1, f2, f3, f4, f5, f6, f7, f8, f9, f10⟩ := C0.out.eleven
  go_wp2_with fail
  obtain ⟨W2, hW2⟩ : ∃ W2, W2 = w1.setCell ⟨w.heap.size, 5, none⟩ (.slice A1 hs.length c1) := ⟨_, rfl⟩
  have ht2 := (Turned.refl w.heap.size (w.heap.size + 1) w1).set (b := w.heap.size) 5 (.slice A1 hs.length c1) (by omega) (by omega)
  have b0 : bk (w1.setCell ⟨w.heap.size, 5, none⟩ (.slice A1 hs.length c1)) (w.heap.size) 35 [.string id, .int .i64 lim, .int .i64 pos, .int .i64 most, .int .i64 sum, .slice A1 hs.length c1, .int .i64 sp, .int .i64 hd, .slice AC cs.length cC, .slice AS ss.length cS, .slice AL sl.length cL] := C0.out.set 5 (.slice A1 hs.length c1)
  have b1 := C1.out.under ht2 (by omega)
  rw [← hW2] at ht2 b0 b1 ⊢
  have z2 := ht2.size
  have HH2 := Lib.hid (HH1.out.turned ht2 (.inr (by omega)) (Nat.le_refl _))
  have HB2 := Lib.hid (HB1.out.trans (ht2.below (B := w.heap.size) (by omega) (by omega)))
  clear hW2 ht2 HH1 HB1 p0 p1 p2 p3 p4 p5 p6 p7 p8 p9 p10 f0 f1 f2 f3 f4 f5 f6 f7 f8 f9 f10
  refine (HT2.out W2 HB2.out).mono ?_
  rintro e w3 ⟨v3, v4, rfl, hu3, hb3⟩
  obtain ⟨A3, c3, rfl, -⟩ := (ring2 hu3.rd).1.form
  obtain ⟨A4, c4, rfl, -⟩ := (ring2 hu3.rd).2.form
  have z3 := hb3.size
  have HH3 := Lib.hid (HH2.out.below hb3 (by omega))
  have HV3 := Lib.hid hu3
  have HB3 : Hid (Below w.heap.size w w3) := Lib.hid (HB2.out.trans (hb3.mono (by omega)))
  replace b0 := b0.below hb3 (by omega)
  replace b1 := b1.below hb3 (by omega)
  clear hu3 hb3 HH2 HB2 HT2 C0 C1
  obtain ⟨⟨p0, p1, p2, p3, p4, p5, p6, p7, p8, p9, p10⟩, f0, f1, f2, f3, f4, f5, f6, f7, f8, f9, f10⟩ := b0.eleven
  have C0 := Lib.hid b0
  have C1 := Lib.hid b1
  clear b0 b1
  go_wp2_with fail
  obtain ⟨W4, hW4⟩ : ∃ W4, W4 = (((w3.setCell ⟨w.heap.size, 6, none⟩ (.int .i64 sp)).setCell ⟨w.heap.size, 7, none⟩ (.int .i64 hd)).setCell ⟨w.heap.size, 8, none⟩ (.slice A3 cs.length c3)).setCell ⟨w.heap.size, 9, none⟩ (.slice A4 ss.length c4) := ⟨_, rfl⟩
  have ht4 := ((((Turned.refl w.heap.size (w.heap.size + 1) w3).set (b := w.heap.size) 6 (.int .i64 sp) (by omega) (by omega)).set (b := w.heap.size) 7 (.int .i64 hd) (by omega) (by omega)).set (b := w.heap.size) 8 (.slice A3 cs.length c3) (by omega) (by omega)).set (b := w.heap.size) 9 (.slice A4 ss.length c4) (by omega) (by omega)
  have b0 : bk ((((w3.setCell ⟨w.heap.size, 6, none⟩ (.int .i64 sp)).setCell ⟨w.heap.size, 7, none⟩ (.int .i64 hd)).setCell ⟨w.heap.size, 8, none⟩ (.slice A3 cs.length c3)).setCell ⟨w.heap.size, 9, none⟩ (.slice A4 ss.length c4)) (w.heap.size) 35 [.string id, .int .i64 lim, .int .i64 pos, .int .i64 most, .int .i64 sum, .slice A1 hs.length c1, .int .i64 sp, .int .i64 hd, .slice A3 cs.length c3, .slice A4 ss.length c4, .slice AL sl.length cL] := (((C0.out.set 6 (.int .i64 sp)).set 7 (.int .i64 hd)).set 8 (.slice A3 cs.length c3)).set 9 (.slice A4 ss.length c4)
  have b1 := C1.out.under ht4 (by omega)
  rw [← hW4] at ht4 b0 b1 ⊢
  have z4 := ht4.size
  have HH4 := Lib.hid (HH3.out.turned ht4 (.inr (by omega)) (by omega))
  have HV4 := Lib.hid (HV3.out.turned ht4 (.inr (by omega)) (Nat.le_refl _))
  have HB4 := Lib.hid (HB3.out.trans (ht4.below (B := w.heap.size) (by omega) (by omega)))
  clear hW4 ht4 HH3 HV3 HB3 C0 C1 p0 p1 p2 p3 p4 p5 p6 p7 p8 p9 p10 f0 f1 f2 f3 f4 f5 f6 f7 f8 f9 f10
  refine (HT3.out W4 HB4.out).mono ?_
  rintro e w5 ⟨u6, rfl, hu5, hb5⟩
  obtain ⟨A6, c6, rfl, -⟩ := Rep.slice_form hu5.rd
  have z5 := hb5.size
  have HH5 := Lib.hid (HH4.out.below hb5 (by omega))
  have HV5 := Lib.hid (HV4.out.below hb5 (by omega))
  have HS5 := Lib.hid hu5
  have HB5 : Hid (Below w.heap.size w w5) := Lib.hid (HB4.out.trans (hb5.mono (by omega)))
  replace b0 := b0.below hb5 (by omega)
  replace b1 := b1.below hb5 (by omega)
  clear hu5 hb5 HH4 HV4 HB4 HT3
  obtain ⟨⟨p0, p1, p2, p3, p4, p5, p6, p7, p8, p9, p10⟩, f0, f1, f2, f3, f4, f5, f6, f7, f8, f9, f10⟩ := b0.eleven
  obtain ⟨⟨r0, r1, r2, r3, r4, r5, r6, r7, r8, r9, r10⟩, g0, g1, g2, g3, g4, g5, g6, g7, g8, g9, g10⟩ := b1.eleven
  clear b0 b1
  go_wp2
  refine bodyPost_ret (v := .agg #[.string id, .int .i64 lim, .int .i64 pos, .int .i64 most, .int .i64 sum, .slice A1 hs.length c1, .int .i64 sp, .int .i64 hd, .slice A3 cs.length c3, .slice A4 ss.length c4, .slice A6 sl.length c6]) (by simp [results, Tryz.results33, go_sem, r0, r1, r2, r3, r4, r5, r6, r7, r8, r9, r10]) rfl ?_
  have ht := ((((((((((((Turned.refl w.heap.size (w.heap.size + 2) w5).set (b := w.heap.size) 10 (.slice A6 sl.length c6) (by omega) (by omega)).set (b := w.heap.size + 1) 0 (.string id) (by omega) (by omega)).set (b := w.heap.size + 1) 1 (.int .i64 lim) (by omega) (by omega)).set (b := w.heap.size + 1) 2 (.int .i64 pos) (by omega) (by omega)).set (b := w.heap.size + 1) 3 (.int .i64 most) (by omega) (by omega)).set (b := w.heap.size + 1) 4 (.int .i64 sum) (by omega) (by omega)).set (b := w.heap.size + 1) 5 (.slice A1 hs.length c1) (by omega) (by omega)).set (b := w.heap.size + 1) 6 (.int .i64 sp) (by omega) (by omega)).set (b := w.heap.size + 1) 7 (.int .i64 hd) (by omega) (by omega)).set (b := w.heap.size + 1) 8 (.slice A3 cs.length c3) (by omega) (by omega)).set (b := w.heap.size + 1) 9 (.slice A4 ss.length c4) (by omega) (by omega)).set (b := w.heap.size + 1) 10 (.slice A6 sl.length c6) (by omega) (by omega)
  have hsz := ht.size
  exact ⟨_, _, _, _, rfl, acct_mine_ivl (p1 := W2.heap.size) (p2 := W4.heap.size) ((HH5.out.turned ht (.inr (by omega)) (by omega)).mono (by omega) (by omega)) ((HV5.out.turned ht (.inr (by omega)) (by omega)).mono (by omega) (by omega)) ((HS5.out.turned ht (.inr (by omega)) (by omega)).mono (by omega) (by omega)) (by omega) (by omega) (by omega), HB5.out.trans (ht.below (by omega) (by omega))⟩
end Go.Proofs.YtpeeagkfhdeagaaGreatDoor
