/- append of a whole slice of structs; no conditions. -/
import Derived.Test.YtkbakcnhhlmpkaaHoldA
import Derived.Test.YtkbakcnhhlmpkaaAppAll
import Derived.Test.YtkbakcnhhlmpkaaOver
set_option linter.unusedVariables false
namespace Go.Proofs.Ytkbakcnhhlmpkaa
open Go.ChangeShapes Go.WideShapes Go.ChangeAt Go.RowKit

set_option maxRecDepth 100000 in
/-- append(s, src...) onto a row of structs of the call's own -/
theorem app_rows {P : Program} {ops : Array Oper} {rest : List Oper} {o : Oper} {a : Act} {Q : Exit → Act → World → Prop} {α : Type} (enc : α → List Value) (k : Nat) (hk : ∀ x, (enc x).length = k) (hk0 : 0 < k) (hone : ∀ x, ∀ u ∈ enc x, u.oneCell' = true)
    (t e : TypeId) (zs : Array Value) (bytes : Nat) (ht : P.underlying t = some (.slice e)) (hinfo : (P.info? e).map (fun i => (i.zero.map (·.cells), i.size, i.bytes)) = some (some zs, k, bytes)) (hzs : zs.size = k)
    (s x : Operand) (hgd : o.guard = none) (ho : o.op = .call { callee := .builtin .append, args := #[s, x], argTypes := #[t, t] })
    (base : Nat) (W : World) (v : Value) (l m : List α) (A0 : Option Addr) (c0 : Nat) (hs : a.eval s = v) (hx : a.eval x = .slice A0 m.length c0) (hown : owE e k enc base W v l)
    (hsrc : ∀ j y, m[j]? = some y → ∃ b off, A0 = some ⟨b, off, none⟩ ∧ atL W b (off + j * k) (enc y)) (h63 : l.length + m.length ≤ maxLen) (hbytes : (l.length + m.length) * bytes ≤ 140737488355328) (hbase : base ≤ W.heap.size)
    (h : ∀ A c w', owE e k enc base w' (.slice A (l.length + m.length) c) (l ++ m) → W.grownBy w' v.ownBlock → Below base W w' → wpList P ops Q rest (a.put o.dst (.slice A (l.length + m.length) c)) w') : wpList P ops Q (o :: rest) a W := by
  obtain ⟨i, hi, hxx⟩ := Option.map_eq_some_iff.1 hinfo
  simp only [Prod.mk.injEq] at hxx
  obtain ⟨hz, hsize, hby⟩ := hxx
  obtain ⟨z, hzz, hzc⟩ := Option.map_eq_some_iff.1 hz
  have key : ∃ v' w', (Builtin.append_ #[t, t] o.type #[v, .slice A0 m.length c0]).run P W = .ok v' w' ∧ owE e k enc base w' v' (l ++ m) ∧ W.grownBy w' v.ownBlock := by
    cases A0 with
    | none =>
      have hm : m = [] := by
        cases m with
        | nil => rfl
        | cons y m => obtain ⟨b, off, e', -⟩ := hsrc 0 y rfl; cases e'
      subst hm
      exact ⟨v, W, run_app_void W base t o.type e i ht hi v l.length _ k hown c0, by simpa using hown, World.grownBy.refl W _⟩
    | some ad =>
      have hcells : ∀ j u, (m.flatMap enc)[j]? = some u → W.cell? (ad.add j) = some u := by
        intro j u hu
        have hlt := (List.getElem?_eq_some_iff.1 hu).1
        have hlen := flat_len hk m
        rw [hlen] at hlt
        have hq : j / k < m.length := by rw [Nat.div_lt_iff_lt_mul hk0]; exact hlt
        have hr : j % k < k := Nat.mod_lt _ hk0
        have hj : j = j / k * k + j % k := by rw [Nat.mul_comm]; exact (Nat.div_add_mod j k).symm
        obtain ⟨b, off, e', hat⟩ := hsrc (j / k) _ (List.getElem?_eq_getElem hq)
        obtain rfl := Option.some.inj e'
        obtain ⟨u', hu'⟩ : ∃ u', (enc m[j / k])[j % k]? = some u' := ⟨_, List.getElem?_eq_getElem (show j % k < (enc m[j / k]).length by have := hk m[j / k]; omega)⟩
        have h2 := flat_at hk m (j / k) _ (List.getElem?_eq_getElem hq) (j % k) u' hu'
        rw [← hj, hu] at h2
        obtain rfl := Option.some.inj h2
        have h3 := hat (j % k) u hu'
        rw [add_off, show off + j = off + j / k * k + j % k by omega]
        exact h3
      obtain ⟨v', w1, hr, hown', hgrow, -, -⟩ := run_append_own_at (P := P) W base t o.type e i z k bytes ht hi hzz hsize hby (by rw [hzc, hzs]) hk0 v l.length (l.flatMap enc) hown ad m.length c0 (m.flatMap enc) (flat_len hk m) hcells (fun u hu => by obtain ⟨y, -, hy⟩ := List.mem_flatMap.1 hu; exact hone y u hy) h63 hbytes hbase
      refine ⟨v', w1, hr, ?_, hgrow⟩
      unfold owE
      rw [List.length_append, List.flatMap_append]
      exact hown'
  obtain ⟨v', w1, hr, ho', hgrow⟩ := key
  obtain ⟨A, c, rfl, hc'⟩ := ho'.form
  rw [List.length_append] at ho' hr
  refine wpList_plain hgd fun Kn hKn => ?_
  unfold Oper.wp execOp
  simp only [ho, resolve, invoke, builtin, Sem.run_bind, Sem.run_pure, Result.andThen_ok, List.map_toArray, List.map_cons, List.map_nil, hs, hx, hr]
  exact hKn _ _ (h A c w1 ho' hgrow ((Below.refl base W).grown hgrow hbase fun k hk => (hown.lt k hk).1))
end Go.Proofs.Ytkbakcnhhlmpkaa
