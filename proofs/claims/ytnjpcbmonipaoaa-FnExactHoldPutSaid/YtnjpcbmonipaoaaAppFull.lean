/- append(s[:n:n], T{..}): a slice without room is copied; where a part of a slice lies; no conditions. -/
import Derived.Test.YtnjpcbmonipaoaaAppRows
import Derived.ArgAppend
set_option linter.unusedVariables false
namespace Go.Proofs.Ytnjpcbmonipaoaa
open Go.ChangeShapes Go.WideShapes Go.ChangeAt Go.RowKit

set_option maxRecDepth 100000 in
/-- append(s, T{..}) where s has no room; a step of a region that draws its order -/
theorem app_full_step {P : Program} {ops : Array Oper} {o : Oper} {a : Act} {Kn : Act → World → Prop} {Q : Exit → Act → World → Prop} {E : Prop} {α : Type} (enc : α → List Value) (k : Nat) (hk : ∀ x, (enc x).length = k) (hk0 : 0 < k) (hone : ∀ x, ∀ u ∈ enc x, u.oneCell' = true)
    (t e : TypeId) (zs : Array Value) (bytes : Nat) (ht : P.underlying t = some (.slice e)) (hinfo : (P.info? e).map (fun i => (i.zero.map (·.cells), i.size, i.bytes)) = some (some zs, k, bytes)) (hzs : zs.size = k)
    (s x : Operand) (hgd : o.guard = none) (ho : o.op = .call { callee := .builtin .append, args := #[s, x], argTypes := #[t, t] })
    (W : World) (A : Option Addr) (l : List α) (y : α) (n m : Nat) (us : Array Value) (hus : us.toList = enc y) (hm : m = l.length) (hs : a.eval s = .slice A m m) (hx : a.eval x = .slice (some ⟨n, 0, none⟩) 1 1) (hn : n = W.heap.size)
    (hsrc : ∀ j z, l[j]? = some z → ∃ b off, A = some ⟨b, off, none⟩ ∧ b < W.heap.size ∧ atL W b (off + j * k) (enc z)) (h63 : l.length + 1 ≤ maxLen) (hbytes : (l.length + 1) * bytes ≤ 140737488355328)
    (h : ∀ A' c w', owE e k enc (W.heap.size + 1) w' (.slice A' (l.length + 1) c) (l ++ [y]) → l.length + 1 ≤ c → (W.alloc (.cells us e)).grownBy w' none → Kn (a.put o.dst (.slice A' (l.length + 1) c)) w') : if Region.wanted o (yielded ops a.tmps) = true then o.wp P a (W.alloc (.cells us e)) Kn Q else E := by
  rw [if_pos (by simp [Region.wanted, hgd])]
  subst hn hm
  obtain ⟨i, hi, hxx⟩ := Option.map_eq_some_iff.1 hinfo
  simp only [Prod.mk.injEq] at hxx
  obtain ⟨hz, hsize, hby⟩ := hxx
  obtain ⟨z, hzz, hzc⟩ := Option.map_eq_some_iff.1 hz
  have hcells : ∀ j u, (enc y)[j]? = some u → (W.alloc (.cells us e)).cell? ((⟨W.heap.size, 0, none⟩ : Addr).add j) = some u := by
    intro j u hu
    rw [add_off, Nat.zero_add, cell_of_row _ _ j us e (0, 0) (heap_alloc_new _ _), ← Array.getElem?_toList, hus]
    exact hu
  have key : ∃ v' w1, (Builtin.append_ #[t, t] o.type #[.slice A l.length l.length, .slice (some ⟨W.heap.size, 0, none⟩) 1 1]).run P (W.alloc (.cells us e)) = .ok v' w1 ∧ w1.ownsRow (W.heap.size + 1) e k v' (l.length + 1) (l.flatMap enc ++ enc y) ∧ (W.alloc (.cells us e)).grownBy w1 none := by
    cases A with
    | none =>
      obtain rfl : l = [] := by
        cases l with
        | nil => rfl
        | cons z l => obtain ⟨b, off, e', -⟩ := hsrc 0 z rfl; cases e'
      obtain ⟨v', w1, hrun, r1, r2, _⟩ := run_append_own (P := P) (W.alloc (.cells us e)) (W.heap.size + 1) t o.type e i z k bytes ht hi hzz hsize hby (by rw [hzc, hzs]) hk0 (.slice none 0 0) 0 [] (World.ownsRow_nil _ _ e k) ⟨W.heap.size, 0, none⟩ 1 1 (enc y) (by rw [hk]; omega) hcells (hone y) (by simpa using h63) (by simpa using hbytes) (by simp)
      exact ⟨v', w1, hrun, r1, r2⟩
    | some ad =>
      have holds : ∀ j u, (l.flatMap enc)[j]? = some u → (W.alloc (.cells us e)).cell? (ad.add j) = some u := by
        intro j u hu
        have hlt := (List.getElem?_eq_some_iff.1 hu).1
        have hlen := flat_len hk l
        rw [hlen] at hlt
        have hq : j / k < l.length := by rw [Nat.div_lt_iff_lt_mul hk0]; exact hlt
        have hr : j % k < k := Nat.mod_lt _ hk0
        have hj : j = j / k * k + j % k := by rw [Nat.mul_comm]; exact (Nat.div_add_mod j k).symm
        obtain ⟨b, off, e', hb, hat⟩ := hsrc (j / k) _ (List.getElem?_eq_getElem hq)
        obtain rfl := Option.some.inj e'
        obtain ⟨u', hu'⟩ : ∃ u', (enc l[j / k])[j % k]? = some u' := ⟨_, List.getElem?_eq_getElem (show j % k < (enc l[j / k]).length by have := hk l[j / k]; omega)⟩
        have h2 := flat_at hk l (j / k) _ (List.getElem?_eq_getElem hq) (j % k) u' hu'
        rw [← hj, hu] at h2
        obtain rfl := Option.some.inj h2
        have h3 := hat (j % k) u hu'
        rw [add_off, show off + j = off + j / k * k + j % k by omega]
        exact (((Below.refl W.heap.size W).alloc (Nat.le_refl _) _).cell (p := ⟨b, _, none⟩) hb).trans h3
      obtain ⟨v', w1, hrun, r1, r2⟩ := run_append_arg_grows (P := P) (W.alloc (.cells us e)) t o.type e i z k bytes ht hi hzz hsize hby (by rw [hzc, hzs]) hk0 ad l.length l.length (l.flatMap enc) (flat_len hk l) holds ⟨W.heap.size, 0, none⟩ 1 1 (enc y) (by rw [hk]; omega) hcells (by omega) h63 hbytes
      exact ⟨v', w1, hrun, by simpa using r1, r2⟩
  obtain ⟨v', w1, hr, hown, hgrow⟩ := key
  have ho' : owE e k enc (W.heap.size + 1) w1 v' (l ++ [y]) := by
    unfold owE
    rw [List.length_append, List.flatMap_append]
    simpa using hown
  obtain ⟨A', c, rfl, hc⟩ := ho'.form
  rw [List.length_append] at ho' hc hr
  unfold Oper.wp execOp
  simp only [ho, resolve, invoke, builtin, Sem.run_bind, Sem.run_pure, Result.andThen_ok, List.map_toArray, List.map_cons, List.map_nil, hs, hx, hr]
  exact h A' c w1 ho' hc hgrow
set_option maxRecDepth 100000 in
/-- where s[p:] lies -/
theorem slice_low {A : Option Addr} {n c p k b off : Nat} (hp : p < n) (hc : n ≤ c) (hA : A = some ⟨b, off, none⟩) : (if c = p then A else Option.map (fun x => x.add (p * k)) A) = some ⟨b, off + p * k, none⟩ := by
  subst hA
  rw [if_neg (by omega)]
  simp [add_off]
end Go.Proofs.Ytnjpcbmonipaoaa
