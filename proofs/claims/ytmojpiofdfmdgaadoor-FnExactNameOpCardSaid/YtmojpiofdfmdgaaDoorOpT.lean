/- The program's table of operations, as the row lays it: an array of structs of three texts; no conditions. -/
import Derived.Test.YtmojpiofdfmdgaaDoorOpD
import Derived.Lib.LaidTab
import Derived.Stop.LaidErr
set_option linter.unusedVariables false
namespace Go.Proofs.YtmojpiofdfmdgaaDoor
open Go.ChangeShapes Go.WideShapes Go.ChangeAt Go.RowKit

set_option maxRecDepth 100000 in
/-- a struct of three strings that reads as three texts holds them -/
theorem cells_of_three {H : Type} {enc : TypeId × Value → H} {P : Program} {w : World} {base : Nat} {sp : Nat → Bool} {held : Bool} {fuel : Nat} {e s : TypeId} {fs : Array Field} {cs : List Value} {ss : List (List UInt8)} {p : List MemPlace}
    (he : P.underlying e = some (.struct fs)) (hf : fs.toList.map (fun f => (f.type, f.offset)) = [(s, 0), (s, 1), (s, 2)]) (hs : P.underlying s = some .string) (hcs : P.cellsOf s = 1) (hce : P.cellsOf e = 3)
    (h : DataW.trod enc P w base sp held fuel e cs = some (.agg (ss.map fun x => .lit (.string x)), p)) : cs = ss.map fun x => Value.string ⟨x.toArray⟩ := by
  cases fuel with
  | zero => simp [DataW.trod] at h
  | succ fuel =>
    simp only [DataW.trod, he, hce] at h
    split at h
    · rename_i hl
      obtain ⟨xs, hm, hx⟩ := Option.map_eq_some_iff.1 h
      have hxs : xs.map (·.1) = ss.map fun s => (DataW.lit (.string s) : DataW H) := by
        have := congrArg Prod.fst hx
        simpa using this
      have hfl : fs.toList.length = 3 := by
        have := congrArg List.length hf
        simpa using this
      have hxl : xs.length = 3 := by
        have := Lib.mapM_length hm
        omega
      have hzl : ss.length = 3 := by
        have := congrArg List.length hxs
        simp at this
        omega
      apply List.ext_getElem?
      intro i
      by_cases hi : i < 3
      · obtain ⟨f, hfi⟩ : ∃ f, fs.toList[i]? = some f := ⟨_, List.getElem?_eq_getElem (by omega)⟩
        have hto : f.type = s ∧ f.offset = i := by
          have h1 : (fs.toList.map (fun f => (f.type, f.offset)))[i]? = some (f.type, f.offset) := by simp only [List.getElem?_map, hfi, Option.map_some]
          rw [hf] at h1
          have h3 : i = 0 ∨ i = 1 ∨ i = 2 := by omega
          rcases h3 with rfl | rfl | rfl <;> simp at h1 <;> exact ⟨h1.1.symm, h1.2.symm⟩
        obtain ⟨b, hb, hg⟩ := Lib.mapM_at hm i f hfi
        rw [hto.1, hto.2, hcs] at hg
        obtain ⟨z, hc, rfl, _⟩ := DataW.trod_string hs hg
        have h1 : cs[i]? = some (.string z) := by
          have := congrArg (·[0]?) hc
          simpa [List.getElem?_take, List.getElem?_drop] using this
        have h2 : (xs.map (·.1))[i]? = some (DataW.lit (.string z.data.toList) : DataW H) := by simp [hb]
        rw [hxs] at h2
        simp only [List.getElem?_map, Option.map_eq_some_iff, DataW.lit.injEq, Lit.string.injEq] at h2
        obtain ⟨s', hs', he'⟩ := h2
        rw [h1, List.getElem?_map, hs']
        have : (⟨s'.toArray⟩ : ByteArray) = z := ByteArray.ext (by rw [he'])
        simp [this]
      · rw [List.getElem?_eq_none (by omega), List.getElem?_eq_none (by simp; omega)]
    · cases h
set_option maxRecDepth 100000 in
theorem chunks3 (rows : List (List (List UInt8))) : ∀ cs : List Value, cs.length = rows.length * 3 → (∀ i r, rows[i]? = some r → (cs.drop (i * 3)).take 3 = r.map fun x => Value.string ⟨x.toArray⟩) → cs = rows.flatMap fun r => r.map fun x => Value.string ⟨x.toArray⟩ := by
  induction rows with
  | nil => intro cs hl _; simpa using hl
  | cons r rs ih =>
    intro cs hl h
    have h0 := h 0 r rfl
    rw [Nat.zero_mul, List.drop_zero] at h0
    have := ih (cs.drop 3) (by simp at hl ⊢; omega) fun i x hx => by
      have := h (i + 1) x (by simpa using hx)
      rw [List.drop_drop]
      rwa [show 3 + i * 3 = (i + 1) * 3 by omega]
    rw [List.flatMap_cons, ← this, ← h0, List.take_append_drop]
set_option maxRecDepth 100000 in
/-- an array of such structs -/
theorem cells_of_rows {H : Type} {enc : TypeId × Value → H} {P : Program} {w : World} {base : Nat} {sp : Nat → Bool} {held : Bool} {fuel : Nat} {t e s : TypeId} {n : Nat} {fs : Array Field} {cs : List Value} {rows : List (List (List UInt8))} {p : List MemPlace}
    (ht : P.underlying t = some (.array n e)) (hct : P.cellsOf t = n * 3)
    (he : P.underlying e = some (.struct fs)) (hf : fs.toList.map (fun f => (f.type, f.offset)) = [(s, 0), (s, 1), (s, 2)]) (hs : P.underlying s = some .string) (hcs : P.cellsOf s = 1) (hce : P.cellsOf e = 3)
    (h : DataW.trod enc P w base sp held fuel t cs = some (.agg (rows.map fun r => .agg (r.map fun x => .lit (.string x))), p)) : cs = rows.flatMap fun r => r.map fun x => Value.string ⟨x.toArray⟩ := by
  cases fuel with
  | zero => simp [DataW.trod] at h
  | succ fuel =>
    simp only [DataW.trod, ht, hce, hct] at h
    split at h
    · rename_i hl
      obtain ⟨xs, hm, hx⟩ := Option.map_eq_some_iff.1 h
      have hxs : xs.map (·.1) = rows.map fun r => (DataW.agg (r.map fun x => .lit (.string x)) : DataW H) := by
        have := congrArg Prod.fst hx
        simpa using this
      have hxl : xs.length = n := by simpa using Lib.mapM_length hm
      have hzl : rows.length = n := by
        have := congrArg List.length hxs
        simp at this
        omega
      refine chunks3 rows cs (by omega) fun i r hr => ?_
      have hi : i < n := by
        have := (List.getElem?_eq_some_iff.1 hr).1
        omega
      obtain ⟨b, hb, hg⟩ := Lib.mapM_at hm i i (by simp [hi])
      have h2 : (xs.map (·.1))[i]? = some b.1 := by simp [hb]
      rw [hxs, List.getElem?_map, hr] at h2
      obtain ⟨d, q⟩ := b
      simp only [Option.map_some, Option.some.injEq] at h2
      subst h2
      exact cells_of_three he hf hs hcs hce hg
    · cases h

def opDat {H : Type} : DataW H := .agg (opRows.map fun r => .agg (r.map fun x => .lit (.string x)))
def opArr : Array Value := (opRows.flatMap fun r => r.map fun x => Value.string ⟨x.toArray⟩).toArray
/-- the rows lie in the program's table -/
def opsIn (w : World) : Prop := ∀ i k : Nat, i < 9 → k < 3 → w.cell? ⟨0, i * 3 + k, none⟩ = some (.string ⟨(opB k i).toArray⟩)
set_option maxRecDepth 100000 in
theorem gOps : Tryd.prog.globalNamed "loop.example/g00735/impl.opTable" = some 0 := by kernel_rfl
set_option maxRecDepth 100000 in
theorem tOps : (Tryd.prog.globals[0]?).map (·.type) = some 31 := by kernel_rfl
set_option maxRecDepth 100000 in
theorem ops_var {W : World} {rest : List (String × DataW Unit)} (h : laidMet Tryd.prog (("loop.example/g00735/impl.opTable", opDat) :: rest) W) : W.var? Tryd.prog "loop.example/g00735/impl.opTable" = some opArr := by
  obtain ⟨ps, ⟨g', t', cs, fuel, p, q, hg', ht', hvar, hd, _, _⟩, _⟩ := h
  obtain rfl := Option.some.inj (gOps.symm.trans hg')
  obtain rfl := Option.some.inj (tOps.symm.trans ht')
  have hcs := cells_of_rows Tryd.underlying31 (by kernel_rfl) Tryd.underlying29 (s := 9) (by rfl) Tryd.underlying9 (by kernel_rfl) (by kernel_rfl) hd
  have e : cs = opArr := Array.toList_inj.1 (by simpa [opArr] using hcs)
  rw [hvar, e]
set_option maxRecDepth 100000 in
theorem opArr_at : ∀ i : Fin 9, ∀ k : Fin 3, opArr[i.val * 3 + k.val]? = some (.string ⟨(opB k.val i.val).toArray⟩) := by
  rintro ⟨i, hi⟩ ⟨k, hk⟩
  have h1 : i = 0 ∨ i = 1 ∨ i = 2 ∨ i = 3 ∨ i = 4 ∨ i = 5 ∨ i = 6 ∨ i = 7 ∨ i = 8 := by omega
  have h2 : k = 0 ∨ k = 1 ∨ k = 2 := by omega
  rcases h1 with rfl | rfl | rfl | rfl | rfl | rfl | rfl | rfl | rfl <;> rcases h2 with rfl | rfl | rfl <;> rfl
set_option maxRecDepth 100000 in
theorem ops_in {W : World} (h : W.var? Tryd.prog "loop.example/g00735/impl.opTable" = some opArr) : opsIn W := by
  intro i k hi hk
  rw [World.var?_cell gOps h]
  exact opArr_at ⟨i, hi⟩ ⟨k, hk⟩
set_option maxRecDepth 100000 in
theorem vars_ops {H : Type} (enc : TypeId × Value → H) {W : World} (sp : Nat → Bool) {ns : List String} {ds : List (DataW H)} {q : List MemPlace} (h : W.var? Tryd.prog "loop.example/g00735/impl.opTable" = some opArr)
    (hr : DataW.TrodVars enc Tryd.prog W sp ns ds q) : DataW.TrodVars enc Tryd.prog W sp ("loop.example/g00735/impl.opTable" :: ns) (opDat :: ds) (MemPlace.row ⟨0, 0, none⟩ opArr.size ++ [] ++ q) :=
  ⟨_, _, opArr, 3, [], q, gOps, tOps, h, by kernel_rfl, hr, rfl⟩
set_option maxRecDepth 100000 in
theorem ops_err {H : Type} (enc : TypeId × Value → H) {P : Program} {W : World} {n : String} {g : Nat} {ti : TypeId} {ms : Array (String × TypeId)} {x : Value} {sp : Nat → Bool} {ns : List String} {ds : List (DataW H)} {q : List MemPlace}
    (hg : P.globalNamed n = some g) (ht : (P.globals[g]?).map (·.type) = some ti) (hi : P.underlying ti = some (.interface ms)) (h : W.var? P n = some #[x]) (ix : IsIface x) (hr : DataW.TrodVars enc P W sp ns ds q) :
    DataW.TrodVars enc P W sp (n :: ns) (tok enc x :: ds) (.cell g 0 :: q) :=
  ⟨g, ti, #[x], 1, [], q, hg, ht, h, trod_held hi ix 0, hr, rfl⟩
set_option maxRecDepth 100000 in
theorem ops_nil {H : Type} (enc : TypeId × Value → H) {P : Program} {W : World} (sp : Nat → Bool) : DataW.TrodVars enc P W sp [] [] [] := rfl
set_option maxRecDepth 100000 in
theorem opsIn.lt {w : World} (h : opsIn w) : 0 < w.heap.size := by
  have hc := h 0 0 (by omega) (by omega)
  rcases Nat.lt_or_ge 0 w.heap.size with h | h
  · exact h
  · simp [World.cell?, Array.getElem?_eq_none h] at hc
set_option maxRecDepth 100000 in
theorem opsIn.below {w w' : World} (h : opsIn w) (hb : Below w.heap.size w w') : opsIn w' := fun i k hi hk => (hb.cell (p := ⟨_, _, none⟩) h.lt).trans (h i k hi hk)
end Go.Proofs.YtmojpiofdfmdgaaDoor
