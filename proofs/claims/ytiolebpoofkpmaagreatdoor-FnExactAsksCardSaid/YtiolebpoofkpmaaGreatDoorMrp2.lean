/- The program's table of operations, as the row lays it: an array of structs of three texts; no conditions. -/
import Derived.Test.YtiolebpoofkpmaaGreatDoorMrp1
import Derived.Lib.LaidTab
import Derived.Stop.LaidErr
import Derived.BigQuiet
import Derived.Deep.QuietTactic
import Derived.Deep.RegionWith
import Derived.Deep.Cut
import Derived.Deep.DeepCutAuto
import Derived.Lib.ItoaNum
import Derived.Lib.ItoaLen
import Derived.OwnWalk
import Derived.Laws.AppendOwn
import Derived.Laws.Rows
import Derived.Laws.MakeOwn
set_option linter.unusedVariables false
namespace Go.Proofs.YtiolebpoofkpmaaGreatDoor
open Go.ChangeShapes Go.WideShapes Go.ChangeAt Go.RowKit

set_option maxRecDepth 100000 in
/-- a struct of three strings that reads as three texts holds them -/
theorem cells_of_three {H : Type} {enc : TypeId × Value → H} {P : Program} {w : World} {base : Nat} {sp : Nat → Bool} {held : Bool} {fuel : Nat} {e s : TypeId} {fs : Array Field} {cs : List Value} {ss : List (List UInt8)} {p : List MemPlace}
    (he : P.underlying e = some (.struct fs)) (hf : fs.toList.map (fun f => (f.type, f.offset)) = [(s, 0), (s, 1), (s, 2)]) (hs : P.underlying s = some .string) (hcs : P.cellsOf s = 1) (hce : P.cellsOf e = 3)
    (h : DataW.trod enc P w base sp held fuel e cs = some (.agg (ss.map fun x => .lit (.string x)), p)) : cs = ss.map fun x => Value.string ⟨x.toArray⟩ := by
  cases fuel with
  | zero => simp [DataW.trod] at h
  | succ fuel =>
    simp only [DataW.trod, he, hce] at h
    split at h
    · rename_i hl
      obtain ⟨xs, hm, hx⟩ := Option.map_eq_some_iff.1 h
      have hxs : xs.map (·.1) = ss.map fun s => (DataW.lit (.string s) : DataW H) := by
        have := congrArg Prod.fst hx
        simpa using this
      have hfl : fs.toList.length = 3 := by
        have := congrArg List.length hf
        simpa using this
      have hxl : xs.length = 3 := by
        have := Lib.mapM_length hm
        omega
      have hzl : ss.length = 3 := by
        have := congrArg List.length hxs
        simp at this
        omega
      apply List.ext_getElem?
      intro i
      by_cases hi : i < 3
      · obtain ⟨f, hfi⟩ : ∃ f, fs.toList[i]? = some f := ⟨_, List.getElem?_eq_getElem (by omega)⟩
        have hto : f.type = s ∧ f.offset = i := by
          have h1 : (fs.toList.map (fun f => (f.type, f.offset)))[i]? = some (f.type, f.offset) := by simp only [List.getElem?_map, hfi, Option.map_some]
          rw [hf] at h1
          have h3 : i = 0 ∨ i = 1 ∨ i = 2 := by omega
          rcases h3 with rfl | rfl | rfl <;> simp at h1 <;> exact ⟨h1.1.symm, h1.2.symm⟩
        obtain ⟨b, hb, hg⟩ := Lib.mapM_at hm i f hfi
        rw [hto.1, hto.2, hcs] at hg
        obtain ⟨z, hc, rfl, _⟩ := DataW.trod_string hs hg
        have h1 : cs[i]? = some (.string z) := by
          have := congrArg (·[0]?) hc
          simpa [List.getElem?_take, List.getElem?_drop] using this
        have h2 : (xs.map (·.1))[i]? = some (DataW.lit (.string z.data.toList) : DataW H) := by simp [hb]
        rw [hxs] at h2
        simp only [List.getElem?_map, Option.map_eq_some_iff, DataW.lit.injEq, Lit.string.injEq] at h2
        obtain ⟨s', hs', he'⟩ := h2
        rw [h1, List.getElem?_map, hs']
        have : (⟨s'.toArray⟩ : ByteArray) = z := ByteArray.ext (by rw [he'])
        simp [this]
      · rw [List.getElem?_eq_none (by omega), List.getElem?_eq_none (by simp; omega)]
    · cases h
set_option maxRecDepth 100000 in
theorem chunks3 (rows : List (List (List UInt8))) : ∀ cs : List Value, cs.length = rows.length * 3 → (∀ i r, rows[i]? = some r → (cs.drop (i * 3)).take 3 = r.map fun x => Value.string ⟨x.toArray⟩) → cs = rows.flatMap fun r => r.map fun x => Value.string ⟨x.toArray⟩ := by
  induction rows with
  | nil => intro cs hl _; simpa using hl
  | cons r rs ih =>
    intro cs hl h
    have h0 := h 0 r rfl
    rw [Nat.zero_mul, List.drop_zero] at h0
    have := ih (cs.drop 3) (by simp at hl ⊢; omega) fun i x hx => by
      have := h (i + 1) x (by simpa using hx)
      rw [List.drop_drop]
      rwa [show 3 + i * 3 = (i + 1) * 3 by omega]
    rw [List.flatMap_cons, ← this, ← h0, List.take_append_drop]
set_option maxRecDepth 100000 in
/-- an array of such structs -/
theorem cells_of_rows {H : Type} {enc : TypeId × Value → H} {P : Program} {w : World} {base : Nat} {sp : Nat → Bool} {held : Bool} {fuel : Nat} {t e s : TypeId} {n : Nat} {fs : Array Field} {cs : List Value} {rows : List (List (List UInt8))} {p : List MemPlace}
    (ht : P.underlying t = some (.array n e)) (hct : P.cellsOf t = n * 3)
    (he : P.underlying e = some (.struct fs)) (hf : fs.toList.map (fun f => (f.type, f.offset)) = [(s, 0), (s, 1), (s, 2)]) (hs : P.underlying s = some .string) (hcs : P.cellsOf s = 1) (hce : P.cellsOf e = 3)
    (h : DataW.trod enc P w base sp held fuel t cs = some (.agg (rows.map fun r => .agg (r.map fun x => .lit (.string x))), p)) : cs = rows.flatMap fun r => r.map fun x => Value.string ⟨x.toArray⟩ := by
  cases fuel with
  | zero => simp [DataW.trod] at h
  | succ fuel =>
    simp only [DataW.trod, ht, hce, hct] at h
    split at h
    · rename_i hl
      obtain ⟨xs, hm, hx⟩ := Option.map_eq_some_iff.1 h
      have hxs : xs.map (·.1) = rows.map fun r => (DataW.agg (r.map fun x => .lit (.string x)) : DataW H) := by
        have := congrArg Prod.fst hx
        simpa using this
      have hxl : xs.length = n := by simpa using Lib.mapM_length hm
      have hzl : rows.length = n := by
        have := congrArg List.length hxs
        simp at this
        omega
      refine chunks3 rows cs (by omega) fun i r hr => ?_
      have hi : i < n := by
        have := (List.getElem?_eq_some_iff.1 hr).1
        omega
      obtain ⟨b, hb, hg⟩ := Lib.mapM_at hm i i (by simp [hi])
      have h2 : (xs.map (·.1))[i]? = some b.1 := by simp [hb]
      rw [hxs, List.getElem?_map, hr] at h2
      obtain ⟨d, q⟩ := b
      simp only [Option.map_some, Option.some.injEq] at h2
      subst h2
      exact cells_of_three he hf hs hcs hce hg
    · cases h

def opDat {H : Type} : DataW H := .agg (opRows.map fun r => .agg (r.map fun x => .lit (.string x)))
def opArr : Array Value := (opRows.flatMap fun r => r.map fun x => Value.string ⟨x.toArray⟩).toArray
/-- the rows lie in the program's table -/
def opsIn (w : World) : Prop := ∀ i k : Nat, i < 9 → k < 3 → w.cell? ⟨0, i * 3 + k, none⟩ = some (.string ⟨(opB k i).toArray⟩)
set_option maxRecDepth 100000 in
theorem gOps : Tryz.prog.globalNamed "loop.example/g00735/impl.opTable" = some 0 := by kernel_rfl
set_option maxRecDepth 100000 in
theorem tOps : (Tryz.prog.globals[0]?).map (·.type) = some 112 := by kernel_rfl
set_option maxRecDepth 100000 in
theorem ops_var {W : World} {rest : List (String × DataW Unit)} (h : laidMet Tryz.prog (("loop.example/g00735/impl.opTable", opDat) :: rest) W) : W.var? Tryz.prog "loop.example/g00735/impl.opTable" = some opArr := by
  obtain ⟨ps, ⟨g', t', cs, fuel, p, q, hg', ht', hvar, hd, _, _⟩, _⟩ := h
  obtain rfl := Option.some.inj (gOps.symm.trans hg')
  obtain rfl := Option.some.inj (tOps.symm.trans ht')
  have hcs := cells_of_rows Tryz.underlying112 (by kernel_rfl) Tryz.underlying111 (s := 9) (by rfl) Tryz.underlying9 (by kernel_rfl) (by kernel_rfl) hd
  have e : cs = opArr := Array.toList_inj.1 (by simpa [opArr] using hcs)
  rw [hvar, e]
set_option maxRecDepth 100000 in
theorem opArr_at : ∀ i : Fin 9, ∀ k : Fin 3, opArr[i.val * 3 + k.val]? = some (.string ⟨(opB k.val i.val).toArray⟩) := by
  rintro ⟨i, hi⟩ ⟨k, hk⟩
  have h1 : i = 0 ∨ i = 1 ∨ i = 2 ∨ i = 3 ∨ i = 4 ∨ i = 5 ∨ i = 6 ∨ i = 7 ∨ i = 8 := by omega
  have h2 : k = 0 ∨ k = 1 ∨ k = 2 := by omega
  rcases h1 with rfl | rfl | rfl | rfl | rfl | rfl | rfl | rfl | rfl <;> rcases h2 with rfl | rfl | rfl <;> rfl
set_option maxRecDepth 100000 in
theorem ops_in {W : World} (h : W.var? Tryz.prog "loop.example/g00735/impl.opTable" = some opArr) : opsIn W := by
  intro i k hi hk
  rw [World.var?_cell gOps h]
  exact opArr_at ⟨i, hi⟩ ⟨k, hk⟩
set_option maxRecDepth 100000 in
theorem vars_ops {H : Type} (enc : TypeId × Value → H) {W : World} (sp : Nat → Bool) {ns : List String} {ds : List (DataW H)} {q : List MemPlace} (h : W.var? Tryz.prog "loop.example/g00735/impl.opTable" = some opArr)
    (hr : DataW.TrodVars enc Tryz.prog W sp ns ds q) : DataW.TrodVars enc Tryz.prog W sp ("loop.example/g00735/impl.opTable" :: ns) (opDat :: ds) (MemPlace.row ⟨0, 0, none⟩ opArr.size ++ [] ++ q) :=
  ⟨_, _, opArr, 3, [], q, gOps, tOps, h, by kernel_rfl, hr, rfl⟩
set_option maxRecDepth 100000 in
theorem ops_err {H : Type} (enc : TypeId × Value → H) {P : Program} {W : World} {n : String} {g : Nat} {ti : TypeId} {ms : Array (String × TypeId)} {x : Value} {sp : Nat → Bool} {ns : List String} {ds : List (DataW H)} {q : List MemPlace}
    (hg : P.globalNamed n = some g) (ht : (P.globals[g]?).map (·.type) = some ti) (hi : P.underlying ti = some (.interface ms)) (h : W.var? P n = some #[x]) (ix : IsIface x) (hr : DataW.TrodVars enc P W sp ns ds q) :
    DataW.TrodVars enc P W sp (n :: ns) (tok enc x :: ds) (.cell g 0 :: q) :=
  ⟨g, ti, #[x], 1, [], q, hg, ht, h, trod_held hi ix 0, hr, rfl⟩
set_option maxRecDepth 100000 in
theorem ops_nil {H : Type} (enc : TypeId × Value → H) {P : Program} {W : World} (sp : Nat → Bool) : DataW.TrodVars enc P W sp [] [] [] := rfl
set_option maxRecDepth 100000 in
theorem opsIn.lt {w : World} (h : opsIn w) : 0 < w.heap.size := by
  have hc := h 0 0 (by omega) (by omega)
  rcases Nat.lt_or_ge 0 w.heap.size with h | h
  · exact h
  · simp [World.cell?, Array.getElem?_eq_none h] at hc
set_option maxRecDepth 100000 in
theorem opsIn.below {w w' : World} (h : opsIn w) (hb : Below w.heap.size w w') : opsIn w' := fun i k hi hk => (hb.cell (p := ⟨_, _, none⟩) h.lt).trans (h i k hi hk)
end Go.Proofs.YtiolebpoofkpmaaGreatDoor
set_option linter.unusedVariables false
namespace Go.Proofs.YtiolebpoofkpmaaGreatDoor
open Go.ChangeShapes Go.WideShapes Go.ChangeAt Go.RowKit

/-- block b holds the strings of a list -/
def strRow (w : World) (b : Nat) (l : List (List UInt8)) : Prop := ∀ (j : Nat) (x : List UInt8), l[j]? = some x → w.cell? ⟨b, j, none⟩ = some (.string ⟨x.toArray⟩)
/-- .. and may be written -/
def strFree (w : World) (b n : Nat) : Prop := ∀ j : Nat, j < n → w.frozen? ⟨b, j, none⟩ = false
set_option maxRecDepth 100000 in
theorem strRow.below {w w' : World} {b B : Nat} {l : List (List UInt8)} (h : strRow w b l) (hb : Below B w w') (hlt : b < B) : strRow w' b l := fun j x hx => (hb.cell (p := ⟨b, j, none⟩) hlt).trans (h j x hx)
set_option maxRecDepth 100000 in
theorem strFree.below {w w' : World} {b B n : Nat} (h : strFree w b n) (hb : Below B w w') (hlt : b < B) : strFree w' b n := fun j hj => (hb.frozen (p := ⟨b, j, none⟩) hlt).trans (h j hj)

/-- the text of a mark -/
def markOf (k : Int) : List UInt8 := 109 :: Lib.decDigits k.toNat
set_option maxRecDepth 100000 in
theorem str_appS (a b : List UInt8) : ((⟨a.toArray⟩ : ByteArray) ++ (⟨b.toArray⟩ : ByteArray)) = ⟨(a ++ b).toArray⟩ := by apply ByteArray.ext; simp
set_option maxRecDepth 100000 in
theorem str_consS (c : UInt8) (b : List UInt8) : ((⟨#[c]⟩ : ByteArray) ++ (⟨b.toArray⟩ : ByteArray)) = ⟨(c :: b).toArray⟩ := str_appS [c] b
/-- the digits still to come -/
def restOf (k : Int) : List UInt8 := if k ≤ 0 then [] else Lib.decDigits k.toNat
set_option maxRecDepth 100000 in
theorem rest_all {k : Int} (h : 0 < k) : restOf k = Lib.decDigits k.toNat := by unfold restOf; rw [if_neg (by omega)]
set_option maxRecDepth 100000 in
theorem rest_none {k : Int} (h : k ≤ 0) : restOf k = [] := by unfold restOf; rw [if_pos h]
set_option maxRecDepth 100000 in
theorem rest_step {k : Int} (h : 0 < k) (t : List UInt8) : restOf (k / 10) ++ (UInt8.ofNat (48 + k % 10).toNat :: t) = restOf k ++ t := by
  rw [rest_all h]
  by_cases h1 : k < 10
  · rw [rest_none (k := k / 10) (by omega), Lib.decDigits_one (i := k.toNat) (by omega), show (48 + k % 10).toNat = 48 + k.toNat by omega]; rfl
  · rw [rest_all (k := k / 10) (by omega)]
    conv => rhs; rw [Lib.decDigits, dif_neg (show ¬ k.toNat < 10 by omega)]
    rw [show (k / 10).toNat = k.toNat / 10 by omega, show (48 + k % 10).toNat = 48 + k.toNat % 10 by omega]
    simp
set_option maxRecDepth 100000 in
theorem rest_len {k : Int} {t l : List UInt8} (h : restOf k ++ t = l) : t.length ≤ l.length := by rw [← h, List.length_append]; omega
set_option maxRecDepth 100000 in
theorem mark_len (k : Int) (h : k ≤ 1000000000) : (Lib.decDigits k.toNat).length ≤ 20 := by rw [Lib.decDigits_length]; exact Lib.nDigits_le20 _ (by omega)
set_option maxRecDepth 100000 in
set_option maxHeartbeats 800000 in
theorem markText_any (k : Int) (w : World) (h0 : 0 < k) (h1 : k ≤ 1000000000) :
    Calls Tryz.prog 17 #[.int .i64 k] w fun e w' => e = .returned (.string ⟨(markOf k).toArray⟩) ∧ Below w.heap.size w w' := by
  have hcv := fun (W : World) (c : Int) (T : TypeId) => conv_one W c T
  go_enter Tryz.func17, Tryz.ntmps17
  go_wp2
  go_loopw [3, 0] (fun tv kv wr => ∃ (m : Int) (t : List UInt8), kv = .int .i64 m ∧ tv = .string ⟨t.toArray⟩ ∧ restOf m ++ t = Lib.decDigits k.toNat ∧ 0 ≤ m ∧ m ≤ 1000000000 ∧ Below w.heap.size w wr) (fun _ kv _ => (intOf kv).toNat)
  case atStart => exact ⟨k, [], rfl, rfl, by simp [rest_all h0], by omega, h1, Below.refl _ _⟩
  case round =>
    obtain ⟨m, t, rfl, rfl, hd, hm0, hm1, hb⟩ := hrel
    have hl := rest_len hd
    have hl2 := mark_len k h1
    have hl3 : t.length ≤ 20 := by omega
    have HD := Lib.hid hd
    clear hd hl hl2
    by_cases hpos : 0 < m
    · have hst := Lib.hid (rest_step hpos t)
      go_wp2
      go_roundw
      case rel => exact ⟨m / 10, _, rfl, congrArg Value.string (str_consS _ _), hst.out.trans HD.out, by omega, by omega, hb.alloc hb.size _⟩
      case measure => simp [intOf] <;> omega
    · have hst := Lib.hid (rest_none (k := m) (by omega))
      go_wp2
      go_ret
      refine ⟨congrArg (fun b => Ending.returned (Value.string b)) ((str_consS _ _).trans ?_), hb⟩
      have := HD.out
      rw [hst.out] at this
      unfold markOf
      rw [← this]; rfl

/-- of what was there block b alone may have turned -/
structure wrote (b : Nat) (w w' : World) : Prop where
  os : w'.os = w.os
  tape : w'.tape = w.tape
  output : w'.output = w.output
  size : w.heap.size ≤ w'.heap.size
  block : ∀ k, k < w.heap.size → k ≠ b → w'.heap[k]? = w.heap[k]?
set_option maxRecDepth 100000 in
theorem wrote.refl (b : Nat) (w : World) : wrote b w w := ⟨rfl, rfl, rfl, Nat.le_refl _, fun _ _ _ => rfl⟩
set_option maxRecDepth 100000 in
theorem wrote.then {b : Nat} {u v w : World} (h : wrote b u v) (g : Below v.heap.size v w) : wrote b u w :=
  ⟨g.os.trans h.os, g.tape.trans h.tape, g.output.trans h.output, Nat.le_trans h.size g.size, fun k hk hne => (g.block k (Nat.lt_of_lt_of_le hk h.size)).trans (h.block k hk hne)⟩
set_option maxRecDepth 100000 in
theorem wrote.set {b : Nat} {u v : World} (h : wrote b u v) (o : Nat) (x : Value) : wrote b u (v.setCell ⟨b, o, none⟩ x) :=
  ⟨h.os, h.tape, h.output, by simpa [World.setCell] using h.size, fun k hk hne => (Below.heap_setCell _ _ _ _ hne).trans (h.block k hk hne)⟩
set_option maxRecDepth 100000 in
theorem wrote.below {b B : Nat} {u v : World} (h : wrote b u v) (hB : B ≤ b) (hs : B ≤ u.heap.size) : Below B u v := ⟨h.os, h.tape, h.output, h.size, fun k hk => h.block k (by omega) (by omega)⟩
set_option maxRecDepth 100000 in
theorem wrote.row {b c : Nat} {u v : World} {l : List (List UInt8)} (h : wrote b u v) (hc : c < u.heap.size) (hne : c ≠ b) (hr : strRow u c l) : strRow v c l := fun j x hx =>
  (World.cell?_of_block (h.block c hc hne)).trans (hr j x hx)

/-- the first i places hold marks, all places can be written -/
def marked (w : World) (b : Nat) (k : Int) (i n : Nat) : Prop := ∀ j : Nat, j < n → w.frozen? ⟨b, j, none⟩ = false ∧ (∃ v, w.cell? ⟨b, j, none⟩ = some v) ∧ (j < i → w.cell? ⟨b, j, none⟩ = some (.string ⟨(markOf (k + j)).toArray⟩))
set_option maxRecDepth 100000 in
theorem marked.below {w w' : World} {b : Nat} {k : Int} {i n : Nat} (h : marked w b k i n) (hb : Below w.heap.size w w') (hlt : b < w.heap.size) : marked w' b k i n := fun j hj =>
  ⟨(hb.frozen (p := ⟨b, j, none⟩) hlt).trans (h j hj).1, by obtain ⟨v, hv⟩ := (h j hj).2.1; exact ⟨v, (hb.cell (p := ⟨b, j, none⟩) hlt).trans hv⟩, fun hi => (hb.cell (p := ⟨b, j, none⟩) hlt).trans ((h j hj).2.2 hi)⟩
set_option maxRecDepth 100000 in
theorem marked.set {w : World} {b : Nat} {k : Int} {i n : Nat} (h : marked w b k i n) (hi : i < n) : marked (w.setCell ⟨b, i, none⟩ (.string ⟨(markOf (k + i)).toArray⟩)) b k (i + 1) n := by
  intro j hj
  have hf : ∀ a, (w.setCell ⟨b, i, none⟩ (.string ⟨(markOf (k + i)).toArray⟩)).frozen? a = w.frozen? a := fun a => by simp
  refine ⟨(hf _).trans (h j hj).1, ?_⟩
  by_cases e : i = j
  · subst e
    obtain ⟨v, hv⟩ := (h i hj).2.1
    have := World.cell?_setCell_same w ⟨b, i, none⟩ (.string ⟨(markOf (k + i)).toArray⟩) hv
    exact ⟨⟨_, this⟩, fun _ => this⟩
  · have hne : ∀ x, (w.setCell ⟨b, i, none⟩ x).cell? ⟨b, j, none⟩ = w.cell? ⟨b, j, none⟩ := fun x => World.cell?_setCell_other _ _ _ _ (fun he => e (by simpa using congrArg Addr.off he))
    obtain ⟨v, hv⟩ := (h j hj).2.1
    exact ⟨⟨v, (hne _).trans hv⟩, fun hlt => (hne _).trans ((h j hj).2.2 (by omega))⟩

end Go.Proofs.YtiolebpoofkpmaaGreatDoor
set_option linter.unusedVariables false
namespace Go.Proofs.YtiolebpoofkpmaaGreatDoor
open Go.ChangeShapes Go.WideShapes Go.ChangeAt Go.RowKit

/-- block g holds these cells, all of them free to be written -/
def bk (w : World) (g : Nat) (t : TypeId) (cs : List Value) : Prop := w.heap[g]? = some (.cells cs.toArray t (0, 0))
set_option maxRecDepth 100000 in
theorem bk.lt {w : World} {g : Nat} {t : TypeId} {cs : List Value} (h : bk w g t cs) : g < w.heap.size := (Array.getElem?_eq_some_iff.1 h).1
set_option maxRecDepth 100000 in
theorem bk.cell {w : World} {g : Nat} {t : TypeId} {cs : List Value} (h : bk w g t cs) (i : Nat) : w.cell? ⟨g, i, none⟩ = cs[i]? := by
  rw [cell_of_row w g i cs.toArray t (0, 0) h]; simp
set_option maxRecDepth 100000 in
theorem bk.frozen {w : World} {g : Nat} {t : TypeId} {cs : List Value} (h : bk w g t cs) (i : Nat) : w.frozen? ⟨g, i, none⟩ = false := by
  unfold bk at h; simp [World.frozen?, h]
set_option maxRecDepth 100000 in
theorem bk.below {w w' : World} {g B : Nat} {t : TypeId} {cs : List Value} (h : bk w g t cs) (hb : Below B w w') (hg : g < B) : bk w' g t cs := (hb.block g hg).trans h
set_option maxRecDepth 100000 in
theorem bk.alloc {w : World} {g : Nat} {t : TypeId} {cs : List Value} (h : bk w g t cs) (o : Obj) : bk (w.alloc o) g t cs := (Below.heap_alloc w o g h.lt).trans h
set_option maxRecDepth 100000 in
theorem bk.new (w : World) (t : TypeId) (cs : List Value) : bk (w.alloc (.cells cs.toArray t)) w.heap.size t cs := heap_alloc_new w _
set_option maxRecDepth 100000 in
theorem bk.far {w : World} {g : Nat} {t : TypeId} {cs : List Value} (h : bk w g t cs) {p : Addr} (hp : g ≠ p.block) (u : Value) : bk (w.setCell p u) g t cs := (Below.heap_setCell w p u g hp).trans h
set_option maxRecDepth 100000 in
theorem bk.set {w : World} {g : Nat} {t : TypeId} {cs : List Value} (h : bk w g t cs) (i : Nat) (u : Value) : bk (w.setCell ⟨g, i, none⟩ u) g t (cs.set i u) := by
  unfold bk at h ⊢
  simp [World.setCell, Array.getElem?_modify, h]
set_option maxRecDepth 100000 in
theorem bk.drew {w : World} {g : Nat} {t : TypeId} {cs : List Value} (h : bk w g t cs) : bk w.drew g t cs := h
set_option maxRecDepth 100000 in
theorem bk.drewN {w : World} {g : Nat} {t : TypeId} {cs : List Value} (h : bk w g t cs) (n : Nat) : bk (w.drewN n) g t cs := h
set_option maxRecDepth 100000 in
theorem bk.grown {w w' : World} {g : Nat} {t : TypeId} {cs : List Value} {row : Option Nat} (h : bk w g t cs) (hg : w.grownBy w' row) (hr : row ≠ some g) : bk w' g t cs := (hg.block g h.lt (fun e => hr e.symm)).trans h
set_option maxRecDepth 100000 in
theorem below_set {B : Nat} {a w : World} {g i : Nat} {u : Value} (h : Below B a w) (hg : B ≤ g) : Below B a (w.setCell ⟨g, i, none⟩ u) := h.setCell (p := ⟨g, i, none⟩) hg u
set_option maxRecDepth 100000 in
theorem below_new {B : Nat} {a w : World} {o : Obj} (h : Below B a w) (hg : B ≤ w.heap.size) : Below B a (w.alloc o) := h.alloc hg o
end Go.Proofs.YtiolebpoofkpmaaGreatDoor
set_option linter.unusedVariables false
namespace Go.Proofs.YtiolebpoofkpmaaGreatDoor
open Go.ChangeShapes Go.WideShapes Go.ChangeAt Go.RowKit

/-- a type's layout: how many cells; which cells read as which data below block hi; which are memory of one's own in the blocks F -/
structure Rep (α : Type) where
  k : Nat
  rd : Nat → World → List Value → α → Prop
  own : World → List Value → α → List Nat → Prop
  rd_len : ∀ {hi w cs x}, rd hi w cs x → cs.length = k
  rd_keep : ∀ {hi w w' cs x}, rd hi w cs x → (∀ b, b < hi → w'.heap[b]? = w.heap[b]?) → rd hi w' cs x
  rd_mono : ∀ {hi hi' w cs x}, rd hi w cs x → hi ≤ hi' → rd hi' w cs x
  own_keep : ∀ {w w' cs x F}, own w cs x F → (∀ b ∈ F, w'.heap[b]? = w.heap[b]?) → own w' cs x F
  own_rd : ∀ {hi w cs x F}, own w cs x F → (∀ b ∈ F, b < hi) → rd hi w cs x
  one : ∀ {hi w cs x}, rd hi w cs x → ∀ c ∈ cs, c.oneCell' = true

def Rep.one1 {α : Type} (f : α → Value) (hf : ∀ x, (f x).oneCell' = true) : Rep α where
  k := 1
  rd _ _ cs x := cs = [f x]
  own _ cs x F := cs = [f x] ∧ F = []
  rd_len := by rintro hi w cs x rfl; rfl
  rd_keep := fun h _ => h
  rd_mono := fun h _ => h
  own_keep := fun h _ => h
  own_rd := fun h _ => h.1
  one := by rintro hi w cs x rfl c hc; rw [List.mem_singleton.1 hc]; exact hf x
def Rep.int (K : IntKind) : Rep Int := Rep.one1 (Value.int K) (fun _ => rfl)
def Rep.str : Rep ByteArray := Rep.one1 Value.string (fun _ => rfl)
def Rep.bool : Rep Bool := Rep.one1 Value.bool (fun _ => rfl)
def Rep.pair {α β : Type} (R : Rep α) (S : Rep β) : Rep (α × β) where
  k := R.k + S.k
  rd hi w cs x := ∃ a b, cs = a ++ b ∧ R.rd hi w a x.1 ∧ S.rd hi w b x.2
  own w cs x F := ∃ a b G H, cs = a ++ b ∧ F = G ++ H ∧ R.own w a x.1 G ∧ S.own w b x.2 H
  rd_len := by rintro hi w cs x ⟨a, b, rfl, h1, h2⟩; rw [List.length_append, R.rd_len h1, S.rd_len h2]
  rd_keep := by rintro hi w w' cs x ⟨a, b, rfl, h1, h2⟩ hk; exact ⟨a, b, rfl, R.rd_keep h1 hk, S.rd_keep h2 hk⟩
  rd_mono := by rintro hi hi' w cs x ⟨a, b, rfl, h1, h2⟩ hk; exact ⟨a, b, rfl, R.rd_mono h1 hk, S.rd_mono h2 hk⟩
  own_keep := by rintro w w' cs x F ⟨a, b, G, H, rfl, rfl, h1, h2⟩ hk; exact ⟨a, b, G, H, rfl, rfl, R.own_keep h1 fun b hb => hk b (List.mem_append_left _ hb), S.own_keep h2 fun b hb => hk b (List.mem_append_right _ hb)⟩
  own_rd := by rintro hi w cs x F ⟨a, b, G, H, rfl, rfl, h1, h2⟩ hk; exact ⟨a, b, rfl, R.own_rd h1 fun b hb => hk b (List.mem_append_left _ hb), S.own_rd h2 fun b hb => hk b (List.mem_append_right _ hb)⟩
  one := by
    rintro hi w cs x ⟨a, b, rfl, h1, h2⟩ c hc
    rcases List.mem_append.1 hc with h | h
    · exact R.one h1 c h
    · exact S.one h2 c h

set_option maxRecDepth 100000 in
theorem cell_keep {w w' : World} {b o : Nat} (h : w'.heap[b]? = w.heap[b]?) : w'.cell? ⟨b, o, none⟩ = w.cell? ⟨b, o, none⟩ := World.cell?_of_block (a := ⟨b, o, none⟩) h
set_option maxRecDepth 100000 in
theorem frozen_keep {w w' : World} {b o : Nat} (h : w'.heap[b]? = w.heap[b]?) : w'.frozen? ⟨b, o, none⟩ = w.frozen? ⟨b, o, none⟩ := World.frozen?_of_block (a := ⟨b, o, none⟩) h

/-- element j of a row of elements of k cells each, from cell off on -/
def atL (w : World) (b o : Nat) (xs : List Value) : Prop := ∀ t u, xs[t]? = some u → w.cell? ⟨b, o + t, none⟩ = some u
def freeL (w : World) (b o n : Nat) : Prop := ∀ t, t < n → w.frozen? ⟨b, o + t, none⟩ = false
def Rep.slice {α : Type} (R : Rep α) : Rep (List α) where
  k := 1
  rd hi w cs l := ∃ A c, cs = [.slice A l.length c] ∧ l.length ≤ c ∧ ∀ j x, l[j]? = some x → ∃ b off xs, A = some ⟨b, off, none⟩ ∧ b < hi ∧ R.rd hi w xs x ∧ atL w b (off + j * R.k) xs
  own w cs l F := ∃ A c, cs = [.slice A l.length c] ∧ l.length ≤ c ∧ ((l = [] ∧ F = []) ∨ ∃ b off Fs, A = some ⟨b, off, none⟩ ∧ F = b :: List.flatten Fs ∧ Fs.length = l.length ∧ ∀ j x G, l[j]? = some x → Fs[j]? = some G → ∃ xs, R.own w xs x G ∧ atL w b (off + j * R.k) xs ∧ freeL w b (off + j * R.k) R.k)
  rd_len := by rintro hi w cs x ⟨A, c, rfl, _⟩; rfl
  rd_keep := by
    rintro hi w w' cs l ⟨A, c, rfl, hc, h⟩ hk
    refine ⟨A, c, rfl, hc, fun j x hx => ?_⟩
    obtain ⟨b, off, xs, rfl, hb, hr, ha⟩ := h j x hx
    exact ⟨b, off, xs, rfl, hb, R.rd_keep hr hk, fun t u hu => (cell_keep (hk b hb)).trans (ha t u hu)⟩
  rd_mono := by
    rintro hi hi' w cs l ⟨A, c, rfl, hc, h⟩ hk
    refine ⟨A, c, rfl, hc, fun j x hx => ?_⟩
    obtain ⟨b, off, xs, rfl, hb, hr, ha⟩ := h j x hx
    exact ⟨b, off, xs, rfl, by omega, R.rd_mono hr hk, ha⟩
  own_keep := by
    rintro w w' cs l F ⟨A, c, rfl, hc, h⟩ hk
    refine ⟨A, c, rfl, hc, ?_⟩
    rcases h with h | ⟨b, off, Fs, rfl, rfl, hl, h⟩
    · exact .inl h
    · refine .inr ⟨b, off, Fs, rfl, rfl, hl, fun j x G hx hG => ?_⟩
      obtain ⟨xs, h1, h2, h3⟩ := h j x G hx hG
      have hb := hk b (List.mem_cons_self ..)
      exact ⟨xs, R.own_keep h1 fun b' hb' => hk b' (List.mem_cons_of_mem _ (List.mem_flatten.2 ⟨G, List.mem_of_getElem? hG, hb'⟩)), fun t u hu => (cell_keep hb).trans (h2 t u hu), fun t ht => (frozen_keep hb).trans (h3 t ht)⟩
  own_rd := by
    rintro hi w cs l F ⟨A, c, rfl, hc, h⟩ hk
    refine ⟨A, c, rfl, hc, fun j x hx => ?_⟩
    rcases h with ⟨rfl, _⟩ | ⟨b, off, Fs, rfl, rfl, hl, h⟩
    · simp at hx
    · have hj : j < l.length := (List.getElem?_eq_some_iff.1 hx).1
      have hG : Fs[j]? = some (Fs[j]'(by omega)) := List.getElem?_eq_getElem (by omega)
      obtain ⟨xs, h1, h2, h3⟩ := h j x _ hx hG
      exact ⟨b, off, xs, rfl, hk b (List.mem_cons_self ..), R.own_rd h1 fun b' hb' => hk b' (List.mem_cons_of_mem _ (List.mem_flatten.2 ⟨_, List.mem_of_getElem? hG, hb'⟩)), h2⟩
  one := by rintro hi w cs x ⟨A, c, rfl, _⟩ v hv; rw [List.mem_singleton.1 hv]; rfl

/-- memory of one's own from block lo up to block hi, no block twice -/
def Rep.mine {α : Type} (R : Rep α) (lo hi : Nat) (w : World) (cs : List Value) (x : α) : Prop := ∃ F, R.own w cs x F ∧ F.Nodup ∧ ∀ b ∈ F, lo ≤ b ∧ b < hi
section
variable {α β : Type} {R : Rep α} {S : Rep β} {lo lo' hi hi' B : Nat} {w w' : World} {cs : List Value} {x : α}
set_option maxRecDepth 100000 in
theorem Rep.mine.rd (h : R.mine lo hi w cs x) : R.rd hi w cs x := by
  obtain ⟨F, h1, _, h3⟩ := h
  exact R.own_rd h1 fun b hb => (h3 b hb).2
set_option maxRecDepth 100000 in
theorem Rep.mine.mono (h : R.mine lo hi w cs x) (h1 : lo' ≤ lo) (h2 : hi ≤ hi') : R.mine lo' hi' w cs x := by
  obtain ⟨F, h3, h4, h5⟩ := h
  exact ⟨F, h3, h4, fun b hb => by have := h5 b hb; omega⟩
set_option maxRecDepth 100000 in
theorem Rep.mine.keep (h : R.mine lo hi w cs x) (hk : ∀ b, lo ≤ b → b < hi → w'.heap[b]? = w.heap[b]?) : R.mine lo hi w' cs x := by
  obtain ⟨F, h3, h4, h5⟩ := h
  exact ⟨F, R.own_keep h3 fun b hb => hk b (h5 b hb).1 (h5 b hb).2, h4, h5⟩
set_option maxRecDepth 100000 in
theorem Rep.mine.below (h : R.mine lo hi w cs x) (hb : Below B w w') (hB : hi ≤ B) : R.mine lo hi w' cs x := h.keep fun b _ h2 => hb.block b (by omega)
set_option maxRecDepth 100000 in
theorem Rep.below (h : R.rd hi w cs x) (hb : Below B w w') (hB : hi ≤ B) : R.rd hi w' cs x := R.rd_keep h fun b h2 => hb.block b (by omega)
end
/-- only blocks from lo up to hi have turned, and new ones have come -/
structure Turned (lo hi : Nat) (w w' : World) : Prop where
  os : w'.os = w.os
  tape : w'.tape = w.tape
  output : w'.output = w.output
  size : w.heap.size ≤ w'.heap.size
  block : ∀ b, b < w.heap.size → (b < lo ∨ hi ≤ b) → w'.heap[b]? = w.heap[b]?
set_option maxRecDepth 100000 in
theorem Turned.refl (lo hi : Nat) (w : World) : Turned lo hi w w := ⟨rfl, rfl, rfl, Nat.le_refl _, fun _ _ _ => rfl⟩
set_option maxRecDepth 100000 in
theorem Turned.trans {lo hi : Nat} {u v w : World} (h : Turned lo hi u v) (g : Turned lo hi v w) : Turned lo hi u w :=
  ⟨g.os.trans h.os, g.tape.trans h.tape, g.output.trans h.output, Nat.le_trans h.size g.size, fun b h1 h2 => (g.block b (Nat.lt_of_lt_of_le h1 h.size) h2).trans (h.block b h1 h2)⟩
set_option maxRecDepth 100000 in
theorem Turned.mono {lo hi lo' hi' : Nat} {u v : World} (h : Turned lo hi u v) (h1 : lo' ≤ lo) (h2 : hi ≤ hi') : Turned lo' hi' u v :=
  ⟨h.os, h.tape, h.output, h.size, fun b hb hh => h.block b hb (by omega)⟩
set_option maxRecDepth 100000 in
theorem Turned.of_below {lo hi : Nat} {u v : World} (h : Below u.heap.size u v) : Turned lo hi u v := ⟨h.os, h.tape, h.output, h.size, fun b hb _ => h.block b hb⟩
set_option maxRecDepth 100000 in
theorem Turned.below {lo hi B : Nat} {u v : World} (h : Turned lo hi u v) (hB : B ≤ lo) (hs : B ≤ u.heap.size) : Below B u v := ⟨h.os, h.tape, h.output, h.size, fun b hb => h.block b (by omega) (by omega)⟩
set_option maxRecDepth 100000 in
theorem Turned.set {lo hi : Nat} {u v : World} (h : Turned lo hi u v) {b : Nat} (o : Nat) (x : Value) (h1 : lo ≤ b) (h2 : b < hi) : Turned lo hi u (v.setCell ⟨b, o, none⟩ x) :=
  ⟨h.os, h.tape, h.output, by simpa [World.setCell] using h.size, fun k hk hh => (Below.heap_setCell _ _ _ _ (show k ≠ b by omega)).trans (h.block k hk hh)⟩
set_option maxRecDepth 100000 in
theorem Turned.of_grown {lo hi : Nat} {u v : World} {row : Option Nat} (h : u.grownBy v row) (hr : ∀ b, row = some b → lo ≤ b ∧ b < hi) : Turned lo hi u v :=
  ⟨h.os, h.tape, h.output, h.size, fun b hb hh => h.block b hb (fun e => by have := hr b e.symm; omega)⟩
section
variable {α : Type} {R : Rep α} {lo hi lo' hi' : Nat} {w w' : World} {cs : List Value} {x : α}
set_option maxRecDepth 100000 in
theorem Rep.turned (h : R.rd hi w cs x) (ht : Turned lo' hi' w w') (h1 : hi ≤ lo') (h2 : hi ≤ w.heap.size) : R.rd hi w' cs x := R.rd_keep h fun b hb => ht.block b (by omega) (by omega)
set_option maxRecDepth 100000 in
theorem Rep.mine.turned (h : R.mine lo hi w cs x) (ht : Turned lo' hi' w w') (h1 : hi ≤ lo' ∨ hi' ≤ lo) (h2 : hi ≤ w.heap.size) : R.mine lo hi w' cs x := h.keep fun b hb1 hb2 => ht.block b (by omega) (by omega)
end

set_option maxRecDepth 100000 in
theorem Rep.slice_form {α : Type} {R : Rep α} {hi : Nat} {w : World} {v : Value} {l : List α} (h : R.slice.rd hi w [v] l) : ∃ A c, v = .slice A l.length c ∧ l.length ≤ c := by
  obtain ⟨A, c, hv, hc, _⟩ := h
  exact ⟨A, c, by simpa using hv, hc⟩
/-! slices of numbers in the elder words -/
set_option maxRecDepth 100000 in
theorem atL_one {w : World} {b o : Nat} {u : Value} : atL w b o [u] ↔ w.cell? ⟨b, o, none⟩ = some u := by
  constructor
  · intro h; exact h 0 u rfl
  · intro h t v hv
    cases t with
    | zero => cases hv; exact h
    | succ t => simp at hv
end Go.Proofs.YtiolebpoofkpmaaGreatDoor
set_option linter.unusedVariables false
namespace Go.Proofs.YtiolebpoofkpmaaGreatDoor
open Go.ChangeShapes Go.WideShapes Go.ChangeAt Go.RowKit

set_option maxRecDepth 100000 in
theorem bk.under {w w' : World} {lo hi g : Nat} {t : TypeId} {cs : List Value} (h : bk w g t cs) (ht : Turned lo hi w w') (hg : g < lo ∨ hi ≤ g) : bk w' g t cs := (ht.block g h.lt (by omega)).trans h
end Go.Proofs.YtiolebpoofkpmaaGreatDoor
set_option linter.unusedVariables false
namespace Go.Proofs.YtiolebpoofkpmaaGreatDoor
open Go.ChangeShapes Go.WideShapes Go.ChangeAt Go.RowKit

/-- cells stored one behind the other -/
def setsAt (w : World) (b o : Nat) : List Value → World
  | [] => w
  | u :: us => setsAt (w.setCell ⟨b, o, none⟩ u) b (o + 1) us
/-- n cells from o on are there and may be written -/
def roomL (w : World) (b o n : Nat) : Prop := ∀ t, t < n → (∃ u, w.cell? ⟨b, o + t, none⟩ = some u) ∧ w.frozen? ⟨b, o + t, none⟩ = false
set_option maxRecDepth 100000 in
theorem roomL.set {w : World} {b o n : Nat} (h : roomL w b o n) (p : Nat) (x : Value) : roomL (w.setCell ⟨b, p, none⟩ x) b o n := fun t ht => by
  obtain ⟨⟨u, hu⟩, hf⟩ := h t ht
  refine ⟨?_, by simpa using hf⟩
  by_cases e : p = o + t
  · subst e; exact ⟨_, World.cell?_setCell_same w _ x hu⟩
  · exact ⟨u, (World.cell?_setCell_other _ _ _ _ (fun he => e (by have := congrArg Addr.off he; simp at this; omega))).trans hu⟩
set_option maxRecDepth 100000 in
theorem roomL.keep {w w' : World} {b o n : Nat} (h : roomL w b o n) (hk : w'.heap[b]? = w.heap[b]?) : roomL w' b o n := fun t ht => by
  obtain ⟨⟨u, hu⟩, hf⟩ := h t ht
  exact ⟨⟨u, (cell_keep hk).trans hu⟩, (frozen_keep hk).trans hf⟩
set_option maxRecDepth 100000 in
theorem roomL.sub {w : World} {b o n o' n' : Nat} (h : roomL w b o n) (h1 : o ≤ o') (h2 : o' + n' ≤ o + n) : roomL w b o' n' := fun t ht => by
  have := h (o' - o + t) (by omega)
  rwa [show o + (o' - o + t) = o' + t by omega] at this
set_option maxRecDepth 100000 in
theorem roomL.free {w : World} {b o n : Nat} (h : roomL w b o n) : freeL w b o n := fun t ht => (h t ht).2
set_option maxRecDepth 100000 in
theorem atL.keep {w w' : World} {b o : Nat} {us : List Value} (h : atL w b o us) (hk : w'.heap[b]? = w.heap[b]?) : atL w' b o us := fun t u hu => (cell_keep hk).trans (h t u hu)
set_option maxRecDepth 100000 in
theorem atL.set_far {w : World} {b o p : Nat} {us : List Value} (h : atL w b o us) (hp : p < o ∨ o + us.length ≤ p) (x : Value) : atL (w.setCell ⟨b, p, none⟩ x) b o us := fun t u hu => by
  have ht := (List.getElem?_eq_some_iff.1 hu).1
  exact (World.cell?_setCell_other _ _ _ _ (fun he => by have := congrArg Addr.off he; simp at this; omega)).trans (h t u hu)
set_option maxRecDepth 100000 in
theorem setsAt_far (us : List Value) : ∀ (w : World) (b o : Nat) (vs : List Value) (p : Nat), atL w b p vs → (p + vs.length ≤ o ∨ o + us.length ≤ p) → atL (setsAt w b o us) b p vs := by
  induction us with
  | nil => intro w b o vs p h _; exact h
  | cons u us ih =>
    intro w b o vs p h hp
    simp only [List.length_cons] at hp
    exact ih _ b (o + 1) vs p (h.set_far (by omega) u) (by omega)
set_option maxRecDepth 100000 in
theorem setsAt_room (us : List Value) : ∀ (w : World) (b o p n : Nat), roomL w b p n → roomL (setsAt w b o us) b p n := by
  induction us with
  | nil => intro w b o p n h; exact h
  | cons u us ih => intro w b o p n h; exact ih _ b (o + 1) p n (h.set _ _)
set_option maxRecDepth 100000 in
theorem setsAt_at (us : List Value) : ∀ (w : World) (b o : Nat), roomL w b o us.length → atL (setsAt w b o us) b o us := by
  induction us with
  | nil => intro w b o _ t u hu; simp at hu
  | cons u us ih =>
    intro w b o h t v hv
    have hroom := h.set o u
    obtain ⟨⟨x, hx⟩, _⟩ := h 0 (by simp)
    have h0 : atL (w.setCell ⟨b, o, none⟩ u) b o [u] := atL_one.2 (World.cell?_setCell_same w ⟨b, o, none⟩ u hx)
    have h1 := setsAt_far us (w.setCell ⟨b, o, none⟩ u) b (o + 1) [u] o h0 (.inl (by simp))
    have h2 := ih (w.setCell ⟨b, o, none⟩ u) b (o + 1) (hroom.sub (by omega) (by simp; omega))
    cases t with
    | zero => cases hv; exact atL_one.1 h1
    | succ t =>
      have := h2 t v (by simpa using hv)
      rwa [show o + 1 + t = o + (t + 1) by omega] at this
set_option maxRecDepth 100000 in
theorem setsAt_turned {lo hi : Nat} {u : World} (us : List Value) : ∀ (w : World) (b o : Nat), Turned lo hi u w → lo ≤ b → b < hi → Turned lo hi u (setsAt w b o us) := by
  induction us with
  | nil => intro w b o h _ _; exact h
  | cons v us ih => intro w b o h h1 h2; exact ih _ b (o + 1) (h.set o v h1 h2) h1 h2
/-- of n elements of k cells each in block b the first i hold E 0, E 1, ..; all cells are there and may be written -/
structure filled (w : World) (b off k n i : Nat) (E : Nat → List Value) : Prop where
  room : roomL w b off (n * k)
  at_ : ∀ j, j < i → atL w b (off + j * k) (E j)
set_option maxRecDepth 100000 in
theorem filled.start {w : World} {b off k n : Nat} {E : Nat → List Value} (h : roomL w b off (n * k)) : filled w b off k n 0 E := ⟨h, fun j hj => absurd hj (by omega)⟩
set_option maxRecDepth 100000 in
theorem filled.keep {w w' : World} {b off k n i : Nat} {E : Nat → List Value} (h : filled w b off k n i E) (hk : w'.heap[b]? = w.heap[b]?) : filled w' b off k n i E := ⟨h.room.keep hk, fun j hj => (h.at_ j hj).keep hk⟩
set_option maxRecDepth 100000 in
theorem mul_step {j k i : Nat} (h : j < i) : j * k + k ≤ i * k := by
  have : (j + 1) * k ≤ i * k := Nat.mul_le_mul_right k h
  rwa [Nat.add_mul, Nat.one_mul] at this
set_option maxRecDepth 100000 in
theorem filled.next {w : World} {b off k n i : Nat} {E : Nat → List Value} (h : filled w b off k n i E) (hi : i < n) (hE : ∀ j, j ≤ i → (E j).length = k) : filled (setsAt w b (off + i * k) (E i)) b off k n (i + 1) E := by
  have hik := mul_step (k := k) hi
  refine ⟨setsAt_room _ _ _ _ _ _ h.room, fun j hj => ?_⟩
  by_cases e : j = i
  · subst e
    exact setsAt_at _ _ _ _ (h.room.sub (by omega) (by rw [hE j (Nat.le_refl _)]; omega))
  · have hjk := mul_step (k := k) (show j < i by omega)
    exact setsAt_far _ _ _ _ _ _ (h.at_ j (by omega)) (.inl (by rw [hE j (by omega)]; omega))
set_option maxRecDepth 100000 in
/-- a cell of element j -/
theorem filled.cells {w : World} {b off k n i j : Nat} {E : Nat → List Value} (h : filled w b off k n i E) (hj : j < n) (t : Nat) (ht : t < k) : (∃ u, w.cell? ⟨b, off + j * k + t, none⟩ = some u) ∧ w.frozen? ⟨b, off + j * k + t, none⟩ = false := by
  have hjk := mul_step (k := k) hj
  have := h.room (j * k + t) (by omega)
  rwa [← Nat.add_assoc] at this
end Go.Proofs.YtiolebpoofkpmaaGreatDoor
