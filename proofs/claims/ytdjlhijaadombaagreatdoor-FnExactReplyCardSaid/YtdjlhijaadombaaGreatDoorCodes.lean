/- The program's table of the codes' texts, as the row lays it; no conditions. -/
import Derived.Test.YtdjlhijaadombaaGreatDoorReplyS
import Derived.Lib.LaidTab
import Derived.Stop.LaidErr
set_option linter.unusedVariables false
namespace Go.Proofs.YtdjlhijaadombaaGreatDoor
open Go.ChangeShapes Go.WideShapes Go.ChangeAt Go.RowKit

set_option maxRecDepth 100000 in
/-- an array of strings that reads as a list of texts holds them, cell for cell -/
theorem cells_of_strs {H : Type} {enc : TypeId × Value → H} {P : Program} {w : World} {base : Nat} {sp : Nat → Bool} {held : Bool} {fuel : Nat} {t e : TypeId} {n : Nat} {cs : List Value} {ss : List (List UInt8)} {p : List MemPlace}
    (ht : P.underlying t = some (.array n e)) (he : P.underlying e = some .string) (hce : P.cellsOf e = 1) (hct : P.cellsOf t = n)
    (h : DataW.trod enc P w base sp held fuel t cs = some (.agg (ss.map fun s => .lit (.string s)), p)) : cs = ss.map fun s => Value.string ⟨s.toArray⟩ := by
  cases fuel with
  | zero => simp [DataW.trod] at h
  | succ fuel =>
    simp only [DataW.trod, ht, hce, hct, Nat.mul_one] at h
    split at h
    · rename_i hl
      obtain ⟨xs, hm, hx⟩ := Option.map_eq_some_iff.1 h
      have hxs : xs.map (·.1) = ss.map fun s => (DataW.lit (.string s) : DataW H) := by
        have := congrArg Prod.fst hx
        simpa using this
      have hxl : xs.length = n := by simpa using Lib.mapM_length hm
      have hzl : ss.length = n := by
        have := congrArg List.length hxs
        simp at this
        omega
      apply List.ext_getElem?
      intro i
      by_cases hi : i < n
      · obtain ⟨b, hb, hf⟩ := Lib.mapM_at hm i i (by simp [hi])
        obtain ⟨z, hc, rfl, _⟩ := DataW.trod_string he hf
        have h1 : cs[i]? = some (.string z) := by
          have := congrArg (·[0]?) hc
          simpa [List.getElem?_take, List.getElem?_drop] using this
        have h2 : (xs.map (·.1))[i]? = some (DataW.lit (.string z.data.toList) : DataW H) := by simp [hb]
        rw [hxs] at h2
        simp only [List.getElem?_map, Option.map_eq_some_iff, DataW.lit.injEq, Lit.string.injEq] at h2
        obtain ⟨s', hs', he'⟩ := h2
        rw [h1, List.getElem?_map, hs']
        have : (⟨s'.toArray⟩ : ByteArray) = z := ByteArray.ext (by rw [he'])
        simp [this]
      · rw [List.getElem?_eq_none (by omega), List.getElem?_eq_none (by simp; omega)]
    · cases h
/-- the texts lie in the program's table -/
def codesIn (w : World) : Prop := strsAt w 0 rsTexts
def codesArr : Array Value := (rsTexts.map fun s => Value.string ⟨s.toArray⟩).toArray
set_option maxRecDepth 100000 in
theorem gCodes : Tryz.prog.globalNamed "loop.example/g00735/impl.codeTexts" = some 0 := by kernel_rfl
set_option maxRecDepth 100000 in
theorem tCodes : (Tryz.prog.globals[0]?).map (·.type) = some 62 := by kernel_rfl
set_option maxRecDepth 100000 in
theorem codes_var {W : World} {rest : List (String × DataW Unit)} (h : laidMet Tryz.prog (("loop.example/g00735/impl.codeTexts", .agg (rsTexts.map fun s => .lit (.string s))) :: rest) W) : W.var? Tryz.prog "loop.example/g00735/impl.codeTexts" = some codesArr := by
  obtain ⟨ps, ⟨g', t', cs, fuel, p, q, hg', ht', hvar, hd, _, _⟩, _⟩ := h
  obtain rfl := Option.some.inj (gCodes.symm.trans hg')
  obtain rfl := Option.some.inj (tCodes.symm.trans ht')
  have hcs := cells_of_strs Tryz.underlying62 Tryz.underlying9 (by kernel_rfl) (by kernel_rfl) hd
  have e : cs = codesArr := Array.toList_inj.1 (by simpa [codesArr] using hcs)
  rw [hvar, e]
set_option maxRecDepth 100000 in
theorem codes_in {W : World} (h : W.var? Tryz.prog "loop.example/g00735/impl.codeTexts" = some codesArr) : codesIn W := by
  intro j x hx
  rw [World.var?_cell gCodes h j]
  simp [codesArr, hx]
set_option maxRecDepth 100000 in
/-- what the variables read as, one by one -/
theorem vars_codes {H : Type} (enc : TypeId × Value → H) {W : World} (sp : Nat → Bool) {ns : List String} {ds : List (DataW H)} {q : List MemPlace} (h : W.var? Tryz.prog "loop.example/g00735/impl.codeTexts" = some codesArr)
    (hr : DataW.TrodVars enc Tryz.prog W sp ns ds q) : DataW.TrodVars enc Tryz.prog W sp ("loop.example/g00735/impl.codeTexts" :: ns) (.agg (rsTexts.map fun s => .lit (.string s)) :: ds) (MemPlace.row ⟨0, 0, none⟩ codesArr.size ++ [] ++ q) :=
  ⟨_, _, codesArr, 2, [], q, gCodes, tCodes, h, by kernel_rfl, hr, rfl⟩
set_option maxRecDepth 100000 in
theorem vars_err {H : Type} (enc : TypeId × Value → H) {P : Program} {W : World} {n : String} {g : Nat} {ti : TypeId} {ms : Array (String × TypeId)} {x : Value} {sp : Nat → Bool} {ns : List String} {ds : List (DataW H)} {q : List MemPlace}
    (hg : P.globalNamed n = some g) (ht : (P.globals[g]?).map (·.type) = some ti) (hi : P.underlying ti = some (.interface ms)) (h : W.var? P n = some #[x]) (ix : IsIface x) (hr : DataW.TrodVars enc P W sp ns ds q) :
    DataW.TrodVars enc P W sp (n :: ns) (tok enc x :: ds) (.cell g 0 :: q) :=
  ⟨g, ti, #[x], 1, [], q, hg, ht, h, trod_held hi ix 0, hr, rfl⟩
set_option maxRecDepth 100000 in
theorem vars_nil {H : Type} (enc : TypeId × Value → H) {P : Program} {W : World} (sp : Nat → Bool) : DataW.TrodVars enc P W sp [] [] [] := rfl
set_option maxRecDepth 100000 in
theorem codesIn.below {w w' : World} (h : codesIn w) (hb : Below w.heap.size w w') : codesIn w' := by
  intro j x hx
  have hc := h j x hx
  have hlt : 0 < w.heap.size := by
    rcases Nat.lt_or_ge 0 w.heap.size with h | h
    · exact h
    · simp [World.cell?, Array.getElem?_eq_none h] at hc
  exact (hb.cell (p := ⟨_, j, none⟩) hlt).trans hc

set_option maxRecDepth 100000 in
theorem implRsText_any (code : Int) (w : World) (hC : codesIn w) : Calls Tryz.prog 20 #[.int .i64 code] w fun e w' => e = .returned (.string (rsText code)) ∧ w = w' := by
  by_cases h : 0 ≤ code ∧ code ≤ 10
  · obtain ⟨k, rfl⟩ := Int.eq_ofNat_of_zero_le h.1
    have hk : k < 11 := by omega
    obtain ⟨t, hx, hr⟩ := rsText_at hk
    have hcell := hC k t hx
    rw [hr]
    have HR := Lib.hid hr
    clear hr hx hC h
    have g0 : 0 ≤ (k : Int) := by omega
    have g1 : (k : Int) < 11 := by omega
    go_enter Tryz.func20, Tryz.ntmps20
    go_wp2
    go_ret
    exact ⟨rfl, rfl⟩
  · have HR := Lib.hid (rsText_out h)
    rw [HR.out]
    have hd : code < 0 ∨ 11 ≤ code := by omega
    clear hC h
    rcases hd with hd | hd
    · go_enter Tryz.func20, Tryz.ntmps20
      go_wp2
      go_ret
      exact ⟨rfl, rfl⟩
    · have hd0 : ¬ code < 0 := by omega
      go_enter Tryz.func20, Tryz.ntmps20
      go_wp2
      go_ret
      exact ⟨rfl, rfl⟩

set_option maxRecDepth 100000 in
theorem index_codes (w : World) {i : Nat} {t : List UInt8} (hi : i < 11) (hx : rsTexts[i]? = some t) : (Instr.index 62 (.agg #[.string ⟨#[48, 48]⟩, .string ⟨#[51, 48]⟩, .string ⟨#[49, 50]⟩, .string ⟨#[49, 52]⟩, .string ⟨#[49, 51]⟩, .string ⟨#[50, 53]⟩, .string ⟨#[57, 52]⟩, .string ⟨#[53, 49]⟩, .string ⟨#[54, 53]⟩, .string ⟨#[54, 49]⟩, .string ⟨#[57, 54]⟩]) (.int .i64 (i : Int))).run Tryz.prog w = .ok (.string ⟨t.toArray⟩) w := by
  have h : i = 0 ∨ i = 1 ∨ i = 2 ∨ i = 3 ∨ i = 4 ∨ i = 5 ∨ i = 6 ∨ i = 7 ∨ i = 8 ∨ i = 9 ∨ i = 10 := by omega
  rcases h with rfl | rfl | rfl | rfl | rfl | rfl | rfl | rfl | rfl | rfl | rfl
  all_goals cases hx
  all_goals rfl

end Go.Proofs.YtdjlhijaadombaaGreatDoor
