/- The search of the program, over holds by their ids; HoldAt; no conditions. -/
import Derived.Test.YtnjpcbmonipaoaaHoldJ
import Derived.Test.YtnjpcbmonipaoaaShelf
set_option linter.unusedVariables false
namespace Go.Proofs.Ytnjpcbmonipaoaa
open Go.ChangeShapes Go.WideShapes Go.ChangeAt Go.RowKit

set_option maxRecDepth 100000 in
theorem implCompareId_any (x : HoldD) (id : ByteArray) (w : World) :
    Calls Try.prog 40 #[.agg #[.string x.1, .int .i64 x.2.1, .int .i64 x.2.2], .string id] w fun e w' => e = .returned (.int .i64 (Lib.compareBytes x.1.data.toList id.data.toList)) ∧ Below w.heap.size w w' := by
  have HB0 : Hid (Below w.heap.size w (w.alloc (.cells #[.string x.1, .int .i64 x.2.1, .int .i64 x.2.2] 27))) := Lib.hid ((Below.refl _ _).alloc (Nat.le_refl _) _)
  have HC := Lib.hid (fun W => Try.strings_Compare x.1 id W)
  go_enter Try.func40, Try.ntmps40
  go_wp2_with fail
  refine (HC.out _).mono ?_
  rintro e w1 ⟨rfl, rfl⟩
  go_wp2
  go_ret
  exact ⟨rfl, HB0.out⟩
/-- the place, over the first i elements -/
def placeTo (l : List HoldD) (id : ByteArray) (i : Nat) : Nat := ((l.take i).findIdx? fun x => strLt id x.1).getD l.length
set_option maxRecDepth 100000 in
theorem placeTo_end (l : List HoldD) (id : ByteArray) : placeTo l id l.length = placeH l id := by unfold placeTo placeH; rw [List.take_length]
set_option maxRecDepth 100000 in
theorem placeTo_not {l : List HoldD} {id : ByteArray} {i : Nat} {x : HoldD} (hx : l[i]? = some x) (h : strLt id x.1 = false) : placeTo l id (i + 1) = placeTo l id i := by
  obtain ⟨hi, rfl⟩ := List.getElem?_eq_some_iff.1 hx
  unfold placeTo
  rw [List.take_succ_eq_append_getElem hi, List.findIdx?_append, List.findIdx?_cons, if_neg (by simp [h])]
  cases (l.take i).findIdx? fun x => strLt id x.1 <;> simp
set_option maxRecDepth 100000 in
theorem placeTo_yes {l : List HoldD} {id : ByteArray} {i : Nat} {x : HoldD} (hx : l[i]? = some x) (h : strLt id x.1 = true) : (placeTo l id i < i ∧ placeTo l id (i + 1) = placeTo l id i) ∨ (i < placeTo l id i ∧ placeTo l id (i + 1) = i) := by
  obtain ⟨hi, rfl⟩ := List.getElem?_eq_some_iff.1 hx
  unfold placeTo
  rw [List.take_succ_eq_append_getElem hi, List.findIdx?_append, List.findIdx?_cons, if_pos h]
  cases hf : (l.take i).findIdx? fun x => strLt id x.1 with
  | none => exact .inr ⟨by simpa using hi, by simp; omega⟩
  | some k =>
    have := (List.findIdx?_eq_some_iff_getElem.1 hf).1
    rw [List.length_take] at this
    exact .inl ⟨by simp; omega, by simp⟩
set_option maxRecDepth 100000 in
theorem placeTo_le (l : List HoldD) (id : ByteArray) (i : Nat) : placeTo l id i ≤ l.length := by
  unfold placeTo
  cases hf : (l.take i).findIdx? fun x => strLt id x.1 with
  | none => exact Nat.le_refl _
  | some k =>
    have := (List.findIdx?_eq_some_iff_getElem.1 hf).1
    rw [List.length_take] at this
    simp; omega
set_option maxRecDepth 100000 in
theorem search_none {l : List HoldD} {id : ByteArray} (h : ∀ x ∈ l, x.1 ≠ id) : searchH l id = (placeH l id, false) := by
  have h1 : l.findIdx? (fun x => decide (x.1 = id)) = none := List.findIdx?_eq_none_iff.2 fun x hx => decide_eq_false (h x hx)
  unfold searchH
  rw [h1]
set_option maxRecDepth 100000 in
theorem search_some {l : List HoldD} {id : ByteArray} {i : Nat} {x : HoldD} (hx : l[i]? = some x) (he : x.1 = id) (h : ∀ y ∈ l.take i, y.1 ≠ id) : searchH l id = (i, true) := by
  obtain ⟨hi, rfl⟩ := List.getElem?_eq_some_iff.1 hx
  have h1 : l.findIdx? (fun x => decide (x.1 = id)) = some i := by
    rw [List.findIdx?_eq_some_iff_getElem]
    refine ⟨hi, decide_eq_true he, fun j hj => ?_⟩
    have hm : l[j] ∈ l.take i := by rw [List.mem_take_iff_getElem]; exact ⟨j, by omega, rfl⟩
    simpa using h _ hm
  unfold searchH
  rw [h1]
def searchV (p : Nat × Bool) : Value := .tuple #[.int .i64 (p.1 : Int), .bool p.2]
set_option maxRecDepth 100000 in
set_option maxHeartbeats 1600000 in
theorem implSearch_any (hi : Nat) (v : Value) (l : List HoldD) (id : ByteArray) (w : World) (hn : l.length ≤ 1048576) (h : HoldsR.rd hi w [v] l) (hh : hi ≤ w.heap.size) :
    Calls Try.prog 39 #[v, .string id, .func (.func 40) #[] #[]] w fun e w' => e = .returned (searchV (searchH l id)) ∧ Below w.heap.size w w' := by
  obtain ⟨A, c, rfl, hc, h⟩ := holds_rd h
  have HR := Lib.hid h
  clear h
  have HST : Hid (Value.int .i64 (l.length : Int) = .int .i64 (placeTo l id 0 : Nat)) := Lib.hid rfl
  go_enter Try.func39, Try.ntmps39
  go_wp2
  go_loopw [8, 16] (fun pv iv wr => ∃ i : Nat, i ≤ l.length ∧ iv = .int .i64 i ∧ pv = .int .i64 (placeTo l id i : Nat) ∧ Hid (∀ y ∈ l.take i, y.1 ≠ id) ∧ Hid (Below w.heap.size w wr) ∧ w.heap.size ≤ wr.heap.size) (fun _ iv _ => l.length - (intOf iv).toNat)
  case atStart => exact ⟨0, Nat.zero_le _, rfl, HST.out, Lib.hid (by simp), Lib.hid (Below.refl _ _), Nat.le_refl _⟩
  case round =>
    obtain ⟨i, hi', rfl, rfl, HN, HB, hz⟩ := hrel
    by_cases hin : i < l.length
    · obtain ⟨x, hx⟩ : ∃ x, l[i]? = some x := ⟨_, List.getElem?_eq_getElem hin⟩
      obtain ⟨b, off, rfl, hbl, c0, c1, c2⟩ := HR.out i x hx
      have HX := Lib.hid hx
      have HCI := Lib.hid (fun W => implCompareId_any x id W)
      have hpl := placeTo_le l id i
      clear hx
      have c0 := (HB.out.cell (p := ⟨b, off + i * 3, none⟩) (show b < w.heap.size by omega)).trans c0
      have c1 := (HB.out.cell (p := ⟨b, off + i * 3 + 1, none⟩) (show b < w.heap.size by omega)).trans c1
      have c2 := (HB.out.cell (p := ⟨b, off + i * 3 + 2, none⟩) (show b < w.heap.size by omega)).trans c2
      have g1 : (i : Int) < (l.length : Int) := by omega
      have g2 : 0 ≤ (i : Int) := by omega
      go_upto_region 5 with fail
      obtain ⟨W, hW⟩ : ∃ W, W = wr.alloc (.cells #[.string x.1, .int .i64 x.2.1, .int .i64 x.2.2] 27) := ⟨_, rfl⟩
      have b0 : bk W wr.heap.size 27 [.string x.1, .int .i64 x.2.1, .int .i64 x.2.2] := by rw [hW]; exact bk.new wr _ _
      have HB0 : Hid (Below w.heap.size w W) := Lib.hid (by rw [hW]; exact HB.out.alloc hz _)
      have z0 := b0.lt
      rw [← hW]
      clear hW c0 c1 c2
      obtain ⟨p0, p1, p2⟩ := b0.cells3
      go_wp2_with fail
      refine (HCI.out _).mono ?_
      rintro e w1 ⟨rfl, hb1⟩
      have HB1 : Hid (Below w.heap.size w w1) := Lib.hid (HB0.out.trans (hb1.mono (by omega)))
      have z1 := hb1.size
      clear hb1 p0 p1 p2 b0
      rcases str_cmp x.1 id with ⟨h1, h2, h3, h4⟩ | ⟨h1, h2⟩ | ⟨h1, h2, h3, h4⟩
      · have HP := Lib.hid (placeTo_not HX.out h3)
        have HN2 : Hid (∀ y ∈ l.take (i + 1), y.1 ≠ id) := Lib.hid (by
          obtain ⟨h5, h6⟩ := List.getElem?_eq_some_iff.1 HX.out
          rw [List.take_succ_eq_append_getElem h5, h6]
          intro y hy
          rcases List.mem_append.1 hy with hy | hy
          · exact HN.out y hy
          · rw [List.mem_singleton.1 hy]; exact h4)
        rw [h1]
        clear h1 h2 h3 h4
        go_wp2
        go_roundw
        case rel => exact ⟨i + 1, by omega, by go_num, by rw [HP.out], HN2, HB1, by omega⟩
        case measure => simp [intOf] <;> omega
      · have HV := Lib.hid (search_some HX.out h2 HN.out)
        rw [h1]
        clear h1 h2
        go_wp2
        refine bodyPost_ret (v := .tuple #[.int .i64 (i : Int), .bool true]) (by simp [results, Try.results39, go_sem]) rfl ?_
        exact ⟨by rw [HV.out]; rfl, HB1.out⟩
      · have hpy := placeTo_yes HX.out h2
        have HN2 : Hid (∀ y ∈ l.take (i + 1), y.1 ≠ id) := Lib.hid (by
          obtain ⟨h5, h6⟩ := List.getElem?_eq_some_iff.1 HX.out
          rw [List.take_succ_eq_append_getElem h5, h6]
          intro y hy
          rcases List.mem_append.1 hy with hy | hy
          · exact HN.out y hy
          · rw [List.mem_singleton.1 hy]; exact h4)
        rw [h1]
        clear h1 h2 h3 h4
        rcases hpy with ⟨g3, hp⟩ | ⟨g3, hp⟩
        · have HP := Lib.hid hp
          clear hp
          generalize placeTo l id i = p at g3 HP hpl
          have g4 : (p : Int) < (i : Int) := by omega
          go_wp2
          go_roundw
          case rel => exact ⟨i + 1, by omega, by go_num, by rw [HP.out]; first | rfl | (congr 1; omega), HN2, HB1, by omega⟩
          case measure => simp [intOf] <;> omega
        · have HP := Lib.hid hp
          clear hp
          generalize placeTo l id i = p at g3 HP hpl
          have g4 : (i : Int) < (p : Int) := by omega
          go_wp2
          go_roundw
          case rel => exact ⟨i + 1, by omega, by go_num, by rw [HP.out]; first | rfl | (congr 1; omega), HN2, HB1, by omega⟩
          case measure => simp [intOf] <;> omega
    · obtain rfl : i = l.length := by omega
      have HV : Hid (searchH l id = (placeTo l id l.length, false)) := Lib.hid (by rw [placeTo_end]; exact search_none (by have := HN.out; rwa [List.take_length] at this))
      go_wp2
      refine bodyPost_ret (v := .tuple #[.int .i64 (placeTo l id l.length : Nat), .bool false]) (by simp [results, Try.results39, go_sem]) rfl ?_
      exact ⟨by rw [HV.out]; rfl, HB.out⟩
set_option maxRecDepth 100000 in
theorem implHoldAt_any (hi : Nat) (v : Value) (l : List HoldD) (id : ByteArray) (w : World) (hn : l.length ≤ 1048576) (h : HoldsR.rd hi w [v] l) (hh : hi ≤ w.heap.size) :
    Calls Try.prog 25 #[v, .string id] w fun e w' => e = .returned (.int .i64 (findH l id)) ∧ Below w.heap.size w w' := by
  have HS := Lib.hid (implSearch_any hi v l id w hn h hh)
  have HF := Lib.hid (findH_search l id)
  clear h
  generalize searchH l id = q at HS HF
  obtain ⟨p, ok⟩ := q
  unfold searchV at HS
  go_enter Try.func25, Try.ntmps25
  go_wp2_with fail
  refine HS.out.mono ?_
  rintro e w1 ⟨rfl, hb⟩
  have HB := Lib.hid hb
  clear hb
  cases ok
  · go_wp2
    go_ret
    exact ⟨ret_int (by rw [HF.out]; rfl), HB.out⟩
  · go_wp2
    go_ret
    exact ⟨ret_int (by rw [HF.out]; rfl), HB.out⟩
end Go.Proofs.Ytnjpcbmonipaoaa
