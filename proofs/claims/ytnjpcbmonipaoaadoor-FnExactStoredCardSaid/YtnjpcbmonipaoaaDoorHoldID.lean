/- slices.Clone, slices.IndexFunc, slices.DeleteFunc over holds; no conditions. -/
import Derived.Test.YtnjpcbmonipaoaaDoorAppRows
import Derived.Test.YtnjpcbmonipaoaaDoorDelRow
import Derived.Test.YtnjpcbmonipaoaaDoorHoldJ
import Derived.Lib.SliceRun
set_option linter.unusedVariables false
namespace Go.Proofs.YtnjpcbmonipaoaaDoor
open Go.ChangeShapes Go.WideShapes Go.ChangeAt Go.RowKit

/-- a row of holds of the call's own -/
def holdsOwn (l : List HoldD) (w : World) (e : Ending) (w' : World) : Prop := ∃ A c, e = .returned (.slice A l.length c) ∧ owE 34 3 hCells w.heap.size w' (.slice A l.length c) l ∧ Below w.heap.size w w'
set_option maxRecDepth 100000 in
theorem holds_at {hi : Nat} {w : World} {A : Option Addr} {n c : Nat} {l : List HoldD} (h : HoldsR.rd hi w [.slice A n c] l) : ∀ (j : Nat) (y : HoldD), l[j]? = some y → ∃ b off, A = some ⟨b, off, none⟩ ∧ b < hi ∧ atL w b (off + j * 3) (hCells y) := by
  intro j y hy
  obtain ⟨A', c', hv, -, hr⟩ := holds_rd h
  simp only [Value.slice.injEq] at hv
  obtain ⟨rfl, -, -⟩ := hv
  obtain ⟨b, off, e, hb, q0, q1, q2⟩ := hr j y hy
  refine ⟨b, off, e, hb, fun t u hu => ?_⟩
  match t, hu with
  | 0, hu => cases hu; exact q0
  | 1, hu => cases hu; exact q1
  | 2, hu => cases hu; exact q2
  | n + 3, hu => simp [hCells] at hu
set_option maxRecDepth 100000 in
set_option maxHeartbeats 1600000 in
theorem cloneHolds_any (hi : Nat) (v : Value) (l : List HoldD) (w : World) (hn : l.length ≤ 1048576) (h : HoldsR.rd hi w [v] l) (hh : hi ≤ w.heap.size) :
    Calls Tryd.prog 26 #[v] w (holdsOwn l w) := by
  obtain ⟨A, c, rfl, -, -⟩ := holds_rd h
  have hS := holds_at h
  have HS : Hid (∀ V, Below w.heap.size w V → ∀ (j : Nat) (y : HoldD), l[j]? = some y → ∃ b off, A = some ⟨b, off, none⟩ ∧ atL V b (off + j * 3) (hCells y)) := Lib.hid fun V hV j y hy => by
    obtain ⟨b, off, e, hb, ha⟩ := hS j y hy
    exact ⟨b, off, e, fun t u hu => (hV.cell (p := ⟨b, _, none⟩) (show b < w.heap.size by omega)).trans (ha t u hu)⟩
  have q33 : ∀ (w : World) (a : Option Addr) (n c n' c' : Nat), (binOp .eql 25 (.slice a n c) (.slice none n' c')).run Tryd.prog w = .ok (.bool a.isNone) w := fun w a n c n' c' => Lib.run_eql_slice_nil w _ _ a n c n' c' Tryd.underlying25
  clear h
  cases A with
  | none =>
    obtain rfl : l = [] := by
      cases l with
      | nil => rfl
      | cons y l => obtain ⟨b, off, e, -⟩ := hS 0 y rfl; cases e
    clear hS
    go_enter Tryd.func26, Tryd.ntmps26
    go_wp2
    go_ret
    exact ⟨none, 0, rfl, owE_none _ _ _ _ _, Below.refl _ _⟩
  | some ad =>
    clear hS
    go_enter Tryd.func26, Tryd.ntmps26
    go_wp2_with (at_builtin; refine app_rows hCells 3 (fun _ => rfl) (by decide) hCells_one 25 34 #[.string ⟨#[]⟩, .int .i64 0, .int .i64 0] 32 Tryd.underlying25 infoHold rfl _ _ rfl rfl w.heap.size (w.alloc (.cells #[] 34)) _ [] l (some ad) c (by rfl) (by rfl) (owE_empty _ _ _ _ w (Nat.le_refl _)) (HS.out _ ((Below.refl _ _).alloc (Nat.le_refl _) _)) (by unfold maxLen; simp; omega) (by simp; omega) (by simp) ?_)
    intro A1 c1 w1 ho1 hg1 hb1
    have HB1 : Hid (Below w.heap.size w w1) := Lib.hid (((Below.refl w.heap.size w).alloc (Nat.le_refl _) _).trans hb1)
    have HO : Hid (owE 34 3 hCells w.heap.size w1 (.slice A1 l.length c1) l) := Lib.hid (by simpa using ho1)
    clear ho1 hg1 hb1
    go_wp2
    go_ret
    exact ⟨A1, c1, by simp, HO.out, HB1.out⟩
/-- what a function says of a hold, wherever block B holds cs -/
def saysH (g : Nat) (lb : Array Value) (B : Nat) (t : TypeId) (cs : List Value) (p : HoldD → Bool) : Prop :=
  ∀ (W : World) (x : HoldD), bk W B t cs → Calls Tryd.prog g (#[.agg #[.string x.1, .int .i64 x.2.1, .int .i64 x.2.2]] ++ lb) W fun e w' => e = .returned (.bool (p x)) ∧ Below W.heap.size W w'
def findP (p : HoldD → Bool) (l : List HoldD) : Int := match l.findIdx? p with | some i => (i : Int) | none => -1
set_option maxRecDepth 100000 in
theorem findP_none {p : HoldD → Bool} {l : List HoldD} (h : ∀ x ∈ l, p x = false) : findP p l = -1 := by
  unfold findP
  rw [List.findIdx?_eq_none_iff.2 h]
set_option maxRecDepth 100000 in
theorem findP_some {p : HoldD → Bool} {l : List HoldD} {i : Nat} {x : HoldD} (hx : l[i]? = some x) (he : p x = true) (h : ∀ y ∈ l.take i, p y = false) : findP p l = (i : Int) := by
  obtain ⟨hi, rfl⟩ := List.getElem?_eq_some_iff.1 hx
  have h1 : l.findIdx? p = some i := by
    rw [List.findIdx?_eq_some_iff_getElem]
    refine ⟨hi, he, fun j hj => ?_⟩
    have hm : l[j] ∈ l.take i := by rw [List.mem_take_iff_getElem]; exact ⟨j, by omega, rfl⟩
    simpa using h _ hm
  unfold findP
  rw [h1]
set_option maxRecDepth 100000 in
theorem take_all_next {p : HoldD → Bool} {l : List HoldD} {i : Nat} {x : HoldD} (hx : l[i]? = some x) (he : p x = false) (h : ∀ y ∈ l.take i, p y = false) : ∀ y ∈ l.take (i + 1), p y = false := by
  obtain ⟨h5, h6⟩ := List.getElem?_eq_some_iff.1 hx
  rw [List.take_succ_eq_append_getElem h5, h6]
  intro y hy
  rcases List.mem_append.1 hy with hy | hy
  · exact h y hy
  · rw [List.mem_singleton.1 hy]; exact he
set_option maxRecDepth 100000 in
set_option maxHeartbeats 1600000 in
theorem indexHolds_any (g : Nat) (lb : Array Value) (B : Nat) (t : TypeId) (cs : List Value) (p : HoldD → Bool) (hi : Nat) (v : Value) (l : List HoldD) (w : World) (hp : saysH g lb B t cs p) (eg : ∀ args w, (callFunc g args).run Tryd.prog w = .ok (.enter g args) w) (hbk : bk w B t cs) (hn : l.length ≤ 1048576) (h : HoldsR.rd hi w [v] l) (hh : hi ≤ w.heap.size) :
    Calls Tryd.prog 35 #[v, .func (.func g) #[] lb] w fun e w' => e = .returned (.int .i64 (findP p l)) ∧ Below w.heap.size w w' := by
  obtain ⟨A, c, rfl, hc, h⟩ := holds_rd h
  have HR := Lib.hid h
  have HP := Lib.hid hp
  have HK := Lib.hid hbk
  have hBw := hbk.lt
  clear h hp hbk
  go_enter Tryd.func35, Tryd.ntmps35
  go_wp2
  go_loopw [8] (fun iv wr => ∃ i : Nat, i ≤ l.length ∧ iv = .int .i64 i ∧ Hid (∀ y ∈ l.take i, p y = false) ∧ Hid (Below w.heap.size w wr) ∧ w.heap.size ≤ wr.heap.size) (fun iv _ => l.length - (intOf iv).toNat)
  case atStart => exact ⟨0, Nat.zero_le _, rfl, Lib.hid (by simp), Lib.hid (Below.refl _ _), Nat.le_refl _⟩
  case round =>
    obtain ⟨i, hi', rfl, HN, HB, hz⟩ := hrel
    by_cases hin : i < l.length
    · obtain ⟨x, hx⟩ : ∃ x, l[i]? = some x := ⟨_, List.getElem?_eq_getElem hin⟩
      obtain ⟨b, off, rfl, hbl, c0, c1, c2⟩ := HR.out i x hx
      have hcall := HP.out wr x (HK.out.below HB.out hBw)
      have HYES := Lib.hid (fun he => findP_some hx he HN.out)
      have HNO := Lib.hid (fun he => take_all_next (p := p) hx he HN.out)
      clear hx
      have c0 := (HB.out.cell (p := ⟨b, off + i * 3, none⟩) (show b < w.heap.size by omega)).trans c0
      have c1 := (HB.out.cell (p := ⟨b, off + i * 3 + 1, none⟩) (show b < w.heap.size by omega)).trans c1
      have c2 := (HB.out.cell (p := ⟨b, off + i * 3 + 2, none⟩) (show b < w.heap.size by omega)).trans c2
      have g1 : (i : Int) < (l.length : Int) := by omega
      have g2 : 0 ≤ (i : Int) := by omega
      generalize p x = px at hcall HYES HNO
      have HC := Lib.hid hcall
      clear hcall
      go_wp2_with fail
      refine HC.out.mono ?_
      rintro e w1 ⟨rfl, hb1⟩
      have z1 := hb1.size
      have HB1 : Hid (Below w.heap.size w w1) := Lib.hid (HB.out.trans (hb1.mono (by omega)))
      clear hb1 c0 c1 c2
      cases px
      · have HN2 := Lib.hid (HNO.out rfl)
        go_wp2
        go_roundw
        case rel => exact ⟨i + 1, by omega, by go_num, HN2, HB1, by omega⟩
        case measure => simp [intOf] <;> omega
      · have HV := Lib.hid (HYES.out rfl)
        go_wp2
        go_ret
        exact ⟨ret_int HV.out.symm, HB1.out⟩
    · obtain rfl : i = l.length := by omega
      have HV : Hid (findP p l = -1) := Lib.hid (findP_none (by have := HN.out; rwa [List.take_length] at this))
      go_wp2
      go_ret
      exact ⟨ret_int HV.out.symm, HB.out⟩
end Go.Proofs.YtnjpcbmonipaoaaDoor
