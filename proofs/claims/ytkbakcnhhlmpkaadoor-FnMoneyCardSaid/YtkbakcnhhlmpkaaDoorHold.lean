/- Holds: their layout, and what the law package's helpers do with them; no conditions. -/
import Derived.Test.YtkbakcnhhlmpkaaDoorField
import Derived.Test.YtkbakcnhhlmpkaaDoorStrS
set_option linter.unusedVariables false
namespace Go.Proofs.YtkbakcnhhlmpkaaDoor
open Go.ChangeShapes Go.WideShapes Go.ChangeAt Go.RowKit

/-- id, amount, due -/
abbrev HoldD := ByteArray × Int × Int
def noH : HoldD := (⟨#[]⟩, 0, 0)
def HoldR : Rep HoldD := Rep.pair Rep.str (Rep.pair (Rep.int .i64) (Rep.int .i64))
def HoldsR : Rep (List HoldD) := HoldR.slice
def hCells (x : HoldD) : List Value := [.string x.1, .int .i64 x.2.1, .int .i64 x.2.2]
set_option maxRecDepth 100000 in
theorem hold_rd {hi : Nat} {w : World} {cs : List Value} {x : HoldD} : HoldR.rd hi w cs x ↔ cs = hCells x := by
  constructor
  · rintro ⟨a, b, rfl, rfl, c, d, rfl, rfl, rfl⟩; rfl
  · rintro rfl; exact ⟨[_], [_, _], rfl, rfl, [_], [_], rfl, rfl, rfl⟩
set_option maxRecDepth 100000 in
theorem hold_own {w : World} {cs : List Value} {x : HoldD} {F : List Nat} : HoldR.own w cs x F ↔ cs = hCells x ∧ F = [] := by
  constructor
  · rintro ⟨a, b, G, H, rfl, rfl, ⟨rfl, rfl⟩, c, d, I, J, rfl, rfl, ⟨rfl, rfl⟩, ⟨rfl, rfl⟩⟩; exact ⟨rfl, rfl⟩
  · rintro ⟨rfl, rfl⟩; exact ⟨[_], [_, _], [], [], rfl, rfl, ⟨rfl, rfl⟩, [_], [_], [], [], rfl, rfl, ⟨rfl, rfl⟩, ⟨rfl, rfl⟩⟩
set_option maxRecDepth 100000 in
/-- a slice of holds: its value and its cells -/
theorem holds_rd {hi : Nat} {w : World} {v : Value} {l : List HoldD} (h : HoldsR.rd hi w [v] l) :
    ∃ A c, v = .slice A l.length c ∧ l.length ≤ c ∧ ∀ j x, l[j]? = some x → ∃ b off, A = some ⟨b, off, none⟩ ∧ b < hi ∧ w.cell? ⟨b, off + j * 3, none⟩ = some (.string x.1) ∧ w.cell? ⟨b, off + j * 3 + 1, none⟩ = some (.int .i64 x.2.1) ∧ w.cell? ⟨b, off + j * 3 + 2, none⟩ = some (.int .i64 x.2.2) := by
  obtain ⟨A, c, hv, hc, hj⟩ := h
  simp only [List.cons.injEq, and_true] at hv
  refine ⟨A, c, hv, hc, fun j x hx => ?_⟩
  obtain ⟨b, off, xs, hA, hb, hr, ha⟩ := hj j x hx
  rw [hold_rd] at hr
  subst hr
  exact ⟨b, off, hA, hb, ha 0 _ rfl, ha 1 _ rfl, ha 2 _ rfl⟩
set_option maxRecDepth 100000 in
/-- a row of holds in one block of one's own -/
theorem holds_mine {lo hi : Nat} {w : World} {b off c n : Nat} {l : List HoldD} (hn : n = l.length) (hc : n ≤ c) (h1 : lo ≤ b) (h2 : b < hi) (h : filled w b off 3 n n fun j => hCells (l.getD j (⟨#[]⟩, 0, 0))) : HoldsR.mine lo hi w [.slice (some ⟨b, off, none⟩) n c] l := by
  subst hn
  refine ⟨b :: List.flatten (l.map fun _ => []), ⟨some ⟨b, off, none⟩, c, rfl, hc, .inr ⟨b, off, _, rfl, rfl, by simp, fun j x G hx hG => ?_⟩⟩, ?_, ?_⟩
  · have hj := (List.getElem?_eq_some_iff.1 hx).1
    have hG' : G = [] := by rw [List.getElem?_map, hx] at hG; simpa using hG.symm
    subst hG'
    have hx' : l.getD j (⟨#[]⟩, 0, 0) = x := by rw [List.getD_eq_getElem?_getD, hx]; rfl
    have ha := h.at_ j hj
    rw [hx'] at ha
    exact ⟨_, hold_own.2 ⟨rfl, rfl⟩, ha, fun t ht => (h.cells hj t ht).2⟩
  · have : List.flatten (l.map fun _ => ([] : List Nat)) = [] := by simp
    rw [this]; simp
  · have : List.flatten (l.map fun _ => ([] : List Nat)) = [] := by simp
    rw [this]
    intro b' hb'
    rw [List.mem_singleton.1 hb']
    exact ⟨h1, h2⟩
set_option maxRecDepth 100000 in
theorem infoHold : (Tryd.prog.info? 87).map (fun i => (i.zero.map (·.cells), i.size, i.bytes)) = some (some #[.string ⟨#[]⟩, .int .i64 0, .int .i64 0], 3, 32) := by kernel_rfl
def holdsSz (l : List HoldD) : Nat := l.length + (l.map fun x => x.1.size).sum
def holdMark (k : Int) (j : Nat) : HoldD := (⟨(markOf (k + 3 * (j : Int))).toArray⟩, k + 3 * (j : Int) + 1, k + 3 * (j : Int) + 1 + 1)
def holdsMark (k : Int) (n : Nat) : List HoldD := (List.range n).map (holdMark k)
set_option maxRecDepth 100000 in
theorem holdsMark_len (k : Int) (n : Nat) : (holdsMark k n).length = n := by simp [holdsMark]
set_option maxRecDepth 100000 in
theorem holdsMark_get (k : Int) (n j : Nat) (h : j < n) : (holdsMark k n).getD j (⟨#[]⟩, 0, 0) = holdMark k j := by simp [holdsMark, h]
set_option maxRecDepth 100000 in
theorem holdsMark_at (k : Int) (n j : Nat) (h : j < n) : (holdsMark k n)[j]? = some (holdMark k j) := by simp [holdsMark, h]
set_option maxRecDepth 100000 in
/-- a slice of holds of one's own: empty, or one block that may be written -/
theorem holds_own {lo hi : Nat} {w : World} {v : Value} {l : List HoldD} (h : HoldsR.mine lo hi w [v] l) :
    ∃ A c, v = .slice A l.length c ∧ l.length ≤ c ∧ (l = [] ∨ ∃ b off, A = some ⟨b, off, none⟩ ∧ lo ≤ b ∧ b < hi ∧ roomL w b off (l.length * 3)) := by
  obtain ⟨F, ⟨A, c, hv, hc, h⟩, -, hF⟩ := h
  simp only [List.cons.injEq, and_true] at hv
  refine ⟨A, c, hv, hc, ?_⟩
  rcases h with ⟨rfl, _⟩ | ⟨b, off, Fs, rfl, rfl, hl, h⟩
  · exact .inl rfl
  · have hb := hF b (List.mem_cons_self ..)
    refine .inr ⟨b, off, rfl, hb.1, hb.2, fun t ht => ?_⟩
    have hj : t / 3 < l.length := by omega
    obtain ⟨xs, h1, h2, h3⟩ := h (t / 3) _ _ (List.getElem?_eq_getElem hj) (List.getElem?_eq_getElem (by omega))
    rw [hold_own] at h1
    obtain ⟨rfl, -⟩ := h1
    have hk : HoldR.k = 3 := rfl
    rw [hk] at h2 h3
    have e : off + t = off + t / 3 * 3 + t % 3 := by omega
    rw [e]
    refine ⟨?_, h3 (t % 3) (by omega)⟩
    have hm : t % 3 = 0 ∨ t % 3 = 1 ∨ t % 3 = 2 := by omega
    rcases hm with m | m | m
    · rw [m]; exact ⟨_, h2 0 _ rfl⟩
    · rw [m]; exact ⟨_, h2 1 _ rfl⟩
    · rw [m]; exact ⟨_, h2 2 _ rfl⟩
set_option maxRecDepth 100000 in
theorem markH_size (k : Int) (h : k ≤ 1000000000) : (markOf k).length ≤ 21 := by
  have := mark_len k h
  unfold markOf
  simp; omega
end Go.Proofs.YtkbakcnhhlmpkaaDoor
