/- What every proof of this seat uses: the row's last step where the call made memory; small words on strings. -/
import Derived.Test.YthnimmagaocipaaGreatDoorRows
import Derived.WalkKit
import Derived.ProofKit
import Derived.OpenShut
import Derived.Outline
import Derived.WalkLawsBesides
import Derived.Handy
import Derived.Lib.Hide
import Derived.WalkSmall
import Derived.Stop.LaidErr
import Derived.OpenVars
import Derived.Carry
import Derived.BigQuiet
import Derived.Deep.QuietTactic
import Derived.Deep.RegionWith
import Derived.Deep.OwnRows
import Derived.OwnWalk
import Derived.Laws.AppendOwn
import Derived.Laws.BytesArg
import Derived.ChangeArms
import Derived.Deep.Slices
import Derived.Laws.MakeOwn
import Derived.Deep.RegionHeld3
import Derived.Deep.Cut
import Derived.Deep.DeepCutAuto
import Derived.Lib.ItoaNum
import Derived.Lib.ItoaLen
import Derived.ChangeSlices
import Derived.Laws.Rows
set_option linter.unusedVariables false
namespace Go.Proofs.YthnimmagaocipaaGreatDoor
open Go.ChangeShapes Go.WideShapes Go.ChangeAt Go.RowKit

section
variable {H : Type} {enc : TypeId × Value → H} {P : Program}
end

set_option maxRecDepth 100000 in
theorem val_int {k : IntKind} {a b : Int} (h : a = b) : Value.int k a = Value.int k b := by rw [h]
set_option maxRecDepth 100000 in
theorem ret_int {k : IntKind} {a b : Int} (h : a = b) : Ending.returned (.int k a) = .returned (.int k b) := by rw [h]
set_option maxRecDepth 100000 in
theorem ret_bool {a b : Bool} (h : a = b) : Ending.returned (.bool a) = .returned (.bool b) := by rw [h]
set_option maxRecDepth 100000 in
theorem take_one (s : ByteArray) (k : Nat) (h : k < s.size) : s.data.toList.take (k + 1) = s.data.toList.take k ++ [s[k]] := by
  rw [List.take_succ_eq_append_getElem (by simpa using h)]; rfl
set_option maxRecDepth 100000 in
theorem take_end (s : ByteArray) (k : Nat) (h : ¬ k < s.size) : s.data.toList.take k = s.data.toList := List.take_of_length_le (by simp; omega)

/-- is the byte a digit? -/
def isDig (c : UInt8) : Bool := decide (48 ≤ c.toNat) && decide (c.toNat ≤ 57)
/-- is the string a number of digits, at least one? -/
def digs (s : ByteArray) : Bool := decide (0 < s.size) && s.data.toList.all isDig

set_option maxRecDepth 100000 in
theorem isDig_iff (c : UInt8) : isDig c = true ↔ 48 ≤ c.toNat ∧ c.toNat ≤ 57 := by simp [isDig]
set_option maxRecDepth 100000 in
theorem isDig_no (c : UInt8) : isDig c = false ↔ c.toNat < 48 ∨ 57 < c.toNat := by
  cases h : isDig c
  · simp only [true_iff]
    rcases Nat.lt_or_ge c.toNat 48 with h1 | h1
    · exact Or.inl h1
    · rcases Nat.lt_or_ge 57 c.toNat with h2 | h2
      · exact Or.inr h2
      · have := (isDig_iff c).2 ⟨h1, h2⟩; rw [h] at this; cases this
  · have := (isDig_iff c).1 h; simp; omega
set_option maxRecDepth 100000 in
theorem digs_yes (s : ByteArray) (k : Nat) (h : ¬ k < s.size) (h0 : 0 < s.size) (ha : (s.data.toList.take k).all isDig = true) : digs s = true := by
  rw [take_end s k h] at ha
  simp only [digs, ha, h0, decide_true, Bool.and_self]
set_option maxRecDepth 100000 in
theorem digs_empty (s : ByteArray) (h0 : ¬ 0 < s.size) : digs s = false := by simp [digs, h0]
set_option maxRecDepth 100000 in
theorem digs_no (s : ByteArray) (k : Nat) (h : k < s.size) (ha : isDig s[k] = false) : digs s = false := by
  have hm : s[k] ∈ s.data.toList := by
    have : s[k] = s.data.toList[k]'(by simpa using h) := rfl
    rw [this]; exact List.getElem_mem _
  have : s.data.toList.all isDig = false := by
    rw [List.all_eq_false]; exact ⟨_, hm, by simp [ha]⟩
  simp [digs, this]
set_option maxRecDepth 100000 in
theorem digs_end (s : ByteArray) (k : Nat) (h : ¬ k < s.size) (ha : (s.data.toList.take k).all isDig = true) : decide (0 < s.size) = digs s := by
  by_cases h0 : 0 < s.size
  · rw [digs_yes s k h h0 ha]; simpa using h0
  · rw [digs_empty s h0]; simpa using h0
set_option maxRecDepth 100000 in
theorem all_one (s : ByteArray) (k : Nat) (h : k < s.size) (ha : (s.data.toList.take k).all isDig = true) (hb : isDig s[k] = true) : (s.data.toList.take (k + 1)).all isDig = true := by
  rw [take_one s k h]; simp [ha, hb]
set_option maxRecDepth 100000 in
/-- each byte of a string of digits -/
theorem digs_get {s : ByteArray} (hd : digs s = true) (k : Nat) (h : k < s.size) : 48 ≤ s[k].toNat ∧ s[k].toNat ≤ 57 := by
  simp only [digs, Bool.and_eq_true, List.all_eq_true] at hd
  have : s[k] = s.data.toList[k]'(by simpa using h) := rfl
  exact (isDig_iff _).1 (hd.2 _ (by rw [this]; exact List.getElem_mem _))
set_option maxRecDepth 100000 in
theorem digs_pos {s : ByteArray} (hd : digs s = true) : 0 < s.size := by
  simp only [digs, Bool.and_eq_true, decide_eq_true_eq] at hd; exact hd.1

set_option maxRecDepth 100000 in
theorem not_empty (s : ByteArray) : (!s.toList.isEmpty) = decide (0 < s.size) := by
  rw [ByteArray.toList_eq]
  have h : s.size = s.data.toList.length := by simp
  rw [h]
  cases s.data.toList <;> simp
set_option maxRecDepth 100000 in
theorem below_iter (w : World) (s : ByteArray) (pos : Nat) : Below w.heap.size w (w.iter s pos) := (Below.refl _ _).alloc (Nat.le_refl _) _
end Go.Proofs.YthnimmagaocipaaGreatDoor
set_option linter.unusedVariables false
namespace Go.Proofs.YthnimmagaocipaaGreatDoor
open Go.ChangeShapes Go.WideShapes Go.ChangeAt Go.RowKit

section
variable {H : Type} {enc : TypeId × Value → H} {P : Program}
/-- every type can be read -/
def allRowed (P : Program) (ts : List TypeId) : Bool := ts.all fun t => P.readableRec t && decide (t < P.types.size)
set_option maxRecDepth 100000 in
theorem trodAll_below (hl : laidOutB P = true) {W W' : World} (hb : Below W.heap.size W W') :
    ∀ {ts : List TypeId} {vs : List Value} {ds : List (DataW H)} {ps : List MemPlace}, allRowed P ts = true → DataW.TrodAll enc P W 0 (fun _ => true) true ts vs ds ps → (∀ x ∈ ps, x.block < W.heap.size) →
      DataW.TrodAll enc P W' 0 (fun b => decide (b < W.heap.size)) true ts vs ds ps
  | [], vs, ds, ps, _, h, _ => by
    obtain ⟨rfl, rfl, rfl⟩ := trodAll_nil h
    exact trodAll_mk0
  | t :: ts, vs, ds, ps, hr, h, hlt => by
    obtain ⟨v0, vs0, d0, ds0, p0, q0, rfl, rfl, rfl, h0, r0⟩ := trodAll_cons h
    simp only [allRowed, List.all_cons, Bool.and_eq_true, decide_eq_true_eq] at hr
    exact trodAll_cons_mk (Below.trod hl hr.1.1 hr.1.2 h0 hb (fun x hx => hlt x (by simp [hx]))) (trodAll_below hl hb (by simpa [allRowed] using hr.2) r0 (fun x hx => hlt x (by simp [hx])))

set_option maxRecDepth 100000 in
theorem post_true {f : Func} {s : ChangeSpec} {apart fresh handsOn : Bool} {W W' : World} {args : Array Value} {ds gs : List (DataW H)} {before pv : List MemPlace} {tb : TypeId}
    (hl : laidOutB P = true) (hr : allRowed P f.params.toList = true) (hW : DataW.Whole enc P f.params.toList s.vars apart W args.toList ds gs before)
    (hfn : s.fn H (ds ++ gs) = { results := [.lit (.bool true)], args := ds, vars := gs }) (ht : f.resultTypes = #[tb]) (hu : P.underlying tb = some .bool)
    (hb : Below W.heap.size W W') (hvars : DataW.TrodVars enc P W' (fun b => decide (b < W.heap.size)) s.vars gs pv) :
    s.post enc P f apart fresh handsOn false W args (.bool true) W' := by
  have hW' := hW
  obtain ⟨p, q, hA, hV, rfl, _, _⟩ := hW
  have hlt := hW'.lt
  refine ⟨ds, gs, p ++ q, [], p, pv, hW', ?_, ?_, ?_, World.keptBut_mono (fun x hx => ?_) (hb.frame (fun _ => False)), fun h => by cases h⟩
  · rw [hfn, ht]
    exact trodAll_cons_mk (shut_bool hu true) trodAll_mk0
  · rw [hfn]
    exact trodAll_below hl hb hr hA (fun x hx => hlt x (by simp [hx]))
  · rw [hfn]
    exact hvars
  · exact hx.elim
end
end Go.Proofs.YthnimmagaocipaaGreatDoor
set_option linter.unusedVariables false
namespace Go.Proofs.YthnimmagaocipaaGreatDoor
open Go.ChangeShapes Go.WideShapes Go.ChangeAt Go.RowKit

/-- the slice v reads as the numbers l of kind K; its block lies below hi -/
def rd (K : IntKind) (hi : Nat) (w : World) (v : Value) (l : List Int) : Prop :=
  ∃ (A : Option Addr) (c : Nat), v = .slice A l.length c ∧ l.length ≤ c ∧ ∀ j, j < l.length → ∃ b off : Nat, A = some ⟨b, off, none⟩ ∧ b < hi ∧ w.cell? ⟨b, off + j, none⟩ = some (.int K (l.getD j 0))
/-- the same; its block lies from lo on; its cells may be written -/
def nums (K : IntKind) (lo hi : Nat) (w : World) (v : Value) (l : List Int) : Prop :=
  ∃ (A : Option Addr) (c : Nat), v = .slice A l.length c ∧ l.length ≤ c ∧ ∀ j, j < l.length → ∃ b off : Nat, A = some ⟨b, off, none⟩ ∧ lo ≤ b ∧ b < hi ∧ w.cell? ⟨b, off + j, none⟩ = some (.int K (l.getD j 0)) ∧ w.frozen? ⟨b, off + j, none⟩ = false
/-- the block of a slice that is not empty -/
def blk : Value → Option Nat
  | .slice (some a) (_ + 1) _ => some a.block
  | _ => none

set_option maxRecDepth 100000 in
theorem nums.rd {K : IntKind} {lo hi : Nat} {w : World} {v : Value} {l : List Int} (h : nums K lo hi w v l) : rd K hi w v l := by
  obtain ⟨A, c, rfl, hc, hj⟩ := h
  refine ⟨A, c, rfl, hc, fun j hl => ?_⟩
  obtain ⟨b, off, e, _, h2, h3, _⟩ := hj j hl
  exact ⟨b, off, e, h2, h3⟩
set_option maxRecDepth 100000 in
theorem rd.below {K : IntKind} {hi B : Nat} {w w' : World} {v : Value} {l : List Int} (h : rd K hi w v l) (hb : Below B w w') (hB : hi ≤ B) : rd K hi w' v l := by
  obtain ⟨A, c, rfl, hc, hj⟩ := h
  refine ⟨A, c, rfl, hc, fun j hl => ?_⟩
  obtain ⟨b, off, e, h2, h3⟩ := hj j hl
  exact ⟨b, off, e, h2, (hb.cell (p := ⟨b, _, none⟩) (Nat.lt_of_lt_of_le h2 hB)).trans h3⟩
set_option maxRecDepth 100000 in
theorem rd.mono {K : IntKind} {hi hi' : Nat} {w : World} {v : Value} {l : List Int} (h : rd K hi w v l) (hh : hi ≤ hi') : rd K hi' w v l := by
  obtain ⟨A, c, rfl, hc, hj⟩ := h
  refine ⟨A, c, rfl, hc, fun j hl => ?_⟩
  obtain ⟨b, off, e, h2, h3⟩ := hj j hl
  exact ⟨b, off, e, Nat.lt_of_lt_of_le h2 hh, h3⟩
set_option maxRecDepth 100000 in
theorem nums.below {K : IntKind} {lo hi B : Nat} {w w' : World} {v : Value} {l : List Int} (h : nums K lo hi w v l) (hb : Below B w w') (hB : hi ≤ B) : nums K lo hi w' v l := by
  obtain ⟨A, c, rfl, hc, hj⟩ := h
  refine ⟨A, c, rfl, hc, fun j hl => ?_⟩
  obtain ⟨b, off, e, h1, h2, h3, h4⟩ := hj j hl
  exact ⟨b, off, e, h1, h2, (hb.cell (p := ⟨b, _, none⟩) (Nat.lt_of_lt_of_le h2 hB)).trans h3, (hb.frozen (p := ⟨b, _, none⟩) (Nat.lt_of_lt_of_le h2 hB)).trans h4⟩
set_option maxRecDepth 100000 in
theorem nums.mono {K : IntKind} {lo lo' hi hi' : Nat} {w : World} {v : Value} {l : List Int} (h : nums K lo hi w v l) (hl : lo' ≤ lo) (hh : hi ≤ hi') : nums K lo' hi' w v l := by
  obtain ⟨A, c, rfl, hc, hj⟩ := h
  refine ⟨A, c, rfl, hc, fun j hl' => ?_⟩
  obtain ⟨b, off, e, h1, h2, h3⟩ := hj j hl'
  exact ⟨b, off, e, Nat.le_trans hl h1, Nat.lt_of_lt_of_le h2 hh, h3⟩
set_option maxRecDepth 100000 in
theorem nums.blk {K : IntKind} {lo hi : Nat} {w : World} {v : Value} {l : List Int} (h : nums K lo hi w v l) : ∀ k, blk v = some k → lo ≤ k ∧ k < hi := by
  obtain ⟨A, c, rfl, hc, hj⟩ := h
  intro k hk
  cases A with
  | none => simp [Proofs.YthnimmagaocipaaGreatDoor.blk] at hk
  | some a =>
    cases hn : l.length with
    | zero => rw [hn] at hk; simp [Proofs.YthnimmagaocipaaGreatDoor.blk] at hk
    | succ n =>
      rw [hn] at hk
      obtain ⟨b, off, e, h1, h2, _⟩ := hj 0 (by omega)
      simp only [Option.some.injEq] at e
      subst e
      simp only [Proofs.YthnimmagaocipaaGreatDoor.blk, Option.some.injEq] at hk
      subst hk
      exact ⟨h1, h2⟩
set_option maxRecDepth 100000 in
theorem nums.grown {K : IntKind} {lo hi : Nat} {w w' : World} {v : Value} {l : List Int} {row : Option Nat} (h : nums K lo hi w v l) (hg : w.grownBy w' row) (hh : hi ≤ w.heap.size) (hr : ∀ k, row = some k → k < lo ∨ hi ≤ k) : nums K lo hi w' v l := by
  obtain ⟨A, c, rfl, hc, hj⟩ := h
  refine ⟨A, c, rfl, hc, fun j hl' => ?_⟩
  obtain ⟨b, off, e, h1, h2, h3, h4⟩ := hj j hl'
  have hb : w'.heap[b]? = w.heap[b]? := hg.block b (by omega) (fun e => by have := hr b e.symm; omega)
  exact ⟨b, off, e, h1, h2, (World.cell?_of_block (a := ⟨b, _, none⟩) hb).trans h3, (World.frozen?_of_block (a := ⟨b, _, none⟩) hb).trans h4⟩
set_option maxRecDepth 100000 in
theorem map_getD {K : IntKind} {l : List Int} {j : Nat} (h : j < l.length) : (l.map (Value.int K))[j]? = some (.int K (l.getD j 0)) := by
  rw [List.getElem?_map, List.getElem?_eq_getElem h, List.getD_eq_getElem?_getD, List.getElem?_eq_getElem h]; rfl
set_option maxRecDepth 100000 in
theorem nums_of_own {K : IntKind} {lo : Nat} {w : World} {v : Value} {l : List Int} {e : TypeId} {n : Nat} (h : w.ownsRow lo e 1 v n (l.map (Value.int K))) : nums K lo w.heap.size w v l := by
  have hn : n = l.length := by have := h.1; simp at this; omega
  subst hn
  rcases h.2 with ⟨rfl, h0⟩ | ⟨g, cap, cur, rfl, hg, hh, h1, h2, h3, h4⟩
  · exact ⟨none, 0, by rw [h0], by omega, fun j hj => by omega⟩
  · refine ⟨_, cap, rfl, h1, fun j hj => ⟨g, 0, rfl, hg, (Array.getElem?_eq_some_iff.1 hh).1, ?_, ?_⟩⟩
    · have hc : w.cell? ⟨g, 0 + j, none⟩ = _ := h.cellAt (0 + j) (by omega)
      rw [hc, Nat.zero_add]
      exact map_getD hj
    · exact h.frozenAt (0 + j)
set_option maxRecDepth 100000 in
theorem nums_none (K : IntKind) (lo hi : Nat) (w : World) : nums K lo hi w (.slice none 0 0) [] := ⟨none, 0, rfl, Nat.le_refl _, fun j hj => by simp at hj⟩


/-- the marks from k on -/
def marksL (f : Int → Int) (k : Int) (n : Nat) : List Int := (List.range n).map fun (i : Nat) => f (k + (i : Int))
set_option maxRecDepth 100000 in
theorem marks_length (f : Int → Int) (k : Int) (n : Nat) : (marksL f k n).length = n := by simp [marksL]
set_option maxRecDepth 100000 in
theorem marks_getD (f : Int → Int) (k : Int) (n j : Nat) (h : j < n) : (marksL f k n).getD j 0 = f (k + j) := by simp [marksL, h]
/-- of n places the first i hold marks; all may be written -/
def mkd (K : IntKind) (f : Int → Int) (lo hi : Nat) (w : World) (A : Option Addr) (k : Int) (i n : Nat) : Prop :=
  ∀ j, j < n → ∃ b off : Nat, A = some ⟨b, off, none⟩ ∧ lo ≤ b ∧ b < hi ∧ w.frozen? ⟨b, off + j, none⟩ = false ∧ (∃ u, w.cell? ⟨b, off + j, none⟩ = some u) ∧ (j < i → w.cell? ⟨b, off + j, none⟩ = some (.int K (f (k + j))))
set_option maxRecDepth 100000 in
theorem mkd.start {K : IntKind} {f : Int → Int} {lo hi : Nat} {w : World} {A : Option Addr} {l : List Int} {k : Int}
    (h : ∀ j, j < l.length → ∃ b off : Nat, A = some ⟨b, off, none⟩ ∧ lo ≤ b ∧ b < hi ∧ w.cell? ⟨b, off + j, none⟩ = some (.int K (l.getD j 0)) ∧ w.frozen? ⟨b, off + j, none⟩ = false) : mkd K f lo hi w A k 0 l.length := fun j hj => by
  obtain ⟨b, off, e, h1, h2, h3, h4⟩ := h j hj
  exact ⟨b, off, e, h1, h2, h4, ⟨_, h3⟩, fun h => by omega⟩
set_option maxRecDepth 100000 in
theorem mkd.done {K : IntKind} {f : Int → Int} {lo hi : Nat} {w : World} {A : Option Addr} {c n : Nat} {k : Int} (h : mkd K f lo hi w A k n n) (hc : n ≤ c) : nums K lo hi w (.slice A n c) (marksL f k n) := by
  refine ⟨A, c, by rw [marks_length], by rw [marks_length]; exact hc, fun j hj => ?_⟩
  rw [marks_length] at hj
  obtain ⟨b, off, e, h1, h2, h4, _, h3⟩ := h j hj
  exact ⟨b, off, e, h1, h2, by rw [marks_getD f k n j hj]; exact h3 hj, h4⟩
set_option maxRecDepth 100000 in
theorem mkd.set {K : IntKind} {f : Int → Int} {lo hi : Nat} {w : World} {b off : Nat} {k : Int} {i n : Nat} {x : Int} (h : mkd K f lo hi w (some ⟨b, off, none⟩) k i n) (hi' : i < n) (hx : x = f (k + i)) : mkd K f lo hi (w.setCell ⟨b, off + i, none⟩ (.int K x)) (some ⟨b, off, none⟩) k (i + 1) n := by
  subst hx
  intro j hj
  have hf : ∀ a, (w.setCell ⟨b, off + i, none⟩ (.int K (f (k + i)))).frozen? a = w.frozen? a := fun a => by simp
  obtain ⟨b', off', e, h1, h2, h3, ⟨u, hu⟩, h5⟩ := h j hj
  simp only [Option.some.injEq, Addr.mk.injEq, and_true] at e
  obtain ⟨rfl, rfl⟩ := e
  refine ⟨b, off, rfl, h1, h2, (hf _).trans h3, ?_⟩
  by_cases e : i = j
  · subst e
    have := World.cell?_setCell_same w ⟨b, off + i, none⟩ (.int K (f (k + i))) hu
    exact ⟨⟨_, this⟩, fun _ => this⟩
  · have hne : ∀ x, (w.setCell ⟨b, off + i, none⟩ x).cell? ⟨b, off + j, none⟩ = w.cell? ⟨b, off + j, none⟩ := fun x => World.cell?_setCell_other _ _ _ _ (fun he => e (by have := congrArg Addr.off he; simp at this; omega))
    exact ⟨⟨u, (hne _).trans hu⟩, fun hlt => (hne _).trans (h5 (by omega))⟩
set_option maxRecDepth 100000 in
theorem grown_set {w w' : World} {b : Nat} (h : w.grownBy w' (some b)) (o : Nat) (x : Value) : w.grownBy (w'.setCell ⟨b, o, none⟩ x) (some b) :=
  ⟨h.os, h.tape, h.output, by simpa [World.setCell] using h.size, fun k hk hne => (Below.heap_setCell _ _ _ _ (fun e => hne (by rw [e]))).trans (h.block k hk hne)⟩
set_option maxRecDepth 100000 in
theorem grown_refl (w : World) (row : Option Nat) : w.grownBy w row := ⟨rfl, rfl, rfl, Nat.le_refl _, fun _ _ _ => rfl⟩
/-- of n cells of a row the first i hold these numbers -/
def part (K : IntKind) (b : Nat) (T : TypeId) (n : Nat) (w : World) (l : List Int) (i : Nat) : Prop := w.rowIs b T n (fun j => if j < i then .int K (l.getD j 0) else .int K 0)
set_option maxRecDepth 100000 in
theorem part.set {K : IntKind} {b : Nat} {T : TypeId} {n : Nat} {w : World} {l : List Int} {i : Nat} {x : Int} (h : part K b T n w l i) (hx : x = l.getD i 0) : part K b T n (w.setCell ⟨b, i, none⟩ (.int K x)) l (i + 1) := by
  refine (World.rowIs.set h i _).congr fun j hj => ?_
  by_cases e : j = i
  · subst e
    rw [if_pos rfl, if_pos (by omega), hx]
  · rw [if_neg e]
    by_cases h1 : j < i
    · rw [if_pos h1, if_pos (by omega)]
    · rw [if_neg h1, if_neg (by omega)]
set_option maxRecDepth 100000 in
theorem part.done {K : IntKind} {b lo : Nat} {T : TypeId} {w : World} {l : List Int} (h : part K b T l.length w l l.length) (hlo : lo ≤ b) : nums K lo w.heap.size w (.slice (some ⟨b, 0, none⟩) l.length l.length) l :=
  ⟨_, _, rfl, Nat.le_refl _, fun j hj => ⟨b, 0, rfl, hlo, World.rowIs.lt h, by
    have := World.rowIs.cell h (i := 0 + j) (by omega)
    rw [this, Nat.zero_add, if_pos hj], World.rowIs.frozen h _⟩⟩
set_option maxRecDepth 100000 in
theorem part.start {K : IntKind} {T : TypeId} {b n : Nat} {w : World} {l : List Int} (h : w.rowIs b T n (fun _ => .int K 0)) : part K b T n w l 0 := h.congr fun j _ => by rw [if_neg (by omega)]


/-- a row of the call's own, from block B on: it holds these numbers, and may be appended to -/
def ow (T : TypeId) (K : IntKind) (B : Nat) (w : World) (v : Value) (L : List Int) : Prop := w.ownsRow B T 1 v L.length (L.map (Value.int K))
set_option maxRecDepth 100000 in
theorem ow.nums {T : TypeId} {K : IntKind} {B : Nat} {w : World} {v : Value} {L : List Int} (h : ow T K B w v L) : nums K B w.heap.size w v L := nums_of_own h
set_option maxRecDepth 100000 in
theorem ow.mono {T : TypeId} {K : IntKind} {B B' : Nat} {w : World} {v : Value} {L : List Int} (h : ow T K B w v L) (hB : B' ≤ B) : ow T K B' w v L := by
  refine ⟨h.1, ?_⟩
  rcases h.2 with hn | ⟨g, cap, cur, rfl, hb, rest⟩
  · exact .inl hn
  · exact .inr ⟨g, cap, cur, rfl, Nat.le_trans hB hb, rest⟩
set_option maxRecDepth 100000 in
theorem ow.below {T : TypeId} {K : IntKind} {B C : Nat} {w w' : World} {v : Value} {L : List Int} (h : ow T K B w v L) (hb : Below C w w') (hC : w.heap.size ≤ C) : ow T K B w' v L := by
  refine ⟨h.1, ?_⟩
  rcases h.2 with hn | ⟨g, cap, cur, rfl, hB, hg, rest⟩
  · exact .inl hn
  · exact .inr ⟨g, cap, cur, rfl, hB, (hb.block g (Nat.lt_of_lt_of_le (Array.getElem?_eq_some_iff.1 hg).1 hC)).trans hg, rest⟩
def isBytes (l : List Int) : Prop := ∀ z ∈ l, 0 ≤ z ∧ z ≤ 255
set_option maxRecDepth 100000 in
theorem isBytes.getD {l : List Int} (h : isBytes l) (k : Nat) : 0 ≤ l.getD k 0 ∧ l.getD k 0 ≤ 255 := by
  rw [List.getD_eq_getElem?_getD]
  cases hg : l[k]? with
  | none => simp
  | some z => exact h z (List.mem_of_getElem? hg)
def isInts (l : List Int) : Prop := ∀ z ∈ l, -9223372036854775808 ≤ z ∧ z ≤ 9223372036854775807
set_option maxRecDepth 100000 in
theorem isInts.getD {l : List Int} (h : isInts l) (k : Nat) : -9223372036854775808 ≤ l.getD k 0 ∧ l.getD k 0 ≤ 9223372036854775807 := by
  rw [List.getD_eq_getElem?_getD]
  cases hg : l[k]? with
  | none => simp
  | some z => exact h z (List.mem_of_getElem? hg)
set_option maxRecDepth 100000 in
theorem rd.form {K : IntKind} {hi : Nat} {w : World} {v : Value} {l : List Int} (h : rd K hi w v l) : ∃ A c, v = .slice A l.length c ∧ l.length ≤ c := by
  obtain ⟨A, c, rfl, hc, _⟩ := h
  exact ⟨A, c, rfl, hc⟩
set_option maxRecDepth 100000 in
theorem nums.form {K : IntKind} {lo hi : Nat} {w : World} {v : Value} {l : List Int} (h : nums K lo hi w v l) : ∃ A c, v = .slice A l.length c ∧ l.length ≤ c := h.rd.form
end Go.Proofs.YthnimmagaocipaaGreatDoor
set_option linter.unusedVariables false
namespace Go.Proofs.YthnimmagaocipaaGreatDoor
open Go.ChangeShapes Go.WideShapes Go.ChangeAt Go.RowKit

/-- a type's layout: how many cells; which cells read as which data below block hi; which are memory of one's own in the blocks F -/
structure Rep (α : Type) where
  k : Nat
  rd : Nat → World → List Value → α → Prop
  own : World → List Value → α → List Nat → Prop
  rd_len : ∀ {hi w cs x}, rd hi w cs x → cs.length = k
  rd_keep : ∀ {hi w w' cs x}, rd hi w cs x → (∀ b, b < hi → w'.heap[b]? = w.heap[b]?) → rd hi w' cs x
  rd_mono : ∀ {hi hi' w cs x}, rd hi w cs x → hi ≤ hi' → rd hi' w cs x
  own_keep : ∀ {w w' cs x F}, own w cs x F → (∀ b ∈ F, w'.heap[b]? = w.heap[b]?) → own w' cs x F
  own_rd : ∀ {hi w cs x F}, own w cs x F → (∀ b ∈ F, b < hi) → rd hi w cs x
  one : ∀ {hi w cs x}, rd hi w cs x → ∀ c ∈ cs, c.oneCell' = true

def Rep.one1 {α : Type} (f : α → Value) (hf : ∀ x, (f x).oneCell' = true) : Rep α where
  k := 1
  rd _ _ cs x := cs = [f x]
  own _ cs x F := cs = [f x] ∧ F = []
  rd_len := by rintro hi w cs x rfl; rfl
  rd_keep := fun h _ => h
  rd_mono := fun h _ => h
  own_keep := fun h _ => h
  own_rd := fun h _ => h.1
  one := by rintro hi w cs x rfl c hc; rw [List.mem_singleton.1 hc]; exact hf x
def Rep.int (K : IntKind) : Rep Int := Rep.one1 (Value.int K) (fun _ => rfl)
def Rep.str : Rep ByteArray := Rep.one1 Value.string (fun _ => rfl)
def Rep.bool : Rep Bool := Rep.one1 Value.bool (fun _ => rfl)
def Rep.pair {α β : Type} (R : Rep α) (S : Rep β) : Rep (α × β) where
  k := R.k + S.k
  rd hi w cs x := ∃ a b, cs = a ++ b ∧ R.rd hi w a x.1 ∧ S.rd hi w b x.2
  own w cs x F := ∃ a b G H, cs = a ++ b ∧ F = G ++ H ∧ R.own w a x.1 G ∧ S.own w b x.2 H
  rd_len := by rintro hi w cs x ⟨a, b, rfl, h1, h2⟩; rw [List.length_append, R.rd_len h1, S.rd_len h2]
  rd_keep := by rintro hi w w' cs x ⟨a, b, rfl, h1, h2⟩ hk; exact ⟨a, b, rfl, R.rd_keep h1 hk, S.rd_keep h2 hk⟩
  rd_mono := by rintro hi hi' w cs x ⟨a, b, rfl, h1, h2⟩ hk; exact ⟨a, b, rfl, R.rd_mono h1 hk, S.rd_mono h2 hk⟩
  own_keep := by rintro w w' cs x F ⟨a, b, G, H, rfl, rfl, h1, h2⟩ hk; exact ⟨a, b, G, H, rfl, rfl, R.own_keep h1 fun b hb => hk b (List.mem_append_left _ hb), S.own_keep h2 fun b hb => hk b (List.mem_append_right _ hb)⟩
  own_rd := by rintro hi w cs x F ⟨a, b, G, H, rfl, rfl, h1, h2⟩ hk; exact ⟨a, b, rfl, R.own_rd h1 fun b hb => hk b (List.mem_append_left _ hb), S.own_rd h2 fun b hb => hk b (List.mem_append_right _ hb)⟩
  one := by
    rintro hi w cs x ⟨a, b, rfl, h1, h2⟩ c hc
    rcases List.mem_append.1 hc with h | h
    · exact R.one h1 c h
    · exact S.one h2 c h

set_option maxRecDepth 100000 in
theorem cell_keep {w w' : World} {b o : Nat} (h : w'.heap[b]? = w.heap[b]?) : w'.cell? ⟨b, o, none⟩ = w.cell? ⟨b, o, none⟩ := World.cell?_of_block (a := ⟨b, o, none⟩) h
set_option maxRecDepth 100000 in
theorem frozen_keep {w w' : World} {b o : Nat} (h : w'.heap[b]? = w.heap[b]?) : w'.frozen? ⟨b, o, none⟩ = w.frozen? ⟨b, o, none⟩ := World.frozen?_of_block (a := ⟨b, o, none⟩) h

/-- element j of a row of elements of k cells each, from cell off on -/
def atL (w : World) (b o : Nat) (xs : List Value) : Prop := ∀ t u, xs[t]? = some u → w.cell? ⟨b, o + t, none⟩ = some u
def freeL (w : World) (b o n : Nat) : Prop := ∀ t, t < n → w.frozen? ⟨b, o + t, none⟩ = false
def Rep.slice {α : Type} (R : Rep α) : Rep (List α) where
  k := 1
  rd hi w cs l := ∃ A c, cs = [.slice A l.length c] ∧ l.length ≤ c ∧ ∀ j x, l[j]? = some x → ∃ b off xs, A = some ⟨b, off, none⟩ ∧ b < hi ∧ R.rd hi w xs x ∧ atL w b (off + j * R.k) xs
  own w cs l F := ∃ A c, cs = [.slice A l.length c] ∧ l.length ≤ c ∧ ((l = [] ∧ F = []) ∨ ∃ b off Fs, A = some ⟨b, off, none⟩ ∧ F = b :: List.flatten Fs ∧ Fs.length = l.length ∧ ∀ j x G, l[j]? = some x → Fs[j]? = some G → ∃ xs, R.own w xs x G ∧ atL w b (off + j * R.k) xs ∧ freeL w b (off + j * R.k) R.k)
  rd_len := by rintro hi w cs x ⟨A, c, rfl, _⟩; rfl
  rd_keep := by
    rintro hi w w' cs l ⟨A, c, rfl, hc, h⟩ hk
    refine ⟨A, c, rfl, hc, fun j x hx => ?_⟩
    obtain ⟨b, off, xs, rfl, hb, hr, ha⟩ := h j x hx
    exact ⟨b, off, xs, rfl, hb, R.rd_keep hr hk, fun t u hu => (cell_keep (hk b hb)).trans (ha t u hu)⟩
  rd_mono := by
    rintro hi hi' w cs l ⟨A, c, rfl, hc, h⟩ hk
    refine ⟨A, c, rfl, hc, fun j x hx => ?_⟩
    obtain ⟨b, off, xs, rfl, hb, hr, ha⟩ := h j x hx
    exact ⟨b, off, xs, rfl, by omega, R.rd_mono hr hk, ha⟩
  own_keep := by
    rintro w w' cs l F ⟨A, c, rfl, hc, h⟩ hk
    refine ⟨A, c, rfl, hc, ?_⟩
    rcases h with h | ⟨b, off, Fs, rfl, rfl, hl, h⟩
    · exact .inl h
    · refine .inr ⟨b, off, Fs, rfl, rfl, hl, fun j x G hx hG => ?_⟩
      obtain ⟨xs, h1, h2, h3⟩ := h j x G hx hG
      have hb := hk b (List.mem_cons_self ..)
      exact ⟨xs, R.own_keep h1 fun b' hb' => hk b' (List.mem_cons_of_mem _ (List.mem_flatten.2 ⟨G, List.mem_of_getElem? hG, hb'⟩)), fun t u hu => (cell_keep hb).trans (h2 t u hu), fun t ht => (frozen_keep hb).trans (h3 t ht)⟩
  own_rd := by
    rintro hi w cs l F ⟨A, c, rfl, hc, h⟩ hk
    refine ⟨A, c, rfl, hc, fun j x hx => ?_⟩
    rcases h with ⟨rfl, _⟩ | ⟨b, off, Fs, rfl, rfl, hl, h⟩
    · simp at hx
    · have hj : j < l.length := (List.getElem?_eq_some_iff.1 hx).1
      have hG : Fs[j]? = some (Fs[j]'(by omega)) := List.getElem?_eq_getElem (by omega)
      obtain ⟨xs, h1, h2, h3⟩ := h j x _ hx hG
      exact ⟨b, off, xs, rfl, hk b (List.mem_cons_self ..), R.own_rd h1 fun b' hb' => hk b' (List.mem_cons_of_mem _ (List.mem_flatten.2 ⟨_, List.mem_of_getElem? hG, hb'⟩)), h2⟩
  one := by rintro hi w cs x ⟨A, c, rfl, _⟩ v hv; rw [List.mem_singleton.1 hv]; rfl

/-- memory of one's own from block lo up to block hi, no block twice -/
def Rep.mine {α : Type} (R : Rep α) (lo hi : Nat) (w : World) (cs : List Value) (x : α) : Prop := ∃ F, R.own w cs x F ∧ F.Nodup ∧ ∀ b ∈ F, lo ≤ b ∧ b < hi
section
variable {α β : Type} {R : Rep α} {S : Rep β} {lo lo' hi hi' B : Nat} {w w' : World} {cs : List Value} {x : α}
set_option maxRecDepth 100000 in
theorem Rep.mine.rd (h : R.mine lo hi w cs x) : R.rd hi w cs x := by
  obtain ⟨F, h1, _, h3⟩ := h
  exact R.own_rd h1 fun b hb => (h3 b hb).2
set_option maxRecDepth 100000 in
theorem Rep.mine.mono (h : R.mine lo hi w cs x) (h1 : lo' ≤ lo) (h2 : hi ≤ hi') : R.mine lo' hi' w cs x := by
  obtain ⟨F, h3, h4, h5⟩ := h
  exact ⟨F, h3, h4, fun b hb => by have := h5 b hb; omega⟩
set_option maxRecDepth 100000 in
theorem Rep.mine.keep (h : R.mine lo hi w cs x) (hk : ∀ b, lo ≤ b → b < hi → w'.heap[b]? = w.heap[b]?) : R.mine lo hi w' cs x := by
  obtain ⟨F, h3, h4, h5⟩ := h
  exact ⟨F, R.own_keep h3 fun b hb => hk b (h5 b hb).1 (h5 b hb).2, h4, h5⟩
set_option maxRecDepth 100000 in
theorem Rep.mine.below (h : R.mine lo hi w cs x) (hb : Below B w w') (hB : hi ≤ B) : R.mine lo hi w' cs x := h.keep fun b _ h2 => hb.block b (by omega)
set_option maxRecDepth 100000 in
theorem Rep.below (h : R.rd hi w cs x) (hb : Below B w w') (hB : hi ≤ B) : R.rd hi w' cs x := R.rd_keep h fun b h2 => hb.block b (by omega)
end
/-- only blocks from lo up to hi have turned, and new ones have come -/
structure Turned (lo hi : Nat) (w w' : World) : Prop where
  os : w'.os = w.os
  tape : w'.tape = w.tape
  output : w'.output = w.output
  size : w.heap.size ≤ w'.heap.size
  block : ∀ b, b < w.heap.size → (b < lo ∨ hi ≤ b) → w'.heap[b]? = w.heap[b]?
set_option maxRecDepth 100000 in
theorem Turned.refl (lo hi : Nat) (w : World) : Turned lo hi w w := ⟨rfl, rfl, rfl, Nat.le_refl _, fun _ _ _ => rfl⟩
set_option maxRecDepth 100000 in
theorem Turned.trans {lo hi : Nat} {u v w : World} (h : Turned lo hi u v) (g : Turned lo hi v w) : Turned lo hi u w :=
  ⟨g.os.trans h.os, g.tape.trans h.tape, g.output.trans h.output, Nat.le_trans h.size g.size, fun b h1 h2 => (g.block b (Nat.lt_of_lt_of_le h1 h.size) h2).trans (h.block b h1 h2)⟩
set_option maxRecDepth 100000 in
theorem Turned.mono {lo hi lo' hi' : Nat} {u v : World} (h : Turned lo hi u v) (h1 : lo' ≤ lo) (h2 : hi ≤ hi') : Turned lo' hi' u v :=
  ⟨h.os, h.tape, h.output, h.size, fun b hb hh => h.block b hb (by omega)⟩
set_option maxRecDepth 100000 in
theorem Turned.of_below {lo hi : Nat} {u v : World} (h : Below u.heap.size u v) : Turned lo hi u v := ⟨h.os, h.tape, h.output, h.size, fun b hb _ => h.block b hb⟩
set_option maxRecDepth 100000 in
theorem Turned.below {lo hi B : Nat} {u v : World} (h : Turned lo hi u v) (hB : B ≤ lo) (hs : B ≤ u.heap.size) : Below B u v := ⟨h.os, h.tape, h.output, h.size, fun b hb => h.block b (by omega) (by omega)⟩
set_option maxRecDepth 100000 in
theorem Turned.set {lo hi : Nat} {u v : World} (h : Turned lo hi u v) {b : Nat} (o : Nat) (x : Value) (h1 : lo ≤ b) (h2 : b < hi) : Turned lo hi u (v.setCell ⟨b, o, none⟩ x) :=
  ⟨h.os, h.tape, h.output, by simpa [World.setCell] using h.size, fun k hk hh => (Below.heap_setCell _ _ _ _ (show k ≠ b by omega)).trans (h.block k hk hh)⟩
set_option maxRecDepth 100000 in
theorem Turned.of_grown {lo hi : Nat} {u v : World} {row : Option Nat} (h : u.grownBy v row) (hr : ∀ b, row = some b → lo ≤ b ∧ b < hi) : Turned lo hi u v :=
  ⟨h.os, h.tape, h.output, h.size, fun b hb hh => h.block b hb (fun e => by have := hr b e.symm; omega)⟩
section
variable {α : Type} {R : Rep α} {lo hi lo' hi' : Nat} {w w' : World} {cs : List Value} {x : α}
set_option maxRecDepth 100000 in
theorem Rep.turned (h : R.rd hi w cs x) (ht : Turned lo' hi' w w') (h1 : hi ≤ lo') (h2 : hi ≤ w.heap.size) : R.rd hi w' cs x := R.rd_keep h fun b hb => ht.block b (by omega) (by omega)
set_option maxRecDepth 100000 in
theorem Rep.mine.turned (h : R.mine lo hi w cs x) (ht : Turned lo' hi' w w') (h1 : hi ≤ lo' ∨ hi' ≤ lo) (h2 : hi ≤ w.heap.size) : R.mine lo hi w' cs x := h.keep fun b hb1 hb2 => ht.block b (by omega) (by omega)
end

set_option maxRecDepth 100000 in
theorem Rep.slice_form {α : Type} {R : Rep α} {hi : Nat} {w : World} {v : Value} {l : List α} (h : R.slice.rd hi w [v] l) : ∃ A c, v = .slice A l.length c ∧ l.length ≤ c := by
  obtain ⟨A, c, hv, hc, _⟩ := h
  exact ⟨A, c, by simpa using hv, hc⟩
/-! slices of numbers in the elder words -/
set_option maxRecDepth 100000 in
theorem atL_one {w : World} {b o : Nat} {u : Value} : atL w b o [u] ↔ w.cell? ⟨b, o, none⟩ = some u := by
  constructor
  · intro h; exact h 0 u rfl
  · intro h t v hv
    cases t with
    | zero => cases hv; exact h
    | succ t => simp at hv
set_option maxRecDepth 100000 in
theorem Rep.of_rd {K : IntKind} {hi : Nat} {w : World} {v : Value} {l : List Int} (h : Proofs.YthnimmagaocipaaGreatDoor.rd K hi w v l) : (Rep.slice (Rep.int K)).rd hi w [v] l := by
  obtain ⟨A, c, rfl, hc, hj⟩ := h
  refine ⟨A, c, rfl, hc, fun j x hx => ?_⟩
  have hl : j < l.length := (List.getElem?_eq_some_iff.1 hx).1
  obtain ⟨b, off, rfl, hb, hcell⟩ := hj j hl
  refine ⟨b, off, [.int K x], rfl, hb, rfl, atL_one.2 ?_⟩
  show w.cell? ⟨b, off + j * 1, none⟩ = _
  rw [Nat.mul_one, hcell, List.getD_eq_getElem?_getD, hx]
  rfl
set_option maxRecDepth 100000 in
theorem Rep.to_rd {K : IntKind} {hi : Nat} {w : World} {cs : List Value} {l : List Int} (h : (Rep.slice (Rep.int K)).rd hi w cs l) : ∃ v, cs = [v] ∧ Proofs.YthnimmagaocipaaGreatDoor.rd K hi w v l := by
  obtain ⟨A, c, rfl, hc, hj⟩ := h
  refine ⟨_, rfl, A, c, rfl, hc, fun j hl => ?_⟩
  obtain ⟨b, off, xs, rfl, hb, hx, hcell⟩ := hj j _ (List.getElem?_eq_getElem hl)
  have hx' : xs = [.int K l[j]] := hx
  subst hx'
  refine ⟨b, off, rfl, hb, ?_⟩
  have := atL_one.1 hcell
  rw [show off + j * (Rep.int K).k = off + j from by show off + j * 1 = _; rw [Nat.mul_one]] at this
  rw [this, List.getD_eq_getElem?_getD, List.getElem?_eq_getElem hl]
  rfl
end Go.Proofs.YthnimmagaocipaaGreatDoor
set_option linter.unusedVariables false
namespace Go.Proofs.YthnimmagaocipaaGreatDoor
open Go.ChangeShapes Go.WideShapes Go.ChangeAt Go.RowKit Go.Deep

/-- what reads as data of type T reads as R's data, with G -/
def Opens {H : Type} (enc : TypeId × Value → H) (P : Program) (w : World) {α : Type} (R : Rep α) (T : TypeId) (G : α → Prop) : Prop :=
  ∀ (fuel : Nat) (cs : List Value) (x : DataW H × List MemPlace), DataW.trod enc P w 0 (fun _ => true) true fuel T cs = some x → ∃ y, R.rd w.heap.size w cs y ∧ G y
def OpensF {H : Type} (enc : TypeId × Value → H) (P : Program) (w : World) {α : Type} (fs : List Field) (off : Nat) (R : Rep α) (G : α → Prop) : Prop :=
  ∀ (n : Nat) (cs : List Value) (xs : List (DataW H × List MemPlace)), cs.length = off + R.k → xs.length = fs.length →
    (∀ (i : Nat) (f : Field), fs[i]? = some f → DataW.trod enc P w 0 (fun _ => true) true n f.type ((cs.drop f.offset).take (P.cellsOf f.type)) = xs[i]?) → ∃ y, R.rd w.heap.size w (cs.drop off) y ∧ G y
section
variable {H : Type} {enc : TypeId × Value → H} {P : Program} {w : World} {α β : Type} {R : Rep α} {S : Rep β} {G : α → Prop} {G' : β → Prop} {T e : TypeId}
set_option maxRecDepth 100000 in
theorem opens_int {K : IntKind} (ht : P.underlying T = some (.int K)) : Opens enc P w (Rep.int K) T (fun z => (Lit.int K z).wf = true) := by
  intro fuel cs x h
  obtain ⟨n, rfl, _, hw⟩ := DataW.trod_int ht h
  exact ⟨n, rfl, hw⟩
set_option maxRecDepth 100000 in
theorem opens_str (ht : P.underlying T = some .string) : Opens enc P w Rep.str T (fun s => s.size ≤ maxLen) := by
  intro fuel cs x h
  obtain ⟨n, rfl, _, hw⟩ := DataW.trod_string ht h
  exact ⟨n, rfl, hw⟩
set_option maxRecDepth 100000 in
theorem opens_slice (hk0 : 0 < R.k) (ht : P.underlying T = some (.slice e)) (hC : P.cellsOf e = R.k) (h0 : Opens enc P w R e G) : Opens enc P w R.slice T (fun l => l.length ≤ maxLen ∧ ∀ y ∈ l, G y) := by
  intro fuel cs x h
  rcases open_slice ht h with ⟨rfl, _⟩ | ⟨a, len, cap, m, n, D, Pl, rfl, _, hl, hm, hmm, _, hi⟩
  · exact ⟨[], ⟨none, 0, rfl, Nat.le_refl _, fun j x hx => by simp at hx⟩, Nat.zero_le _, fun y hy => by cases hy⟩
  · simp only [if_true] at hmm
    subst hmm
    have hy : ∀ i, i < len → ∃ y cs', w.cells? 0 (a.add (i * R.k)) R.k = some cs' ∧ R.rd w.heap.size w cs' y ∧ G y := fun i hil => by
      obtain ⟨cs', h1, h2⟩ := hi i (by omega)
      rw [hC] at h1
      obtain ⟨y, h3, h4⟩ := h0 n cs' _ h2
      exact ⟨y, cs', h1, h3, h4⟩
    have hL : ∀ k, k ≤ len → ∃ l : List α, l.length = k ∧ ∀ j x, l[j]? = some x → ∃ cs', w.cells? 0 (a.add (j * R.k)) R.k = some cs' ∧ R.rd w.heap.size w cs' x ∧ G x := by
      intro k
      induction k with
      | zero => intro _; exact ⟨[], rfl, fun j x hx => by simp at hx⟩
      | succ k ih =>
        intro hk
        obtain ⟨l, hl1, hl2⟩ := ih (by omega)
        obtain ⟨y, cs', h1, h2, h3⟩ := hy k (by omega)
        refine ⟨l ++ [y], by simp [hl1], fun j x hx => ?_⟩
        by_cases hj : j < l.length
        · rw [List.getElem?_append_left hj] at hx
          exact hl2 j x hx
        · have hj' : j = k := by have := (List.getElem?_eq_some_iff.1 hx).1; simp at this; omega
          subst hj'
          rw [List.getElem?_append_right (by omega), hl1, Nat.sub_self] at hx
          have hyx : y = x := by simpa using hx
          subst hyx
          exact ⟨cs', h1, h2, h3⟩
    obtain ⟨l, hl1, hl2⟩ := hL len (Nat.le_refl _)
    subst hl1
    refine ⟨l, ⟨some a, m, rfl, hl, fun j x hx => ?_⟩, by omega, fun y hy => ?_⟩
    · obtain ⟨cs', h1, h2, h3⟩ := hl2 j x hx
      obtain ⟨_, hlen, hat⟩ := World.cells?_some h1
      have hk := R.rd_len h2
      obtain ⟨b, off, spot⟩ := a
      have hcell : ∀ t u, cs'[t]? = some u → w.cell? ((⟨b, off, spot⟩ : Addr).add (j * R.k + t)) = some u := fun t u hu => by
        have ht : t < R.k := by rw [← hk]; exact (List.getElem?_eq_some_iff.1 hu).1
        rw [← Go.Deep.add_add, hat t ht, hu]
      have h00 := hcell 0 _ (List.getElem?_eq_getElem (by omega))
      have hspot : spot = none := by
        have hjl := (List.getElem?_eq_some_iff.1 hx).1
        obtain ⟨cs0, g1, g2, _⟩ := hl2 0 _ (List.getElem?_eq_getElem (by omega))
        obtain ⟨_, glen, gat⟩ := World.cells?_some g1
        have g0 := gat 0 (by omega)
        rw [List.getElem?_eq_getElem (by omega), Nat.zero_mul] at g0
        exact World.cell?_spot g0
      subst hspot
      have hb : b < w.heap.size := by
        rcases Nat.lt_or_ge b w.heap.size with h' | h'
        · exact h'
        · rw [Go.WideShapes.add_plain] at h00; simp [World.cell?, Array.getElem?_eq_none h'] at h00
      exact ⟨b, off, cs', rfl, hb, h2, fun t u hu => by rw [Nat.add_assoc, ← Go.WideShapes.add_plain]; exact hcell t u hu⟩
    · obtain ⟨j, hj⟩ := List.mem_iff_getElem?.1 hy
      obtain ⟨_, _, _, h3⟩ := hl2 j y hj
      exact h3
set_option maxRecDepth 100000 in
theorem opensF_one {f : Field} {off : Nat} (h : Opens enc P w R f.type G) (ho : f.offset = off) (hk : P.cellsOf f.type = R.k) : OpensF enc P w [f] off R G := by
  intro n cs xs hl hx hf
  match xs, hx with
  | [x], _ =>
    have := hf 0 f rfl
    rw [ho, hk, List.take_of_length_le (by rw [List.length_drop]; omega)] at this
    exact h n _ _ this
set_option maxRecDepth 100000 in
theorem opensF_cons {f : Field} {fs : List Field} {off : Nat} (h : Opens enc P w R f.type G) (ho : f.offset = off) (hk : P.cellsOf f.type = R.k) (hr : OpensF enc P w fs (off + R.k) S G') : OpensF enc P w (f :: fs) off (R.pair S) (fun y => G y.1 ∧ G' y.2) := by
  intro n cs xs hl hx hf
  match xs, hx with
  | x :: xs, hx =>
    have h0 := hf 0 f rfl
    rw [ho, hk] at h0
    obtain ⟨y, h1, h2⟩ := h n _ _ h0
    have hl' : cs.length = off + R.k + S.k := by rw [hl]; show off + (R.k + S.k) = _; omega
    obtain ⟨z, h3, h4⟩ := hr n cs xs hl' (by simpa using hx) (fun i g hg => by simpa using hf (i + 1) g (by simpa using hg))
    refine ⟨(y, z), ⟨(cs.drop off).take R.k, cs.drop (off + R.k), ?_, h1, h3⟩, h2, h4⟩
    rw [← List.drop_drop]
    exact (List.take_append_drop _ _).symm
set_option maxRecDepth 100000 in
theorem opens_struct {fs : Array Field} (ht : P.underlying T = some (.struct fs)) (hC : P.cellsOf T = R.k) (h : OpensF enc P w fs.toList 0 R G) : Opens enc P w R T G := by
  intro fuel cs x hx
  obtain ⟨xs, n, _, _, hl, hlen, hf⟩ := DataW.trod_struct ht hx
  have := h n cs xs (by rw [hl, hC]; omega) (by simpa using hlen) (fun i f hif => hf i f (by simpa using hif))
  simpa using this
end
end Go.Proofs.YthnimmagaocipaaGreatDoor
set_option linter.unusedVariables false
namespace Go.Proofs.YthnimmagaocipaaGreatDoor
open Go.ChangeShapes Go.WideShapes Go.ChangeAt Go.RowKit

/-- cells stored one behind the other -/
def setsAt (w : World) (b o : Nat) : List Value → World
  | [] => w
  | u :: us => setsAt (w.setCell ⟨b, o, none⟩ u) b (o + 1) us
/-- n cells from o on are there and may be written -/
def roomL (w : World) (b o n : Nat) : Prop := ∀ t, t < n → (∃ u, w.cell? ⟨b, o + t, none⟩ = some u) ∧ w.frozen? ⟨b, o + t, none⟩ = false
set_option maxRecDepth 100000 in
theorem roomL.set {w : World} {b o n : Nat} (h : roomL w b o n) (p : Nat) (x : Value) : roomL (w.setCell ⟨b, p, none⟩ x) b o n := fun t ht => by
  obtain ⟨⟨u, hu⟩, hf⟩ := h t ht
  refine ⟨?_, by simpa using hf⟩
  by_cases e : p = o + t
  · subst e; exact ⟨_, World.cell?_setCell_same w _ x hu⟩
  · exact ⟨u, (World.cell?_setCell_other _ _ _ _ (fun he => e (by have := congrArg Addr.off he; simp at this; omega))).trans hu⟩
set_option maxRecDepth 100000 in
theorem roomL.keep {w w' : World} {b o n : Nat} (h : roomL w b o n) (hk : w'.heap[b]? = w.heap[b]?) : roomL w' b o n := fun t ht => by
  obtain ⟨⟨u, hu⟩, hf⟩ := h t ht
  exact ⟨⟨u, (cell_keep hk).trans hu⟩, (frozen_keep hk).trans hf⟩
set_option maxRecDepth 100000 in
theorem roomL.sub {w : World} {b o n o' n' : Nat} (h : roomL w b o n) (h1 : o ≤ o') (h2 : o' + n' ≤ o + n) : roomL w b o' n' := fun t ht => by
  have := h (o' - o + t) (by omega)
  rwa [show o + (o' - o + t) = o' + t by omega] at this
set_option maxRecDepth 100000 in
theorem roomL.free {w : World} {b o n : Nat} (h : roomL w b o n) : freeL w b o n := fun t ht => (h t ht).2
set_option maxRecDepth 100000 in
theorem atL.keep {w w' : World} {b o : Nat} {us : List Value} (h : atL w b o us) (hk : w'.heap[b]? = w.heap[b]?) : atL w' b o us := fun t u hu => (cell_keep hk).trans (h t u hu)
set_option maxRecDepth 100000 in
theorem atL.set_far {w : World} {b o p : Nat} {us : List Value} (h : atL w b o us) (hp : p < o ∨ o + us.length ≤ p) (x : Value) : atL (w.setCell ⟨b, p, none⟩ x) b o us := fun t u hu => by
  have ht := (List.getElem?_eq_some_iff.1 hu).1
  exact (World.cell?_setCell_other _ _ _ _ (fun he => by have := congrArg Addr.off he; simp at this; omega)).trans (h t u hu)
set_option maxRecDepth 100000 in
theorem setsAt_far (us : List Value) : ∀ (w : World) (b o : Nat) (vs : List Value) (p : Nat), atL w b p vs → (p + vs.length ≤ o ∨ o + us.length ≤ p) → atL (setsAt w b o us) b p vs := by
  induction us with
  | nil => intro w b o vs p h _; exact h
  | cons u us ih =>
    intro w b o vs p h hp
    simp only [List.length_cons] at hp
    exact ih _ b (o + 1) vs p (h.set_far (by omega) u) (by omega)
set_option maxRecDepth 100000 in
theorem setsAt_room (us : List Value) : ∀ (w : World) (b o p n : Nat), roomL w b p n → roomL (setsAt w b o us) b p n := by
  induction us with
  | nil => intro w b o p n h; exact h
  | cons u us ih => intro w b o p n h; exact ih _ b (o + 1) p n (h.set _ _)
set_option maxRecDepth 100000 in
theorem setsAt_at (us : List Value) : ∀ (w : World) (b o : Nat), roomL w b o us.length → atL (setsAt w b o us) b o us := by
  induction us with
  | nil => intro w b o _ t u hu; simp at hu
  | cons u us ih =>
    intro w b o h t v hv
    have hroom := h.set o u
    obtain ⟨⟨x, hx⟩, _⟩ := h 0 (by simp)
    have h0 : atL (w.setCell ⟨b, o, none⟩ u) b o [u] := atL_one.2 (World.cell?_setCell_same w ⟨b, o, none⟩ u hx)
    have h1 := setsAt_far us (w.setCell ⟨b, o, none⟩ u) b (o + 1) [u] o h0 (.inl (by simp))
    have h2 := ih (w.setCell ⟨b, o, none⟩ u) b (o + 1) (hroom.sub (by omega) (by simp; omega))
    cases t with
    | zero => cases hv; exact atL_one.1 h1
    | succ t =>
      have := h2 t v (by simpa using hv)
      rwa [show o + 1 + t = o + (t + 1) by omega] at this
set_option maxRecDepth 100000 in
theorem setsAt_turned {lo hi : Nat} {u : World} (us : List Value) : ∀ (w : World) (b o : Nat), Turned lo hi u w → lo ≤ b → b < hi → Turned lo hi u (setsAt w b o us) := by
  induction us with
  | nil => intro w b o h _ _; exact h
  | cons v us ih => intro w b o h h1 h2; exact ih _ b (o + 1) (h.set o v h1 h2) h1 h2
set_option maxRecDepth 100000 in
theorem setsAt_below {B : Nat} {u : World} (us : List Value) : ∀ (w : World) (b o : Nat), Below B u w → B ≤ b → Below B u (setsAt w b o us) := by
  induction us with
  | nil => intro w b o h _; exact h
  | cons v us ih => intro w b o h h1; exact ih _ b (o + 1) (h.setCell h1 _) h1

/-- of n elements of k cells each in block b the first i hold E 0, E 1, ..; all cells are there and may be written -/
structure filled (w : World) (b off k n i : Nat) (E : Nat → List Value) : Prop where
  room : roomL w b off (n * k)
  at_ : ∀ j, j < i → atL w b (off + j * k) (E j)
set_option maxRecDepth 100000 in
theorem filled.start {w : World} {b off k n : Nat} {E : Nat → List Value} (h : roomL w b off (n * k)) : filled w b off k n 0 E := ⟨h, fun j hj => absurd hj (by omega)⟩
set_option maxRecDepth 100000 in
theorem filled.keep {w w' : World} {b off k n i : Nat} {E : Nat → List Value} (h : filled w b off k n i E) (hk : w'.heap[b]? = w.heap[b]?) : filled w' b off k n i E := ⟨h.room.keep hk, fun j hj => (h.at_ j hj).keep hk⟩
set_option maxRecDepth 100000 in
theorem mul_step {j k i : Nat} (h : j < i) : j * k + k ≤ i * k := by
  have : (j + 1) * k ≤ i * k := Nat.mul_le_mul_right k h
  rwa [Nat.add_mul, Nat.one_mul] at this
set_option maxRecDepth 100000 in
theorem filled.next {w : World} {b off k n i : Nat} {E : Nat → List Value} (h : filled w b off k n i E) (hi : i < n) (hE : ∀ j, j ≤ i → (E j).length = k) : filled (setsAt w b (off + i * k) (E i)) b off k n (i + 1) E := by
  have hik := mul_step (k := k) hi
  refine ⟨setsAt_room _ _ _ _ _ _ h.room, fun j hj => ?_⟩
  by_cases e : j = i
  · subst e
    exact setsAt_at _ _ _ _ (h.room.sub (by omega) (by rw [hE j (Nat.le_refl _)]; omega))
  · have hjk := mul_step (k := k) (show j < i by omega)
    exact setsAt_far _ _ _ _ _ _ (h.at_ j (by omega)) (.inl (by rw [hE j (by omega)]; omega))
set_option maxRecDepth 100000 in
theorem room_new (w : World) (cs : Array Value) (T : TypeId) : roomL (w.alloc (.cells cs T)) w.heap.size 0 cs.size := fun t ht => by
  have hb := heap_alloc_new w (.cells cs T)
  rw [Nat.zero_add]
  refine ⟨⟨cs[t], ?_⟩, ?_⟩
  · rw [cell_of_row _ _ t cs T (0, 0) hb]; exact Array.getElem?_eq_getElem ht
  · unfold World.frozen?; rw [hb]; simp
set_option maxRecDepth 100000 in
theorem room_made (w : World) (z : Array Value) (n : Nat) (T : TypeId) : roomL (w.alloc (.cells (madeCells z n) T)) w.heap.size 0 n := by
  have := room_new w (madeCells z n) T
  rwa [size_madeCells] at this
set_option maxRecDepth 100000 in
/-- what make lays, elements of k cells -/
theorem make_run {P : Program} (t e : TypeId) (zs : Array Value) (k bytes : Nat) (ht : P.underlying t = some (.slice e)) (hinfo : (P.info? e).map (fun i => (i.zero.map (·.cells), i.size, i.bytes)) = some (some zs, k, bytes)) (n : Nat) (hb : bytes * n ≤ 281474976710656) (hn : n ≤ 1000000000000) :
    ∀ w, (Instr.makeSlice t (.int .i64 n) (.int .i64 n)).run P w = .ok (.slice (some ⟨w.heap.size, 0, none⟩) n n) (w.alloc (.cells (madeCells zs (n * k)) e)) := by
  intro w
  obtain ⟨i, hi, hx⟩ := Option.map_eq_some_iff.1 hinfo
  simp only [Prod.mk.injEq] at hx
  obtain ⟨hz, h1, h2⟩ := hx
  obtain ⟨z, hzz, rfl⟩ := Option.map_eq_some_iff.1 hz
  subst h1
  subst h2
  have := run_make (P := P) w t e i z ht hi hzz .i64 .i64 n n (by omega) (by omega) (by rw [← Int.natCast_mul]; omega) (by omega)
  rw [this]
  rfl
set_option maxRecDepth 100000 in
/-- a cell of element j -/
theorem filled.cells {w : World} {b off k n i j : Nat} {E : Nat → List Value} (h : filled w b off k n i E) (hj : j < n) (t : Nat) (ht : t < k) : (∃ u, w.cell? ⟨b, off + j * k + t, none⟩ = some u) ∧ w.frozen? ⟨b, off + j * k + t, none⟩ = false := by
  have hjk := mul_step (k := k) hj
  have := h.room (j * k + t) (by omega)
  rwa [← Nat.add_assoc] at this
end Go.Proofs.YthnimmagaocipaaGreatDoor
set_option linter.unusedVariables false
namespace Go.Proofs.YthnimmagaocipaaGreatDoor
open Go.ChangeShapes Go.WideShapes Go.ChangeAt Go.RowKit

set_option maxRecDepth 100000 in
theorem below_drew (w : World) (B : Nat) : Below B w w.drew := ⟨rfl, rfl, rfl, Nat.le_refl _, fun _ _ => rfl⟩
set_option maxRecDepth 100000 in
theorem getD_of {α : Type} {l : List α} {j : Nat} {x d : α} (h : l[j]? = some x) : l.getD j d = x := by rw [List.getD_eq_getElem?_getD, h]; rfl
/-- what is left of a bound, or -1 -/
def leftOf (left : Int) (need : Nat) (r : Int) : Prop := r = -1 ∨ (r = left - need ∧ 0 ≤ r)
def szRes (left : Int) (need : Nat) (w : World) (e : Ending) (w' : World) : Prop := ∃ r, e = .returned (.int .i64 r) ∧ leftOf left need r ∧ Below w.heap.size w w'
/-- the sizes of the first elements -/
def sumTo {α : Type} (f : α → Nat) (l : List α) (i : Nat) : Nat := ((l.take i).map f).sum
set_option maxRecDepth 100000 in
theorem sumTo_next {α : Type} (f : α → Nat) (l : List α) (i : Nat) (x : α) (h : l[i]? = some x) : sumTo f l (i + 1) = sumTo f l i + f x := by
  obtain ⟨hi, rfl⟩ := List.getElem?_eq_some_iff.1 h
  unfold sumTo
  rw [List.take_succ_eq_append_getElem hi, List.map_append, List.sum_append]
  simp
set_option maxRecDepth 100000 in
theorem sumTo_all {α : Type} (f : α → Nat) (l : List α) : sumTo f l l.length = (l.map f).sum := by unfold sumTo; rw [List.take_length]
set_option maxRecDepth 100000 in
theorem le_sum {α : Type} (f : α → Nat) {l : List α} {x : α} (h : x ∈ l) : f x ≤ (l.map f).sum := by
  induction l with
  | nil => cases h
  | cons y l ih =>
    rw [List.map_cons, List.sum_cons]
    rcases List.mem_cons.1 h with rfl | h
    · omega
    · have := ih h; omega
end Go.Proofs.YthnimmagaocipaaGreatDoor
set_option linter.unusedVariables false
namespace Go.Proofs.YthnimmagaocipaaGreatDoor
open Go.ChangeShapes Go.WideShapes Go.ChangeAt Go.RowKit

set_option maxRecDepth 100000 in
theorem conv_one (W : World) (c : Int) (T : TypeId) : (convert 99 9 (.slice (some ⟨W.heap.size, 0, none⟩) 1 1)).run Tryz.prog (W.alloc (.cells #[.int .u8 c] T)) = .ok (.string ⟨#[UInt8.ofNat c.toNat]⟩) (W.alloc (.cells #[.int .u8 c] T)) := by
  have h := run_convert_bytes_arg (P := Tryz.prog) (W.alloc (.cells #[.int .u8 c] T)) 99 5 Tryz.underlying99 Tryz.underlying5 W.heap.size 0 1 1 [c] rfl
    (fun i hi => by
      obtain rfl : i = 0 := by omega
      simp) 9 Tryz.underlying9
  exact h
end Go.Proofs.YthnimmagaocipaaGreatDoor
set_option linter.unusedVariables false
namespace Go.Proofs.YthnimmagaocipaaGreatDoor
open Go.ChangeShapes Go.WideShapes Go.ChangeAt Go.RowKit

/-- block b holds the strings of a list -/
def strRow (w : World) (b : Nat) (l : List (List UInt8)) : Prop := ∀ (j : Nat) (x : List UInt8), l[j]? = some x → w.cell? ⟨b, j, none⟩ = some (.string ⟨x.toArray⟩)
/-- .. and may be written -/
def strFree (w : World) (b n : Nat) : Prop := ∀ j : Nat, j < n → w.frozen? ⟨b, j, none⟩ = false
set_option maxRecDepth 100000 in
theorem strRow.below {w w' : World} {b B : Nat} {l : List (List UInt8)} (h : strRow w b l) (hb : Below B w w') (hlt : b < B) : strRow w' b l := fun j x hx => (hb.cell (p := ⟨b, j, none⟩) hlt).trans (h j x hx)
set_option maxRecDepth 100000 in
theorem strFree.below {w w' : World} {b B n : Nat} (h : strFree w b n) (hb : Below B w w') (hlt : b < B) : strFree w' b n := fun j hj => (hb.frozen (p := ⟨b, j, none⟩) hlt).trans (h j hj)

/-- the text of a mark -/
def markOf (k : Int) : List UInt8 := 109 :: Lib.decDigits k.toNat
set_option maxRecDepth 100000 in
theorem str_appS (a b : List UInt8) : ((⟨a.toArray⟩ : ByteArray) ++ (⟨b.toArray⟩ : ByteArray)) = ⟨(a ++ b).toArray⟩ := by apply ByteArray.ext; simp
set_option maxRecDepth 100000 in
theorem str_consS (c : UInt8) (b : List UInt8) : ((⟨#[c]⟩ : ByteArray) ++ (⟨b.toArray⟩ : ByteArray)) = ⟨(c :: b).toArray⟩ := str_appS [c] b
/-- the digits still to come -/
def restOf (k : Int) : List UInt8 := if k ≤ 0 then [] else Lib.decDigits k.toNat
set_option maxRecDepth 100000 in
theorem rest_all {k : Int} (h : 0 < k) : restOf k = Lib.decDigits k.toNat := by unfold restOf; rw [if_neg (by omega)]
set_option maxRecDepth 100000 in
theorem rest_none {k : Int} (h : k ≤ 0) : restOf k = [] := by unfold restOf; rw [if_pos h]
set_option maxRecDepth 100000 in
theorem rest_step {k : Int} (h : 0 < k) (t : List UInt8) : restOf (k / 10) ++ (UInt8.ofNat (48 + k % 10).toNat :: t) = restOf k ++ t := by
  rw [rest_all h]
  by_cases h1 : k < 10
  · rw [rest_none (k := k / 10) (by omega), Lib.decDigits_one (i := k.toNat) (by omega), show (48 + k % 10).toNat = 48 + k.toNat by omega]; rfl
  · rw [rest_all (k := k / 10) (by omega)]
    conv => rhs; rw [Lib.decDigits, dif_neg (show ¬ k.toNat < 10 by omega)]
    rw [show (k / 10).toNat = k.toNat / 10 by omega, show (48 + k % 10).toNat = 48 + k.toNat % 10 by omega]
    simp
set_option maxRecDepth 100000 in
theorem rest_len {k : Int} {t l : List UInt8} (h : restOf k ++ t = l) : t.length ≤ l.length := by rw [← h, List.length_append]; omega
set_option maxRecDepth 100000 in
theorem mark_len (k : Int) (h : k ≤ 1000000000) : (Lib.decDigits k.toNat).length ≤ 20 := by rw [Lib.decDigits_length]; exact Lib.nDigits_le20 _ (by omega)
set_option maxRecDepth 100000 in
set_option maxHeartbeats 800000 in
theorem markText_any (k : Int) (w : World) (h0 : 0 < k) (h1 : k ≤ 1000000000) :
    Calls Tryz.prog 66 #[.int .i64 k] w fun e w' => e = .returned (.string ⟨(markOf k).toArray⟩) ∧ Below w.heap.size w w' := by
  have hcv := fun (W : World) (c : Int) (T : TypeId) => conv_one W c T
  go_enter Tryz.func66, Tryz.ntmps66
  go_wp2
  go_loopw [3, 0] (fun tv kv wr => ∃ (m : Int) (t : List UInt8), kv = .int .i64 m ∧ tv = .string ⟨t.toArray⟩ ∧ restOf m ++ t = Lib.decDigits k.toNat ∧ 0 ≤ m ∧ m ≤ 1000000000 ∧ Below w.heap.size w wr) (fun _ kv _ => (intOf kv).toNat)
  case atStart => exact ⟨k, [], rfl, rfl, by simp [rest_all h0], by omega, h1, Below.refl _ _⟩
  case round =>
    obtain ⟨m, t, rfl, rfl, hd, hm0, hm1, hb⟩ := hrel
    have hl := rest_len hd
    have hl2 := mark_len k h1
    have hl3 : t.length ≤ 20 := by omega
    have HD := Lib.hid hd
    clear hd hl hl2
    by_cases hpos : 0 < m
    · have hst := Lib.hid (rest_step hpos t)
      go_wp2
      go_roundw
      case rel => exact ⟨m / 10, _, rfl, congrArg Value.string (str_consS _ _), hst.out.trans HD.out, by omega, by omega, hb.alloc hb.size _⟩
      case measure => simp [intOf] <;> omega
    · have hst := Lib.hid (rest_none (k := m) (by omega))
      go_wp2
      go_ret
      refine ⟨congrArg (fun b => Ending.returned (Value.string b)) ((str_consS _ _).trans ?_), hb⟩
      have := HD.out
      rw [hst.out] at this
      unfold markOf
      rw [← this]; rfl

/-- of what was there block b alone may have turned -/
structure wrote (b : Nat) (w w' : World) : Prop where
  os : w'.os = w.os
  tape : w'.tape = w.tape
  output : w'.output = w.output
  size : w.heap.size ≤ w'.heap.size
  block : ∀ k, k < w.heap.size → k ≠ b → w'.heap[k]? = w.heap[k]?
set_option maxRecDepth 100000 in
theorem wrote.refl (b : Nat) (w : World) : wrote b w w := ⟨rfl, rfl, rfl, Nat.le_refl _, fun _ _ _ => rfl⟩
set_option maxRecDepth 100000 in
theorem wrote.then {b : Nat} {u v w : World} (h : wrote b u v) (g : Below v.heap.size v w) : wrote b u w :=
  ⟨g.os.trans h.os, g.tape.trans h.tape, g.output.trans h.output, Nat.le_trans h.size g.size, fun k hk hne => (g.block k (Nat.lt_of_lt_of_le hk h.size)).trans (h.block k hk hne)⟩
set_option maxRecDepth 100000 in
theorem wrote.set {b : Nat} {u v : World} (h : wrote b u v) (o : Nat) (x : Value) : wrote b u (v.setCell ⟨b, o, none⟩ x) :=
  ⟨h.os, h.tape, h.output, by simpa [World.setCell] using h.size, fun k hk hne => (Below.heap_setCell _ _ _ _ hne).trans (h.block k hk hne)⟩
set_option maxRecDepth 100000 in
theorem wrote.below {b B : Nat} {u v : World} (h : wrote b u v) (hB : B ≤ b) (hs : B ≤ u.heap.size) : Below B u v := ⟨h.os, h.tape, h.output, h.size, fun k hk => h.block k (by omega) (by omega)⟩
set_option maxRecDepth 100000 in
theorem wrote.row {b c : Nat} {u v : World} {l : List (List UInt8)} (h : wrote b u v) (hc : c < u.heap.size) (hne : c ≠ b) (hr : strRow u c l) : strRow v c l := fun j x hx =>
  (World.cell?_of_block (h.block c hc hne)).trans (hr j x hx)

/-- the first i places hold marks, all places can be written -/
def marked (w : World) (b : Nat) (k : Int) (i n : Nat) : Prop := ∀ j : Nat, j < n → w.frozen? ⟨b, j, none⟩ = false ∧ (∃ v, w.cell? ⟨b, j, none⟩ = some v) ∧ (j < i → w.cell? ⟨b, j, none⟩ = some (.string ⟨(markOf (k + j)).toArray⟩))
set_option maxRecDepth 100000 in
theorem marked.below {w w' : World} {b : Nat} {k : Int} {i n : Nat} (h : marked w b k i n) (hb : Below w.heap.size w w') (hlt : b < w.heap.size) : marked w' b k i n := fun j hj =>
  ⟨(hb.frozen (p := ⟨b, j, none⟩) hlt).trans (h j hj).1, by obtain ⟨v, hv⟩ := (h j hj).2.1; exact ⟨v, (hb.cell (p := ⟨b, j, none⟩) hlt).trans hv⟩, fun hi => (hb.cell (p := ⟨b, j, none⟩) hlt).trans ((h j hj).2.2 hi)⟩
set_option maxRecDepth 100000 in
theorem marked.set {w : World} {b : Nat} {k : Int} {i n : Nat} (h : marked w b k i n) (hi : i < n) : marked (w.setCell ⟨b, i, none⟩ (.string ⟨(markOf (k + i)).toArray⟩)) b k (i + 1) n := by
  intro j hj
  have hf : ∀ a, (w.setCell ⟨b, i, none⟩ (.string ⟨(markOf (k + i)).toArray⟩)).frozen? a = w.frozen? a := fun a => by simp
  refine ⟨(hf _).trans (h j hj).1, ?_⟩
  by_cases e : i = j
  · subst e
    obtain ⟨v, hv⟩ := (h i hj).2.1
    have := World.cell?_setCell_same w ⟨b, i, none⟩ (.string ⟨(markOf (k + i)).toArray⟩) hv
    exact ⟨⟨_, this⟩, fun _ => this⟩
  · have hne : ∀ x, (w.setCell ⟨b, i, none⟩ x).cell? ⟨b, j, none⟩ = w.cell? ⟨b, j, none⟩ := fun x => World.cell?_setCell_other _ _ _ _ (fun he => e (by simpa using congrArg Addr.off he))
    obtain ⟨v, hv⟩ := (h j hj).2.1
    exact ⟨⟨v, (hne _).trans hv⟩, fun hlt => (hne _).trans ((h j hj).2.2 (by omega))⟩

end Go.Proofs.YthnimmagaocipaaGreatDoor
set_option linter.unusedVariables false
namespace Go.Proofs.YthnimmagaocipaaGreatDoor
open Go.ChangeShapes Go.WideShapes Go.ChangeAt Go.RowKit

/-- id, amount, due -/
abbrev HoldD := ByteArray × Int × Int
def noH : HoldD := (⟨#[]⟩, 0, 0)
def HoldR : Rep HoldD := Rep.pair Rep.str (Rep.pair (Rep.int .i64) (Rep.int .i64))
def HoldsR : Rep (List HoldD) := HoldR.slice
def hCells (x : HoldD) : List Value := [.string x.1, .int .i64 x.2.1, .int .i64 x.2.2]
set_option maxRecDepth 100000 in
theorem hold_rd {hi : Nat} {w : World} {cs : List Value} {x : HoldD} : HoldR.rd hi w cs x ↔ cs = hCells x := by
  constructor
  · rintro ⟨a, b, rfl, rfl, c, d, rfl, rfl, rfl⟩; rfl
  · rintro rfl; exact ⟨[_], [_, _], rfl, rfl, [_], [_], rfl, rfl, rfl⟩
set_option maxRecDepth 100000 in
theorem hold_own {w : World} {cs : List Value} {x : HoldD} {F : List Nat} : HoldR.own w cs x F ↔ cs = hCells x ∧ F = [] := by
  constructor
  · rintro ⟨a, b, G, H, rfl, rfl, ⟨rfl, rfl⟩, c, d, I, J, rfl, rfl, ⟨rfl, rfl⟩, ⟨rfl, rfl⟩⟩; exact ⟨rfl, rfl⟩
  · rintro ⟨rfl, rfl⟩; exact ⟨[_], [_, _], [], [], rfl, rfl, ⟨rfl, rfl⟩, [_], [_], [], [], rfl, rfl, ⟨rfl, rfl⟩, ⟨rfl, rfl⟩⟩
set_option maxRecDepth 100000 in
/-- a slice of holds: its value and its cells -/
theorem holds_rd {hi : Nat} {w : World} {v : Value} {l : List HoldD} (h : HoldsR.rd hi w [v] l) :
    ∃ A c, v = .slice A l.length c ∧ l.length ≤ c ∧ ∀ j x, l[j]? = some x → ∃ b off, A = some ⟨b, off, none⟩ ∧ b < hi ∧ w.cell? ⟨b, off + j * 3, none⟩ = some (.string x.1) ∧ w.cell? ⟨b, off + j * 3 + 1, none⟩ = some (.int .i64 x.2.1) ∧ w.cell? ⟨b, off + j * 3 + 2, none⟩ = some (.int .i64 x.2.2) := by
  obtain ⟨A, c, hv, hc, hj⟩ := h
  simp only [List.cons.injEq, and_true] at hv
  refine ⟨A, c, hv, hc, fun j x hx => ?_⟩
  obtain ⟨b, off, xs, hA, hb, hr, ha⟩ := hj j x hx
  rw [hold_rd] at hr
  subst hr
  exact ⟨b, off, hA, hb, ha 0 _ rfl, ha 1 _ rfl, ha 2 _ rfl⟩
set_option maxRecDepth 100000 in
/-- a row of holds in one block of one's own -/
theorem holds_mine {lo hi : Nat} {w : World} {b off c n : Nat} {l : List HoldD} (hn : n = l.length) (hc : n ≤ c) (h1 : lo ≤ b) (h2 : b < hi) (h : filled w b off 3 n n fun j => hCells (l.getD j (⟨#[]⟩, 0, 0))) : HoldsR.mine lo hi w [.slice (some ⟨b, off, none⟩) n c] l := by
  subst hn
  refine ⟨b :: List.flatten (l.map fun _ => []), ⟨some ⟨b, off, none⟩, c, rfl, hc, .inr ⟨b, off, _, rfl, rfl, by simp, fun j x G hx hG => ?_⟩⟩, ?_, ?_⟩
  · have hj := (List.getElem?_eq_some_iff.1 hx).1
    have hG' : G = [] := by rw [List.getElem?_map, hx] at hG; simpa using hG.symm
    subst hG'
    have hx' : l.getD j (⟨#[]⟩, 0, 0) = x := by rw [List.getD_eq_getElem?_getD, hx]; rfl
    have ha := h.at_ j hj
    rw [hx'] at ha
    exact ⟨_, hold_own.2 ⟨rfl, rfl⟩, ha, fun t ht => (h.cells hj t ht).2⟩
  · have : List.flatten (l.map fun _ => ([] : List Nat)) = [] := by simp
    rw [this]; simp
  · have : List.flatten (l.map fun _ => ([] : List Nat)) = [] := by simp
    rw [this]
    intro b' hb'
    rw [List.mem_singleton.1 hb']
    exact ⟨h1, h2⟩
set_option maxRecDepth 100000 in
theorem toHold_any (x : HoldD) (w : World) :
    Calls Tryz.prog 76 #[.agg #[.string x.1, .int .i64 x.2.1, .int .i64 x.2.2]] w fun e w' => e = .returned (.agg #[.string x.1, .int .i64 x.2.1, .int .i64 x.2.2]) ∧ Below w.heap.size w w' := by
  go_enter Tryz.func76, Tryz.ntmps76
  go_wp2
  exact bodyPost_ret (v := .agg #[.string x.1, .int .i64 x.2.1, .int .i64 x.2.2]) (by simp [results, Tryz.results76, go_sem]) rfl ⟨rfl, (((Below.refl _ _).alloc (Nat.le_refl _) _).alloc (by simp) _).alloc (by simp; omega) _⟩

set_option maxRecDepth 100000 in
theorem infoHold : (Tryz.prog.info? 104).map (fun i => (i.zero.map (·.cells), i.size, i.bytes)) = some (some #[.string ⟨#[]⟩, .int .i64 0, .int .i64 0], 3, 32) := by kernel_rfl
set_option maxRecDepth 100000 in
set_option maxHeartbeats 1600000 in
theorem toHolds_any (hi : Nat) (v : Value) (l : List HoldD) (w : World) (hn : l.length ≤ 1048576) (h : HoldsR.rd hi w [v] l) (hhi : hi ≤ w.heap.size) :
    Calls Tryz.prog 38 #[v] w fun e w' => ∃ u, e = .returned u ∧ HoldsR.mine w.heap.size w'.heap.size w' [u] l ∧ Below w.heap.size w w' := by
  obtain ⟨A, c, rfl, hc, h⟩ := holds_rd h
  have HR := Lib.hid h
  clear h
  have hmk := make_run (P := Tryz.prog) 46 104 #[.string ⟨#[]⟩, .int .i64 0, .int .i64 0] 3 32 Tryz.underlying46 infoHold l.length (by omega) (by omega)
  go_enter Tryz.func38, Tryz.ntmps38
  go_wp2
  go_loopw [4] (fun iv wr => ∃ i : Nat, i ≤ l.length ∧ iv = .int .i64 i ∧ Hid (filled wr w.heap.size 0 3 l.length i fun j => hCells (l.getD j (⟨#[]⟩, 0, 0))) ∧ w.heap.size < wr.heap.size ∧ Hid (Below w.heap.size w wr)) (fun iv _ => l.length - (intOf iv).toNat)
  case atStart => exact ⟨0, Nat.zero_le _, rfl, Lib.hid (filled.start (room_made w _ _ _)), by simp, Lib.hid ((Below.refl _ _).alloc (Nat.le_refl _) _)⟩
  case round =>
    obtain ⟨i, hi, rfl, HF, hz, HB⟩ := hrel
    by_cases hin : i < l.length
    · obtain ⟨x, hx⟩ : ∃ x, l[i]? = some x := ⟨_, List.getElem?_eq_getElem hin⟩
      obtain ⟨b, off, rfl, hbl, c0, c1, c2⟩ := HR.out i x hx
      have HX := Lib.hid hx
      clear hx
      have c0 := (HB.out.cell (p := ⟨b, off + i * 3, none⟩) (show b < w.heap.size by omega)).trans c0
      have c1 := (HB.out.cell (p := ⟨b, off + i * 3 + 1, none⟩) (show b < w.heap.size by omega)).trans c1
      have c2 := (HB.out.cell (p := ⟨b, off + i * 3 + 2, none⟩) (show b < w.heap.size by omega)).trans c2
      have g1 : (i : Int) < (l.length : Int) := by omega
      have g2 : 0 ≤ (i : Int) := by omega
      go_wp2_with fail
      refine (toHold_any x _).mono ?_
      rintro e w2 ⟨rfl, hb2⟩
      have HF2 : Hid (filled w2 w.heap.size 0 3 l.length i fun j => hCells (l.getD j (⟨#[]⟩, 0, 0))) := Lib.hid (HF.out.keep (hb2.block _ hz))
      obtain ⟨⟨u0, d0⟩, f0⟩ := HF2.out.cells hin 0 (by omega)
      obtain ⟨⟨u1, d1⟩, f1⟩ := HF2.out.cells hin 1 (by omega)
      obtain ⟨⟨u2, d2⟩, f2⟩ := HF2.out.cells hin 2 (by omega)
      simp only [Nat.zero_add, Nat.add_zero] at d0 f0 d1 f1 d2 f2
      have hz2 := hb2.size
      have HB2 : Hid (Below w.heap.size w w2) := Lib.hid (HB.out.trans (hb2.mono (by omega)))
      clear hb2
      go_wp2
      go_roundw
      case rel =>
        have hnx := HF2.out.next hin (fun j _ => rfl)
        rw [getD_of HX.out, Nat.zero_add] at hnx
        exact ⟨i + 1, by omega, by go_num, Lib.hid hnx, by simp; omega, Lib.hid (setsAt_below (hCells x) w2 w.heap.size (i * 3) HB2.out (Nat.le_refl _))⟩
      case measure => simp [intOf] <;> omega
    · obtain rfl : i = l.length := by omega
      go_wp2
      go_ret
      exact ⟨_, rfl, holds_mine rfl (Nat.le_refl _) (Nat.le_refl _) hz HF.out, HB.out⟩

set_option maxRecDepth 100000 in
theorem eqHold_any (x : HoldD) (w : World) :
    Calls Tryz.prog 84 #[.agg #[.string x.1, .int .i64 x.2.1, .int .i64 x.2.2], .agg #[.string x.1, .int .i64 x.2.1, .int .i64 x.2.2]] w fun e w' => e = .returned (.bool true) ∧ Below w.heap.size w w' := by
  go_enter Tryz.func84, Tryz.ntmps84
  go_wp2
  go_ret
  exact ⟨rfl, ((Below.refl _ _).alloc (Nat.le_refl _) _).alloc (by simp) _⟩
set_option maxRecDepth 100000 in
set_option maxHeartbeats 1600000 in
theorem eqHolds_any (hi1 hi2 : Nat) (va vb : Value) (l : List HoldD) (w : World) (hn : l.length ≤ 4611686018427387904) (h1 : HoldsR.rd hi1 w [va] l) (h2 : HoldsR.rd hi2 w [vb] l) (hh1 : hi1 ≤ w.heap.size) (hh2 : hi2 ≤ w.heap.size) :
    Calls Tryz.prog 44 #[va, vb] w fun e w' => e = .returned (.bool true) ∧ Below w.heap.size w w' := by
  obtain ⟨A1, c1, rfl, -, h1⟩ := holds_rd h1
  obtain ⟨A2, c2, rfl, -, h2⟩ := holds_rd h2
  have H1 := Lib.hid h1
  have H2 := Lib.hid h2
  clear h1 h2
  go_enter Tryz.func44, Tryz.ntmps44
  go_wp2
  go_loopw [5] (fun iv wr => ∃ k : Nat, k ≤ l.length ∧ iv = .int .i64 k ∧ Hid (Below w.heap.size w wr) ∧ w.heap.size ≤ wr.heap.size) (fun iv _ => l.length - (intOf iv).toNat)
  case atStart => exact ⟨0, Nat.zero_le _, rfl, Lib.hid (Below.refl _ _), Nat.le_refl _⟩
  case round =>
    obtain ⟨k, hk, rfl, HB, hz⟩ := hrel
    by_cases hlt : k < l.length
    · obtain ⟨x, hx⟩ : ∃ x, l[k]? = some x := ⟨_, List.getElem?_eq_getElem hlt⟩
      obtain ⟨b1, o1, rfl, hb1, x1, y1, v1⟩ := H1.out k x hx
      obtain ⟨b2, o2, rfl, hb2, x2, y2, v2⟩ := H2.out k x hx
      have x1 := (HB.out.cell (p := ⟨b1, _, none⟩) (show b1 < w.heap.size by omega)).trans x1
      have y1 := (HB.out.cell (p := ⟨b1, _, none⟩) (show b1 < w.heap.size by omega)).trans y1
      have v1 := (HB.out.cell (p := ⟨b1, _, none⟩) (show b1 < w.heap.size by omega)).trans v1
      have x2 := (HB.out.cell (p := ⟨b2, _, none⟩) (show b2 < w.heap.size by omega)).trans x2
      have y2 := (HB.out.cell (p := ⟨b2, _, none⟩) (show b2 < w.heap.size by omega)).trans y2
      have v2 := (HB.out.cell (p := ⟨b2, _, none⟩) (show b2 < w.heap.size by omega)).trans v2
      have g1 : (k : Int) < (l.length : Int) := by omega
      have g2 : 0 ≤ (k : Int) := by omega
      clear hx
      go_wp2
      go_region_held3 (fun w' => w'.cell? ⟨b1, o1 + k * 3, none⟩ = some (.string x.1) ∧ w'.cell? ⟨b1, o1 + k * 3 + 1, none⟩ = some (.int .i64 x.2.1) ∧ w'.cell? ⟨b1, o1 + k * 3 + 2, none⟩ = some (.int .i64 x.2.2) ∧ w'.cell? ⟨b2, o2 + k * 3, none⟩ = some (.string x.1) ∧ w'.cell? ⟨b2, o2 + k * 3 + 1, none⟩ = some (.int .i64 x.2.1) ∧ w'.cell? ⟨b2, o2 + k * 3 + 2, none⟩ = some (.int .i64 x.2.2)) (go_keep) ((go_at_call 84; refine (eqHold_any x _).mono ?_; rintro e w2 ⟨rfl, hb⟩; have q1 := (hb.cell (p := ⟨b1, o1 + k * 3, none⟩) (show b1 < wr.heap.size by omega)).trans x1; have q2 := (hb.cell (p := ⟨b1, o1 + k * 3 + 1, none⟩) (show b1 < wr.heap.size by omega)).trans y1; have q3 := (hb.cell (p := ⟨b1, o1 + k * 3 + 2, none⟩) (show b1 < wr.heap.size by omega)).trans v1; have q4 := (hb.cell (p := ⟨b2, o2 + k * 3, none⟩) (show b2 < wr.heap.size by omega)).trans x2; have q5 := (hb.cell (p := ⟨b2, o2 + k * 3 + 1, none⟩) (show b2 < wr.heap.size by omega)).trans y2; have q6 := (hb.cell (p := ⟨b2, o2 + k * 3 + 2, none⟩) (show b2 < wr.heap.size by omega)).trans v2))
      have hz2 := hb.size
      have HB2 : Hid (Below w.heap.size w w2) := Lib.hid ((HB.out.trans (below_drew _ _)).trans (hb.mono hz))
      clear hb
      go_wp2
      go_roundw
      case rel => exact ⟨k + 1, by omega, by go_num, HB2, by have : wr.heap.size ≤ w2.heap.size := hz2; omega⟩
      case measure => simp [intOf] <;> omega
    · go_wp2
      go_ret
      exact ⟨rfl, HB.out⟩

set_option maxRecDepth 100000 in
theorem szHold_any (x : HoldD) (left : Int) (w : World) (hs : x.1.size ≤ maxLen) (h0 : 0 ≤ left) (h1 : left ≤ 1048576) :
    Calls Tryz.prog 71 #[.agg #[.string x.1, .int .i64 x.2.1, .int .i64 x.2.2], .int .i64 left] w (szRes left x.1.size w) := by
  unfold maxLen at hs
  by_cases hlt : left - (x.1.size : Int) < 0
  · go_enter Tryz.func71, Tryz.ntmps71
    go_wp2
    go_ret
    exact ⟨_, rfl, .inl rfl, (Below.refl _ _).alloc (Nat.le_refl _) _⟩
  · go_enter Tryz.func71, Tryz.ntmps71
    go_wp2
    go_ret
    exact ⟨_, rfl, .inr ⟨rfl, by omega⟩, (Below.refl _ _).alloc (Nat.le_refl _) _⟩
def holdsSz (l : List HoldD) : Nat := l.length + (l.map fun x => x.1.size).sum
set_option maxRecDepth 100000 in
set_option maxHeartbeats 1600000 in
theorem szHolds_any (hi : Nat) (v : Value) (l : List HoldD) (left : Int) (w : World) (hn : l.length ≤ maxLen) (hs : ∀ x ∈ l, x.1.size ≤ maxLen) (h : HoldsR.rd hi w [v] l) (hh : hi ≤ w.heap.size) (h0 : 0 ≤ left) (h1 : left ≤ 1048576) :
    Calls Tryz.prog 32 #[v, .int .i64 left] w (szRes left (holdsSz l) w) := by
  obtain ⟨A, c, rfl, hc, h⟩ := holds_rd h
  have HR := Lib.hid h
  have HS := Lib.hid hs
  clear h hs
  unfold maxLen at hn
  by_cases hbig : left - (l.length : Int) < 0
  · go_enter Tryz.func32, Tryz.ntmps32
    go_wp2
    go_ret
    exact ⟨_, rfl, .inl rfl, Below.refl _ _⟩
  have hge : 0 ≤ left - (l.length : Int) := by omega
  go_enter Tryz.func32, Tryz.ntmps32
  go_wp2
  go_loopw [1, 5] (fun nv iv wr => ∃ (i : Nat) (r : Int), i ≤ l.length ∧ iv = .int .i64 i ∧ nv = .int .i64 r ∧ 0 ≤ r ∧ r ≤ 1048576 ∧ Hid (r = left - (l.length : Int) - (sumTo (fun x : HoldD => x.1.size) l i : Nat)) ∧ Hid (Below w.heap.size w wr) ∧ w.heap.size ≤ wr.heap.size) (fun _ iv _ => l.length - (intOf iv).toNat)
  case atStart => exact ⟨0, _, Nat.zero_le _, rfl, rfl, by omega, by omega, Lib.hid (by simp [sumTo]), Lib.hid (Below.refl _ _), Nat.le_refl _⟩
  case round =>
    obtain ⟨i, r, hi, rfl, rfl, hr0, hr1, HV, HB, hz⟩ := hrel
    by_cases hin : i < l.length
    · obtain ⟨x, hx⟩ : ∃ x, l[i]? = some x := ⟨_, List.getElem?_eq_getElem hin⟩
      obtain ⟨b, off, rfl, hbl, c0, c1, c2⟩ := HR.out i x hx
      have hxs := HS.out x (List.mem_of_getElem? hx)
      have HN := Lib.hid (sumTo_next (fun x : HoldD => x.1.size) l i x hx)
      clear hx
      have c0 := (HB.out.cell (p := ⟨b, off + i * 3, none⟩) (show b < w.heap.size by omega)).trans c0
      have c1 := (HB.out.cell (p := ⟨b, off + i * 3 + 1, none⟩) (show b < w.heap.size by omega)).trans c1
      have c2 := (HB.out.cell (p := ⟨b, off + i * 3 + 2, none⟩) (show b < w.heap.size by omega)).trans c2
      have g1 : (i : Int) < (l.length : Int) := by omega
      have g2 : 0 ≤ (i : Int) := by omega
      go_wp2_with fail
      refine (szHold_any x r _ hxs hr0 hr1).mono ?_
      rintro e w2 ⟨r2, rfl, hr2, hb2⟩
      have hz2 := hb2.size
      have HB2 : Hid (Below w.heap.size w w2) := Lib.hid (HB.out.trans (hb2.mono (by omega)))
      clear hb2
      rcases hr2 with rfl | ⟨hr2, hr3⟩
      · go_wp2
        go_ret
        exact ⟨_, rfl, .inl rfl, HB2.out⟩
      · have HR2 := Lib.hid hr2
        have hr4 : r2 ≤ 1048576 := by omega
        clear hr2
        go_wp2
        go_roundw
        case rel => exact ⟨i + 1, r2, by omega, by go_num, rfl, hr3, hr4, Lib.hid (by rw [HN.out, HR2.out, HV.out]; omega), HB2, by omega⟩
        case measure => simp [intOf] <;> omega
    · obtain rfl : i = l.length := by omega
      go_wp2
      go_ret
      exact ⟨r, rfl, .inr ⟨by rw [HV.out, sumTo_all]; unfold holdsSz; omega, hr0⟩, HB.out⟩
def holdMark (k : Int) (j : Nat) : HoldD := (⟨(markOf (k + 3 * (j : Int))).toArray⟩, k + 3 * (j : Int) + 1, k + 3 * (j : Int) + 1 + 1)
def holdsMark (k : Int) (n : Nat) : List HoldD := (List.range n).map (holdMark k)
set_option maxRecDepth 100000 in
theorem holdsMark_len (k : Int) (n : Nat) : (holdsMark k n).length = n := by simp [holdsMark]
set_option maxRecDepth 100000 in
theorem holdsMark_get (k : Int) (n j : Nat) (h : j < n) : (holdsMark k n).getD j (⟨#[]⟩, 0, 0) = holdMark k j := by simp [holdsMark, h]
set_option maxRecDepth 100000 in
theorem holdsMark_at (k : Int) (n j : Nat) (h : j < n) : (holdsMark k n)[j]? = some (holdMark k j) := by simp [holdsMark, h]
set_option maxRecDepth 100000 in
/-- a slice of holds of one's own: empty, or one block that may be written -/
theorem holds_own {lo hi : Nat} {w : World} {v : Value} {l : List HoldD} (h : HoldsR.mine lo hi w [v] l) :
    ∃ A c, v = .slice A l.length c ∧ l.length ≤ c ∧ (l = [] ∨ ∃ b off, A = some ⟨b, off, none⟩ ∧ lo ≤ b ∧ b < hi ∧ roomL w b off (l.length * 3)) := by
  obtain ⟨F, ⟨A, c, hv, hc, h⟩, -, hF⟩ := h
  simp only [List.cons.injEq, and_true] at hv
  refine ⟨A, c, hv, hc, ?_⟩
  rcases h with ⟨rfl, _⟩ | ⟨b, off, Fs, rfl, rfl, hl, h⟩
  · exact .inl rfl
  · have hb := hF b (List.mem_cons_self ..)
    refine .inr ⟨b, off, rfl, hb.1, hb.2, fun t ht => ?_⟩
    have hj : t / 3 < l.length := by omega
    obtain ⟨xs, h1, h2, h3⟩ := h (t / 3) _ _ (List.getElem?_eq_getElem hj) (List.getElem?_eq_getElem (by omega))
    rw [hold_own] at h1
    obtain ⟨rfl, -⟩ := h1
    have hk : HoldR.k = 3 := rfl
    rw [hk] at h2 h3
    have e : off + t = off + t / 3 * 3 + t % 3 := by omega
    rw [e]
    refine ⟨?_, h3 (t % 3) (by omega)⟩
    have hm : t % 3 = 0 ∨ t % 3 = 1 ∨ t % 3 = 2 := by omega
    rcases hm with m | m | m
    · rw [m]; exact ⟨_, h2 0 _ rfl⟩
    · rw [m]; exact ⟨_, h2 1 _ rfl⟩
    · rw [m]; exact ⟨_, h2 2 _ rfl⟩
set_option maxRecDepth 100000 in
theorem markH_size (k : Int) (h : k ≤ 1000000000) : (markOf k).length ≤ 21 := by
  have := mark_len k h
  unfold markOf
  simp; omega
end Go.Proofs.YthnimmagaocipaaGreatDoor
set_option linter.unusedVariables false
namespace Go.Proofs.YthnimmagaocipaaGreatDoor
open Go.ChangeShapes Go.WideShapes Go.ChangeAt Go.RowKit Go.WideElems

end Go.Proofs.YthnimmagaocipaaGreatDoor
set_option linter.unusedVariables false
namespace Go.Proofs.YthnimmagaocipaaGreatDoor
open Go.ChangeShapes Go.WideShapes Go.ChangeAt Go.RowKit Go.Deep

set_option maxRecDepth 100000 in
theorem opens_hold {H : Type} {enc : TypeId × Value → H} {W : World} : Opens enc Tryz.prog W HoldR 97 (fun x => x.1.size ≤ maxLen ∧ (Lit.int .i64 x.2.1).wf = true ∧ (Lit.int .i64 x.2.2).wf = true) :=
  opens_struct Tryz.underlying97 (by kernel_rfl) (opensF_cons (opens_str Tryz.underlying9) rfl (by kernel_rfl) (opensF_cons (opens_int Tryz.underlying3) rfl (by kernel_rfl) (opensF_one (opens_int Tryz.underlying3) rfl (by kernel_rfl))))
end Go.Proofs.YthnimmagaocipaaGreatDoor
set_option linter.unusedVariables false
namespace Go.Proofs.YthnimmagaocipaaGreatDoor
open Go.ChangeShapes Go.WideShapes Go.ChangeAt Go.RowKit

/-- the blocks of the elements lie one after the other -/
structure Steps (m : Nat → Nat) (n : Nat) : Prop where
  up : ∀ j, j < n → m j ≤ m (j + 1)
set_option maxRecDepth 100000 in
theorem Steps.le {m : Nat → Nat} {n : Nat} (h : Steps m n) {j : Nat} : ∀ {k : Nat}, j ≤ k → k ≤ n → m j ≤ m k
  | 0, hj, _ => by obtain rfl : j = 0 := by omega
                   exact Nat.le_refl _
  | k + 1, hj, hk => by
    rcases Nat.lt_or_ge j (k + 1) with h1 | h1
    · exact Nat.le_trans (h.le (j := j) (k := k) (by omega) (by omega)) (h.up k (by omega))
    · obtain rfl : j = k + 1 := by omega
      exact Nat.le_refl _
set_option maxRecDepth 100000 in
theorem filled.congr {w : World} {b off k n i : Nat} {E E' : Nat → List Value} (h : filled w b off k n i E) (he : ∀ j, j < i → E' j = E j) : filled w b off k n i E' :=
  ⟨h.room, fun j hj => by rw [he j hj]; exact h.at_ j hj⟩
set_option maxRecDepth 100000 in
theorem rows_mine2 {α : Type} {R : Rep α} {lo hi b off c n : Nat} {w : World} {l : List α} {E : Nat → List Value} {p q : Nat → Nat} (hn : n = l.length) (hc : n ≤ c) (h1 : lo ≤ b) (h2 : b < hi) (hord : ∀ i j, i < j → j < n → q i ≤ p j) (hb : ∀ j, j < n → b < p j ∨ q j ≤ b) (hbs : ∀ j, j < n → lo ≤ p j ∧ q j ≤ hi)
    (hat : filled w b off R.k n n E) (h : ∀ j x, l[j]? = some x → R.mine (p j) (q j) w (E j) x) : R.slice.mine lo hi w [.slice (some ⟨b, off, none⟩) n c] l := by
  subst hn
  have hF : ∀ j : Nat, ∃ F : List Nat, ∀ x, l[j]? = some x → R.own w (E j) x F ∧ F.Nodup ∧ ∀ b ∈ F, p j ≤ b ∧ b < q j := fun j => by
    cases hx : l[j]? with
    | none => exact ⟨[], fun x h => by cases h⟩
    | some y =>
      obtain ⟨F, hF⟩ := h j y hx
      exact ⟨F, fun x h => by cases h; exact hF⟩
  let F : Nat → List Nat := fun j => Classical.choose (hF j)
  have hFs : ∀ j x, l[j]? = some x → R.own w (E j) x (F j) ∧ (F j).Nodup ∧ ∀ b ∈ F j, p j ≤ b ∧ b < q j := fun j => Classical.choose_spec (hF j)
  have hgt : ∀ (j : Nat) (hj : j < l.length), R.own w (E j) (l[j]'hj) (F j) ∧ (F j).Nodup ∧ ∀ b ∈ F j, p j ≤ b ∧ b < q j := fun j hj => hFs j _ (List.getElem?_eq_getElem hj)
  have hin : ∀ x ∈ List.flatten ((List.range l.length).map F), ∃ j, j < l.length ∧ p j ≤ x ∧ x < q j := fun x hx => by
    obtain ⟨G, hG, hxG⟩ := List.mem_flatten.1 hx
    obtain ⟨j, hj, rfl⟩ := List.mem_map.1 hG
    have hj' := List.mem_range.1 hj
    exact ⟨j, hj', (hgt j hj').2.2 x hxG⟩
  refine ⟨b :: List.flatten ((List.range l.length).map F), ⟨some ⟨b, off, none⟩, c, rfl, hc, .inr ⟨b, off, _, rfl, rfl, by simp, fun j x G hx hG => ?_⟩⟩, ?_, ?_⟩
  · have hj := (List.getElem?_eq_some_iff.1 hx).1
    have hG' : G = F j := by
      rw [List.getElem?_map, List.getElem?_range hj] at hG
      exact (Option.some.inj hG).symm
    subst hG'
    exact ⟨E j, (hFs j x hx).1, hat.at_ j hj, fun t ht => (hat.cells hj t ht).2⟩
  · rw [List.nodup_cons]
    refine ⟨fun hx => by obtain ⟨j, hj, h3⟩ := hin b hx; have := hb j hj; omega, ?_⟩
    rw [List.Nodup, List.pairwise_flatten]
    refine ⟨fun G hG => ?_, ?_⟩
    · obtain ⟨j, hj, rfl⟩ := List.mem_map.1 hG
      exact (hgt j (List.mem_range.1 hj)).2.1
    · rw [List.pairwise_map]
      refine List.Pairwise.imp_of_mem ?_ List.pairwise_lt_range
      intro i j hi' hj' hij x hx y hy
      have h3 := (hgt i (List.mem_range.1 hi')).2.2 x hx
      have h4 := (hgt j (List.mem_range.1 hj')).2.2 y hy
      have h5 := hord i j hij (List.mem_range.1 hj')
      omega
  · intro b' hb'
    rcases List.mem_cons.1 hb' with rfl | hb'
    · exact ⟨h1, h2⟩
    · obtain ⟨j, hj, h3⟩ := hin b' hb'
      have := hbs j hj; omega
set_option maxRecDepth 100000 in
theorem rows_mine {α : Type} {R : Rep α} {lo hi b off c n : Nat} {w : World} {l : List α} {E : Nat → List Value} {m : Nat → Nat} (hn : n = l.length) (hc : n ≤ c) (h1 : lo ≤ b) (h2 : b < m 0) (hm : Steps m n) (hhi : m n ≤ hi)
    (hat : filled w b off R.k n n E) (h : ∀ j x, l[j]? = some x → R.mine (m j) (m (j + 1)) w (E j) x) : R.slice.mine lo hi w [.slice (some ⟨b, off, none⟩) n c] l := by
  refine rows_mine2 (p := m) (q := fun j => m (j + 1)) hn hc h1 ?_ (fun i j hij hj => hm.le (show i + 1 ≤ j by omega) (by omega)) (fun j hj => .inl ?_) (fun j hj => ⟨?_, ?_⟩) hat h
  · have := hm.le (Nat.zero_le n) (Nat.le_refl _); omega
  · have := hm.le (Nat.zero_le j) (by omega); omega
  · have := hm.le (Nat.zero_le j) (by omega); omega
  · have := hm.le (show j + 1 ≤ n by omega) (Nat.le_refl _); omega
end Go.Proofs.YthnimmagaocipaaGreatDoor
set_option linter.unusedVariables false
namespace Go.Proofs.YthnimmagaocipaaGreatDoor
open Go.ChangeShapes Go.WideShapes Go.ChangeAt Go.RowKit

set_option maxRecDepth 100000 in
theorem infoU8 : (Tryz.prog.info? 5).map (fun i => (i.zero, i.size, i.bytes)) = some (some (.int .u8 0), 1, 1) := by kernel_rfl
set_option maxRecDepth 100000 in
set_option maxHeartbeats 800000 in
theorem eqBytes_any (hi1 hi2 : Nat) (va vb : Value) (l : List Int) (w : World) (hn : l.length ≤ 4611686018427387904) (h1 : rd .u8 hi1 w va l) (h2 : rd .u8 hi2 w vb l) :
    Calls Tryz.prog 112 #[va, vb] w fun e w' => e = .returned (.bool true) ∧ Below w.heap.size w w' := by
  obtain ⟨A1, c1, rfl, -, h1⟩ := h1
  obtain ⟨A2, c2, rfl, -, h2⟩ := h2
  have H1 := Lib.hid h1
  have H2 := Lib.hid h2
  clear h1 h2
  go_enter Tryz.func112, Tryz.ntmps112
  go_wp2
  go_loopw [5] (fun iv wr => ∃ (k : Nat) (q : Nat), k ≤ l.length ∧ iv = .int .i64 k ∧ wr = w.drewN q) (fun iv _ => l.length - (intOf iv).toNat)
  case atStart => exact ⟨0, 0, Nat.zero_le _, rfl, rfl⟩
  case round =>
    obtain ⟨k, q, hk, rfl, rfl⟩ := hrel
    by_cases hlt : k < l.length
    · obtain ⟨b1, o1, rfl, -, x1⟩ := H1.out k hlt
      obtain ⟨b2, o2, rfl, -, x2⟩ := H2.out k hlt
      generalize l.getD k 0 = x at x1 x2
      have g1 : (k : Int) < (l.length : Int) := by omega
      have g2 : 0 ≤ (k : Int) := by omega
      go_wp2
      go_quiet (fail)
      go_wp2
      go_roundw
      case rel => exact ⟨k + 1, _, by omega, by go_num, rfl⟩
      case measure => simp [intOf] <;> omega
    · go_wp2
      go_ret
      exact ⟨rfl, below_drewN (Below.refl _ _) _⟩

set_option maxRecDepth 100000 in
set_option maxHeartbeats 800000 in
theorem markBytes_any (lo hi : Nat) (v : Value) (l : List Int) (k : Int) (w : World) (hn : l.length ≤ 4611686018427387904) (hk0 : 0 ≤ k) (hk1 : k ≤ 4000000000000000000) (hm : nums .u8 lo hi w v l) :
    Calls Tryz.prog 87 #[v, .int .i64 k] w fun e w' => e = .returned (.int .i64 (k + l.length)) ∧ nums .u8 lo hi w' v (marksL (· % 256) k l.length) ∧ w.grownBy w' (blk v) := by
  obtain ⟨A, c, rfl, hc, hm⟩ := hm
  have hm := mkd.start (k := k) (f := (· % 256)) hm
  generalize l.length = n at hn hm hc ⊢
  have HM := Lib.hid hm
  have hkn : k + (n : Int) ≤ 8611686018427387904 := by omega
  clear hm
  go_enter Tryz.func87, Tryz.ntmps87
  go_wp2
  go_loopw [1, 5] (fun kv iv wr => ∃ i : Nat, i ≤ n ∧ iv = .int .i64 i ∧ kv = .int .i64 (k + i) ∧ mkd .u8 (· % 256) lo hi wr A k i n ∧ w.grownBy wr (blk (.slice A n c))) (fun _ iv _ => n - (intOf iv).toNat)
  case atStart => exact ⟨0, Nat.zero_le _, rfl, val_int (by simp), HM.out, grown_refl _ _⟩
  case round =>
    obtain ⟨i, hi, rfl, rfl, hm, hw⟩ := hrel
    have HM := Lib.hid hm
    have HW := Lib.hid hw
    clear hm hw
    by_cases hin : i < n
    · obtain ⟨b, off, rfl, h1, h2, hf, ⟨u, hu⟩, -⟩ := HM.out i hin
      have g1 : (i : Int) < (n : Int) := by omega
      have g2 : 0 ≤ (i : Int) := by omega
      have hb : blk (.slice (some ⟨b, off, none⟩) n c) = some b := by cases n with | zero => omega | succ n => rfl
      have HB := Lib.hid hb
      clear hb
      go_wp2
      go_roundw
      case rel => exact ⟨i + 1, by omega, by go_num, val_int (by omega), HM.out.set hin rfl, by have := HW.out; rw [HB.out] at this ⊢; exact grown_set this _ _⟩
      case measure => simp [intOf] <;> omega
    · obtain rfl : i = n := by omega
      go_wp2
      go_ret
      exact ⟨rfl, HM.out.done hc, HW.out⟩

set_option maxRecDepth 100000 in
set_option maxHeartbeats 800000 in
theorem heldBytes_any (hi : Nat) (v : Value) (n : Nat) (k : Int) (w : World) (hn : n ≤ 4611686018427387904) (hk0 : 0 ≤ k) (hk1 : k ≤ 4000000000000000000) (hm : rd .u8 hi w v (marksL (· % 256) k n)) :
    Calls Tryz.prog 106 #[v, .int .i64 k] w fun e w' => e = .returned (.int .i64 (k + n)) ∧ Below w.heap.size w w' := by
  obtain ⟨A, c, rfl, hc, hm⟩ := hm
  rw [marks_length] at hm hc ⊢
  have HM := Lib.hid hm
  clear hm
  have hkn : k + (n : Int) ≤ 8611686018427387904 := by omega
  go_enter Tryz.func106, Tryz.ntmps106
  go_wp2
  go_loopw [1, 5] (fun kv iv wr => ∃ i q : Nat, i ≤ n ∧ iv = .int .i64 i ∧ kv = .int .i64 (k + i) ∧ wr = w.drewN q) (fun _ iv _ => n - (intOf iv).toNat)
  case atStart => exact ⟨0, 0, Nat.zero_le _, rfl, val_int (by simp), rfl⟩
  case round =>
    obtain ⟨i, q, hi, rfl, rfl, rfl⟩ := hrel
    by_cases hin : i < n
    · obtain ⟨b, off, rfl, -, hc'⟩ := HM.out i hin
      rw [marks_getD _ k n i hin] at hc'
      have g1 : (i : Int) < (n : Int) := by omega
      have g2 : 0 ≤ (i : Int) := by omega
      go_wp2
      go_roundw
      case rel => exact ⟨i + 1, _, by omega, by go_num, val_int (by omega), rfl⟩
      case measure => simp [intOf] <;> omega
    · obtain rfl : i = n := by omega
      go_wp2
      go_ret
      exact ⟨rfl, below_drewN (Below.refl _ _) _⟩

set_option maxRecDepth 100000 in
set_option maxHeartbeats 800000 in
theorem toBytes_any (hi : Nat) (v : Value) (l : List Int) (w : World) (hn : l.length ≤ 1048576) (h : rd .u8 hi w v l) (hhi : hi ≤ w.heap.size) :
    Calls Tryz.prog 108 #[v] w fun e w' => ∃ u, e = .returned u ∧ nums .u8 w.heap.size w'.heap.size w' u l ∧ Below w.heap.size w w' := by
  obtain ⟨A, c, rfl, hc, h⟩ := h
  have HR := Lib.hid h
  clear h
  have hmk := run_make_row' (P := Tryz.prog) 99 5 (.int .u8 0) 1 Tryz.underlying99 infoU8 rfl .i64 .i64 l.length (by omega) (by omega)
  go_enter Tryz.func108, Tryz.ntmps108
  go_wp2
  go_loopw [4] (fun iv wr => ∃ i : Nat, i ≤ l.length ∧ iv = .int .i64 i ∧ part .u8 w.heap.size 5 l.length wr l i ∧ Below w.heap.size w wr) (fun iv _ => l.length - (intOf iv).toNat)
  case atStart => exact ⟨0, Nat.zero_le _, rfl, part.start (World.rowIs_made w (.int .u8 0) l.length 5), (Below.refl _ _).alloc (Nat.le_refl _) _⟩
  case round =>
    obtain ⟨i, hi, rfl, hp, hb⟩ := hrel
    have HP := Lib.hid hp
    by_cases hin : i < l.length
    · obtain ⟨b, off, rfl, hbl, hcell⟩ := HR.out i hin
      have hcell := (hb.cell (p := ⟨b, off + i, none⟩) (show b < w.heap.size by omega)).trans hcell
      have hdst := World.rowIs.cell hp hin
      rw [if_neg (by omega)] at hdst
      have hfr := World.rowIs.frozen hp i
      clear hp
      have g1 : (i : Int) < (l.length : Int) := by omega
      have g2 : 0 ≤ (i : Int) := by omega
      go_wp2
      go_roundw
      case rel => exact ⟨i + 1, by omega, by go_num, HP.out.set (by rw [List.getD_eq_getElem?_getD, List.getElem?_eq_getElem hin]; rfl), hb.setCell (by simp) _⟩
      case measure => simp [intOf] <;> omega
    · obtain rfl : i = l.length := by omega
      clear hp
      go_wp2
      go_ret
      exact ⟨_, rfl, HP.out.done (Nat.le_refl _), hb⟩
end Go.Proofs.YthnimmagaocipaaGreatDoor
set_option linter.unusedVariables false
namespace Go.Proofs.YthnimmagaocipaaGreatDoor
open Go.ChangeShapes Go.WideShapes Go.ChangeAt Go.RowKit

set_option maxRecDepth 100000 in
theorem nums.turned {K : IntKind} {lo hi lo' hi' : Nat} {w w' : World} {v : Value} {l : List Int} (h : nums K lo hi w v l) (ht : Turned lo' hi' w w') (h1 : hi ≤ lo' ∨ hi' ≤ lo) (h2 : hi ≤ w.heap.size) : nums K lo hi w' v l := by
  obtain ⟨A, c, rfl, hc, hj⟩ := h
  refine ⟨A, c, rfl, hc, fun j hl => ?_⟩
  obtain ⟨b, off, e, g1, g2, g3, g4⟩ := hj j hl
  have hk := ht.block b (by omega) (by omega)
  exact ⟨b, off, e, g1, g2, (cell_keep hk).trans g3, (frozen_keep hk).trans g4⟩
set_option maxRecDepth 100000 in
theorem rd.turned {K : IntKind} {hi lo' hi' : Nat} {w w' : World} {v : Value} {l : List Int} (h : rd K hi w v l) (ht : Turned lo' hi' w w') (h1 : hi ≤ lo') (h2 : hi ≤ w.heap.size) : rd K hi w' v l := by
  obtain ⟨A, c, rfl, hc, hj⟩ := h
  refine ⟨A, c, rfl, hc, fun j hl => ?_⟩
  obtain ⟨b, off, e, g2, g3⟩ := hj j hl
  have hk := ht.block b (by omega) (by omega)
  exact ⟨b, off, e, g2, (cell_keep hk).trans g3⟩
end Go.Proofs.YthnimmagaocipaaGreatDoor
set_option linter.unusedVariables false
namespace Go.Proofs.YthnimmagaocipaaGreatDoor
open Go.ChangeShapes Go.WideShapes Go.ChangeAt Go.RowKit

/-- block g holds these cells, all of them free to be written -/
def bk (w : World) (g : Nat) (t : TypeId) (cs : List Value) : Prop := w.heap[g]? = some (.cells cs.toArray t (0, 0))
set_option maxRecDepth 100000 in
theorem bk.lt {w : World} {g : Nat} {t : TypeId} {cs : List Value} (h : bk w g t cs) : g < w.heap.size := (Array.getElem?_eq_some_iff.1 h).1
set_option maxRecDepth 100000 in
theorem bk.cell {w : World} {g : Nat} {t : TypeId} {cs : List Value} (h : bk w g t cs) (i : Nat) : w.cell? ⟨g, i, none⟩ = cs[i]? := by
  rw [cell_of_row w g i cs.toArray t (0, 0) h]; simp
set_option maxRecDepth 100000 in
theorem bk.frozen {w : World} {g : Nat} {t : TypeId} {cs : List Value} (h : bk w g t cs) (i : Nat) : w.frozen? ⟨g, i, none⟩ = false := by
  unfold bk at h; simp [World.frozen?, h]
set_option maxRecDepth 100000 in
theorem bk.below {w w' : World} {g B : Nat} {t : TypeId} {cs : List Value} (h : bk w g t cs) (hb : Below B w w') (hg : g < B) : bk w' g t cs := (hb.block g hg).trans h
set_option maxRecDepth 100000 in
theorem bk.alloc {w : World} {g : Nat} {t : TypeId} {cs : List Value} (h : bk w g t cs) (o : Obj) : bk (w.alloc o) g t cs := (Below.heap_alloc w o g h.lt).trans h
set_option maxRecDepth 100000 in
theorem bk.new (w : World) (t : TypeId) (cs : List Value) : bk (w.alloc (.cells cs.toArray t)) w.heap.size t cs := heap_alloc_new w _
set_option maxRecDepth 100000 in
theorem bk.far {w : World} {g : Nat} {t : TypeId} {cs : List Value} (h : bk w g t cs) {p : Addr} (hp : g ≠ p.block) (u : Value) : bk (w.setCell p u) g t cs := (Below.heap_setCell w p u g hp).trans h
set_option maxRecDepth 100000 in
theorem bk.set {w : World} {g : Nat} {t : TypeId} {cs : List Value} (h : bk w g t cs) (i : Nat) (u : Value) : bk (w.setCell ⟨g, i, none⟩ u) g t (cs.set i u) := by
  unfold bk at h ⊢
  simp [World.setCell, Array.getElem?_modify, h]
set_option maxRecDepth 100000 in
theorem bk.drew {w : World} {g : Nat} {t : TypeId} {cs : List Value} (h : bk w g t cs) : bk w.drew g t cs := h
set_option maxRecDepth 100000 in
theorem bk.drewN {w : World} {g : Nat} {t : TypeId} {cs : List Value} (h : bk w g t cs) (n : Nat) : bk (w.drewN n) g t cs := h
set_option maxRecDepth 100000 in
theorem bk.grown {w w' : World} {g : Nat} {t : TypeId} {cs : List Value} {row : Option Nat} (h : bk w g t cs) (hg : w.grownBy w' row) (hr : row ≠ some g) : bk w' g t cs := (hg.block g h.lt (fun e => hr e.symm)).trans h
end Go.Proofs.YthnimmagaocipaaGreatDoor
set_option linter.unusedVariables false
namespace Go.Proofs.YthnimmagaocipaaGreatDoor
open Go.ChangeShapes Go.WideShapes Go.ChangeAt Go.RowKit

/-- trace, type, reply -/
abbrev SlotD := ByteArray × ByteArray × List Int
def BytesR : Rep (List Int) := (Rep.int .u8).slice
def SlotR : Rep SlotD := Rep.pair Rep.str (Rep.pair Rep.str BytesR)
def SlotsR : Rep (List SlotD) := SlotR.slice
set_option maxRecDepth 100000 in
/-- numbers of one's own as such a row -/
theorem nums_rep {K : IntKind} {lo hi : Nat} {w : World} {v : Value} {l : List Int} (h : nums K lo hi w v l) : (Rep.int K).slice.mine lo hi w [v] l := by
  obtain ⟨A, c, rfl, hc, hj⟩ := h
  cases l with
  | nil => exact ⟨[], ⟨A, c, rfl, hc, .inl ⟨rfl, rfl⟩⟩, List.nodup_nil, by simp⟩
  | cons y l =>
    obtain ⟨b, off, rfl, h1, h2, -, -⟩ := hj 0 (by simp)
    have hfl : List.flatten ((y :: l).map fun _ => ([] : List Nat)) = [] := by simp
    refine ⟨b :: List.flatten ((y :: l).map fun _ => []), ⟨_, c, rfl, hc, .inr ⟨b, off, _, rfl, rfl, by simp, fun j x G hx hG => ?_⟩⟩, by rw [hfl]; simp, ?_⟩
    · have hjl := (List.getElem?_eq_some_iff.1 hx).1
      have hG' : G = [] := by rw [List.getElem?_map, hx] at hG; simpa using hG.symm
      subst hG'
      obtain ⟨b', off', e, -, -, h3, h4⟩ := hj j hjl
      simp only [Option.some.injEq, Addr.mk.injEq, and_true] at e
      obtain ⟨rfl, rfl⟩ := e
      rw [List.getD_eq_getElem?_getD, hx] at h3
      have hk : off + j * (Rep.int K).k = off + j := by show off + j * 1 = _; rw [Nat.mul_one]
      refine ⟨[.int K x], ⟨rfl, rfl⟩, atL_one.2 (by rw [hk]; exact h3), fun t ht => ?_⟩
      have ht0 : t = 0 := by have : t < 1 := ht; omega
      subst ht0
      rw [hk]; exact h4
    · rw [hfl]; intro b' hb'; rw [List.mem_singleton.1 hb']; exact ⟨h1, h2⟩
set_option maxRecDepth 100000 in
theorem slot_rd {hi : Nat} {w : World} {cs : List Value} {x : SlotD} (h : SlotR.rd hi w cs x) : ∃ u, cs = [.string x.1, .string x.2.1, u] ∧ rd .u8 hi w u x.2.2 := by
  obtain ⟨a, b, rfl, h1, c, d, rfl, h2, h3⟩ := h
  have h1' : a = [.string x.1] := h1
  have h2' : c = [.string x.2.1] := h2
  subst h1' h2'
  obtain ⟨u, rfl, hu⟩ := Rep.to_rd h3
  exact ⟨u, rfl, hu⟩
set_option maxRecDepth 100000 in
theorem slot_mine_of {lo hi : Nat} {w : World} {u : Value} {x : SlotD} (h : nums .u8 lo hi w u x.2.2) : SlotR.mine lo hi w [.string x.1, .string x.2.1, u] x := by
  obtain ⟨F, h1, h2, h3⟩ := nums_rep h
  exact ⟨F, ⟨[_], [_, u], [], F, rfl, rfl, ⟨rfl, rfl⟩, [_], [u], [], F, rfl, rfl, ⟨rfl, rfl⟩, h1⟩, h2, h3⟩
set_option maxRecDepth 100000 in
/-- a slice of slots: its value and its cells -/
theorem slots_rd {hi : Nat} {w : World} {v : Value} {l : List SlotD} (h : SlotsR.rd hi w [v] l) :
    ∃ A c, v = .slice A l.length c ∧ l.length ≤ c ∧ ∀ j x, l[j]? = some x → ∃ b off A' c', A = some ⟨b, off, none⟩ ∧ b < hi ∧ w.cell? ⟨b, off + j * 3, none⟩ = some (.string x.1) ∧ w.cell? ⟨b, off + j * 3 + 1, none⟩ = some (.string x.2.1) ∧ w.cell? ⟨b, off + j * 3 + 2, none⟩ = some (.slice A' x.2.2.length c') ∧ rd .u8 hi w (.slice A' x.2.2.length c') x.2.2 := by
  obtain ⟨A, c, hv, hc, hj⟩ := h
  simp only [List.cons.injEq, and_true] at hv
  refine ⟨A, c, hv, hc, fun j x hx => ?_⟩
  obtain ⟨b, off, xs, hA, hb, hr, ha⟩ := hj j x hx
  obtain ⟨u, rfl, hu⟩ := slot_rd hr
  obtain ⟨A', c', rfl, -⟩ := hu.form
  exact ⟨b, off, A', c', hA, hb, ha 0 _ rfl, ha 1 _ rfl, ha 2 _ rfl, hu⟩
def slotOne (x : SlotD) (w : World) (e : Ending) (w' : World) : Prop := ∃ u, e = .returned (.agg #[.string x.1, .string x.2.1, u]) ∧ nums .u8 w.heap.size w'.heap.size w' u x.2.2 ∧ Below w.heap.size w w'
set_option maxRecDepth 100000 in
set_option maxHeartbeats 1600000 in
theorem toSlot_any (hi : Nat) (v : Value) (x : SlotD) (w : World) (hn : x.2.2.length ≤ 1048576) (h : rd .u8 hi w v x.2.2) (hhi : hi ≤ w.heap.size) :
    Calls Tryz.prog 78 #[.agg #[.string x.1, .string x.2.1, v]] w (slotOne x w) := by
  obtain ⟨A, c, rfl, -⟩ := h.form
  have H := Lib.hid (fun W (hW : Below w.heap.size w W) => toBytes_any hi _ x.2.2 W hn (h.below hW hhi) (Nat.le_trans hhi hW.size))
  clear h
  go_enter Tryz.func78, Tryz.ntmps78
  go_wp2_with fail
  obtain ⟨W, hW⟩ : ∃ W, W = ((w.alloc (.cells #[.string x.1, .string x.2.1, .slice A x.2.2.length c] 101)).alloc (.cells #[.string ⟨#[]⟩, .string ⟨#[]⟩, .slice none 0 0] 107)).alloc (.cells #[.string x.1, .string x.2.1, .slice none 0 0] 107) := ⟨_, rfl⟩
  have b1 : bk W (w.heap.size + 1) 107 [.string ⟨#[]⟩, .string ⟨#[]⟩, .slice none 0 0] := by rw [hW]; exact (by simpa using bk.new (w.alloc _) _ _ : bk _ (w.heap.size + 1) _ _).alloc _
  have b2 : bk W (w.heap.size + 1 + 1) 107 [.string x.1, .string x.2.1, .slice none 0 0] := by rw [hW]; simpa using bk.new ((w.alloc _).alloc _) _ _
  have HB0 : Hid (Below w.heap.size w W) := Lib.hid (by rw [hW]; exact (((Below.refl _ _).alloc (Nat.le_refl _) _).alloc (by simp) _).alloc (by simp; omega) _)
  have hz0 : W.heap.size = w.heap.size + 3 := by rw [hW]; simp
  rw [← hW]
  clear hW
  refine (H.out W HB0.out).mono ?_
  rintro e w1 ⟨u, rfl, hu, hb1⟩
  obtain ⟨AU, cU, rfl, -⟩ := hu.form
  have z1 := hb1.size
  have HU := Lib.hid hu
  have HB1 : Hid (Below w.heap.size w w1) := Lib.hid (HB0.out.trans (hb1.mono (by omega)))
  replace b1 := b1.below hb1 (by omega)
  replace b2 := b2.below hb1 (by omega)
  clear hb1 HB0 hu
  have q0 := b2.cell 0
  have q1 := b2.cell 1
  have q2 := b2.cell 2
  have f2 := b2.frozen 2
  have r0 := b1.cell 0
  have r1 := b1.cell 1
  have r2 := b1.cell 2
  have g0 := b1.frozen 0
  have g1 := b1.frozen 1
  have g2 := b1.frozen 2
  simp only [List.getElem?_cons_zero, List.getElem?_cons_succ] at q0 q1 q2 r0 r1 r2
  clear b1 b2
  go_wp2
  refine bodyPost_ret (v := .agg #[.string x.1, .string x.2.1, .slice AU x.2.2.length cU]) (by simp [results, Tryz.results78, go_sem, r0, r1, r2]) rfl ?_
  have ht := ((((Turned.refl w.heap.size (w.heap.size + 3) w1).set (b := w.heap.size + 1 + 1) 2 (.slice AU x.2.2.length cU) (by omega) (by omega)).set (b := w.heap.size + 1) 0 (.string x.1) (by omega) (by omega)).set (b := w.heap.size + 1) 1 (.string x.2.1) (by omega) (by omega)).set (b := w.heap.size + 1) 2 (.slice AU x.2.2.length cU) (by omega) (by omega)
  have hsz := ht.size
  exact ⟨_, rfl, (HU.out.turned ht (.inr (by omega)) (by omega)).mono (by omega) (by omega), HB1.out.trans (ht.below (Nat.le_refl _) (by omega))⟩
set_option maxRecDepth 100000 in
set_option maxHeartbeats 1600000 in
theorem eqSlot_any (hi1 hi2 : Nat) (va vb : Value) (x : SlotD) (w : World) (hn : x.2.2.length ≤ 4611686018427387904) (h1 : rd .u8 hi1 w va x.2.2) (h2 : rd .u8 hi2 w vb x.2.2) (hh1 : hi1 ≤ w.heap.size) (hh2 : hi2 ≤ w.heap.size) :
    Calls Tryz.prog 86 #[.agg #[.string x.1, .string x.2.1, va], .agg #[.string x.1, .string x.2.1, vb]] w fun e w' => e = .returned (.bool true) ∧ Below w.heap.size w w' := by
  obtain ⟨A1, c1, rfl, -⟩ := h1.form
  obtain ⟨A2, c2, rfl, -⟩ := h2.form
  have H := Lib.hid (fun W (hW : Below w.heap.size w W) => eqBytes_any hi1 hi2 _ _ x.2.2 W hn (h1.below hW hh1) (h2.below hW hh2))
  clear h1 h2
  have hb0 : Hid (∀ o1 o2, Below w.heap.size w ((w.alloc o1).alloc o2)) := Lib.hid fun o1 o2 => ((Below.refl _ _).alloc (Nat.le_refl _) _).alloc (by simp) _
  go_enter Tryz.func86, Tryz.ntmps86
  go_wp2_with fail
  refine (H.out _ (hb0.out _ _)).mono ?_
  rintro e w1 ⟨rfl, hb⟩
  have hb1 : Below w.heap.size w w1 := (hb0.out _ _).trans (hb.mono (by simp; omega))
  clear hb
  go_wp2
  go_ret
  exact ⟨rfl, hb1⟩
set_option maxRecDepth 100000 in
set_option maxHeartbeats 1600000 in
theorem szSlot_any (v : Value) (x : SlotD) (left : Int) (w : World) {hi : Nat} (h : rd .u8 hi w v x.2.2) (hs1 : x.1.size ≤ maxLen) (hs2 : x.2.1.size ≤ maxLen) (hn : x.2.2.length ≤ maxLen) (h0 : 0 ≤ left) (h1 : left ≤ 1048576) :
    Calls Tryz.prog 73 #[.agg #[.string x.1, .string x.2.1, v], .int .i64 left] w (szRes left (x.1.size + x.2.1.size + x.2.2.length) w) := by
  obtain ⟨A, c, rfl, -⟩ := h.form
  clear h
  unfold maxLen at hs1 hs2 hn
  have HB0 : Hid (Below w.heap.size w (w.alloc (.cells #[.string x.1, .string x.2.1, .slice A x.2.2.length c] 101))) := Lib.hid ((Below.refl _ _).alloc (Nat.le_refl _) _)
  have HI := Lib.hid (fun (l : Int) (W : World) (h0 : 0 ≤ l) (h2 : l ≤ 1048576) => (show Calls Tryz.prog 107 #[.slice A x.2.2.length c, .int .i64 l] W (fun e w' => e = .returned (.int .i64 (if l - (x.2.2.length : Int) < 0 then -1 else l - x.2.2.length)) ∧ W = w') by
    have hw : IntKind.i64.wrap (l - (x.2.2.length : Int)) = l - x.2.2.length := IntWalk.i64_in _ (by omega)
    by_cases hn' : l - (x.2.2.length : Int) < 0
    · rw [if_pos hn']
      go_enter Tryz.func107, Tryz.ntmps107
      go_wp2
      go_ret
      exact ⟨rfl, rfl⟩
    · rw [if_neg hn']
      go_enter Tryz.func107, Tryz.ntmps107
      go_wp2
      go_ret
      exact ⟨rfl, rfl⟩))
  by_cases b1 : left - (x.1.size : Int) < 0
  · go_enter Tryz.func73, Tryz.ntmps73
    go_wp2
    go_ret
    exact ⟨_, rfl, .inl rfl, HB0.out⟩
  by_cases b2 : left - (x.1.size : Int) - (x.2.1.size : Int) < 0
  · go_enter Tryz.func73, Tryz.ntmps73
    go_wp2
    go_ret
    exact ⟨_, rfl, .inl rfl, HB0.out⟩
  by_cases b3 : left - (x.1.size : Int) - (x.2.1.size : Int) - (x.2.2.length : Int) < 0
  · go_enter Tryz.func73, Tryz.ntmps73
    go_wp2_with fail
    refine (HI.out _ _ (by omega) (by omega)).mono ?_
    rw [if_pos b3]
    rintro e w1 ⟨rfl, rfl⟩
    go_wp2
    go_ret
    exact ⟨_, rfl, .inl rfl, HB0.out⟩
  · go_enter Tryz.func73, Tryz.ntmps73
    go_wp2_with fail
    refine (HI.out _ _ (by omega) (by omega)).mono ?_
    rw [if_neg (by omega : ¬ (left - (x.1.size : Int) - (x.2.1.size : Int) - (x.2.2.length : Int) < 0))]
    rintro e w1 ⟨rfl, rfl⟩
    go_wp2
    go_ret
    exact ⟨_, rfl, .inr ⟨by omega, by omega⟩, HB0.out⟩
end Go.Proofs.YthnimmagaocipaaGreatDoor
set_option linter.unusedVariables false
namespace Go.Proofs.YthnimmagaocipaaGreatDoor
open Go.ChangeShapes Go.WideShapes Go.ChangeAt Go.RowKit Go.WideElems

end Go.Proofs.YthnimmagaocipaaGreatDoor
set_option linter.unusedVariables false
namespace Go.Proofs.YthnimmagaocipaaGreatDoor
open Go.ChangeShapes Go.WideShapes Go.ChangeAt Go.RowKit Go.Deep

set_option maxRecDepth 100000 in
theorem opens_slot {H : Type} {enc : TypeId × Value → H} {W : World} : Opens enc Tryz.prog W SlotR 101 (fun x => x.1.size ≤ maxLen ∧ x.2.1.size ≤ maxLen ∧ (x.2.2.length ≤ maxLen ∧ ∀ y ∈ x.2.2, (Lit.int .u8 y).wf = true)) :=
  opens_struct Tryz.underlying101 (by kernel_rfl) (opensF_cons (opens_str Tryz.underlying9) rfl (by kernel_rfl) (opensF_cons (opens_str Tryz.underlying9) rfl (by kernel_rfl) (opensF_one (opens_slice (by decide) Tryz.underlying99 (by kernel_rfl) (opens_int Tryz.underlying5)) rfl (by kernel_rfl))))
end Go.Proofs.YthnimmagaocipaaGreatDoor
set_option linter.unusedVariables false
namespace Go.Proofs.YthnimmagaocipaaGreatDoor
open Go.ChangeShapes Go.WideShapes Go.ChangeAt Go.RowKit

/-- span, head, counts, sums -/
abbrev RingD := Int × Int × List Int × List Int
def IntsR : Rep (List Int) := (Rep.int .i64).slice
def RingR : Rep RingD := Rep.pair (Rep.int .i64) (Rep.pair (Rep.int .i64) (Rep.pair IntsR IntsR))

set_option maxRecDepth 100000 in
theorem ints_own {lo hi : Nat} {w : World} {v : Value} {l : List Int} (h : nums .i64 lo hi w v l) : ∃ F, IntsR.own w [v] l F ∧ F.Nodup ∧ (∀ b ∈ F, lo ≤ b ∧ b < hi) ∧ ∀ b ∈ F, blk v = some b := by
  obtain ⟨A, c, rfl, hc, hj⟩ := h
  cases l with
  | nil => exact ⟨[], ⟨A, c, rfl, hc, .inl ⟨rfl, rfl⟩⟩, List.nodup_nil, by simp, by simp⟩
  | cons y l =>
    obtain ⟨b, off, rfl, h1, h2, -, -⟩ := hj 0 (by simp)
    have hfl : List.flatten ((y :: l).map fun _ => ([] : List Nat)) = [] := by simp
    refine ⟨b :: List.flatten ((y :: l).map fun _ => []), ⟨_, c, rfl, hc, .inr ⟨b, off, _, rfl, rfl, by simp, fun j x G hx hG => ?_⟩⟩, by rw [hfl]; simp, ?_, ?_⟩
    · have hjl := (List.getElem?_eq_some_iff.1 hx).1
      have hG' : G = [] := by rw [List.getElem?_map, hx] at hG; simpa using hG.symm
      subst hG'
      obtain ⟨b', off', e, -, -, h3, h4⟩ := hj j hjl
      simp only [Option.some.injEq, Addr.mk.injEq, and_true] at e
      obtain ⟨rfl, rfl⟩ := e
      rw [List.getD_eq_getElem?_getD, hx] at h3
      have hk : off + j * (Rep.int .i64).k = off + j := by show off + j * 1 = _; rw [Nat.mul_one]
      refine ⟨[.int .i64 x], ⟨rfl, rfl⟩, atL_one.2 (by rw [hk]; exact h3), fun t ht => ?_⟩
      have ht0 : t = 0 := by have : t < 1 := ht; omega
      subst ht0
      rw [hk]; exact h4
    · rw [hfl]; intro b' hb'; rw [List.mem_singleton.1 hb']; exact ⟨h1, h2⟩
    · rw [hfl]; intro b' hb'; rw [List.mem_singleton.1 hb']; rfl
set_option maxRecDepth 100000 in
theorem ints_nums {lo hi : Nat} {w : World} {cs : List Value} {l : List Int} {F : List Nat} (h : IntsR.own w cs l F) (hF : ∀ b ∈ F, lo ≤ b ∧ b < hi) : ∃ v, cs = [v] ∧ nums .i64 lo hi w v l ∧ ∀ b, blk v = some b → b ∈ F := by
  obtain ⟨A, c, rfl, hc, h⟩ := h
  refine ⟨_, rfl, ⟨A, c, rfl, hc, fun j hl => ?_⟩, fun b hb => ?_⟩
  · rcases h with ⟨rfl, _⟩ | ⟨b, off, Fs, rfl, rfl, hFl, h⟩
    · simp at hl
    · obtain ⟨xs, hx, h2, h3⟩ := h j _ _ (List.getElem?_eq_getElem hl) (List.getElem?_eq_getElem (by omega : j < Fs.length))
      have hx' : xs = [.int .i64 l[j]] := hx.1
      subst hx'
      have hk : off + j * (Rep.int .i64).k = off + j := by show off + j * 1 = _; rw [Nat.mul_one]
      have hb := hF b (List.mem_cons_self ..)
      have h4 := h3 0 (by show 0 < 1; decide)
      have h5 := atL_one.1 h2
      rw [hk] at h4 h5
      refine ⟨b, off, rfl, hb.1, hb.2, ?_, h4⟩
      rw [h5, List.getD_eq_getElem?_getD, List.getElem?_eq_getElem hl]
      rfl
  · rcases h with ⟨rfl, _⟩ | ⟨b', off, Fs, rfl, rfl, hFl, h⟩
    · cases A with
      | none => simp [Proofs.YthnimmagaocipaaGreatDoor.blk] at hb
      | some a => simp [Proofs.YthnimmagaocipaaGreatDoor.blk] at hb
    · cases l with
      | nil => simp [Proofs.YthnimmagaocipaaGreatDoor.blk] at hb
      | cons y l =>
        simp only [List.length_cons, Proofs.YthnimmagaocipaaGreatDoor.blk, Option.some.injEq] at hb
        subst hb
        exact List.mem_cons_self ..
set_option maxRecDepth 100000 in
/-- a ring that is read -/
theorem ring_rd {hi : Nat} {w : World} {cs : List Value} {r : RingD} (h : RingR.rd hi w cs r) : ∃ vc vs, cs = [.int .i64 r.1, .int .i64 r.2.1, vc, vs] ∧ rd .i64 hi w vc r.2.2.1 ∧ rd .i64 hi w vs r.2.2.2 := by
  obtain ⟨a, b, rfl, h1, c, d, rfl, h2, e, f, rfl, h3, h4⟩ := h
  have h1' : a = [.int .i64 r.1] := h1
  have h2' : c = [.int .i64 r.2.1] := h2
  subst h1' h2'
  obtain ⟨vc, rfl, hc⟩ := Rep.to_rd h3
  obtain ⟨vs, rfl, hs⟩ := Rep.to_rd h4
  exact ⟨vc, vs, rfl, hc, hs⟩
set_option maxRecDepth 100000 in
theorem ring_rd_of {hi : Nat} {w : World} {vc vs : Value} {sp hd : Int} {c s : List Int} (h1 : rd .i64 hi w vc c) (h2 : rd .i64 hi w vs s) : RingR.rd hi w [.int .i64 sp, .int .i64 hd, vc, vs] (sp, hd, c, s) :=
  ⟨[_], [_, vc, vs], rfl, rfl, [_], [vc, vs], rfl, rfl, [vc], [vs], rfl, Rep.of_rd h1, Rep.of_rd h2⟩
set_option maxRecDepth 100000 in
/-- a ring of one's own -/
theorem ring_mine_of {lo hi : Nat} {w : World} {vc vs : Value} {sp hd : Int} {c s : List Int} (h1 : nums .i64 lo hi w vc c) (h2 : nums .i64 lo hi w vs s) (ha : ∀ b, blk vc = some b → blk vs ≠ some b) : RingR.mine lo hi w [.int .i64 sp, .int .i64 hd, vc, vs] (sp, hd, c, s) := by
  obtain ⟨F, hF, nF, bF, kF⟩ := ints_own h1
  obtain ⟨G, hG, nG, bG, kG⟩ := ints_own h2
  refine ⟨[] ++ ([] ++ (F ++ G)), ⟨[_], [_, vc, vs], [], _, rfl, rfl, ⟨rfl, rfl⟩, [_], [vc, vs], [], _, rfl, rfl, ⟨rfl, rfl⟩, [vc], [vs], F, G, rfl, rfl, hF, hG⟩, ?_, ?_⟩
  · simp only [List.nil_append]
    exact List.nodup_append.2 ⟨nF, nG, fun a hx b hy e => ha a (kF a hx) (by rw [e]; exact kG b hy)⟩
  · intro b hb
    simp only [List.nil_append, List.mem_append] at hb
    exact hb.elim (bF b) (bG b)
set_option maxRecDepth 100000 in
theorem ring_mine {lo hi : Nat} {w : World} {cs : List Value} {r : RingD} (h : RingR.mine lo hi w cs r) : ∃ vc vs, cs = [.int .i64 r.1, .int .i64 r.2.1, vc, vs] ∧ nums .i64 lo hi w vc r.2.2.1 ∧ nums .i64 lo hi w vs r.2.2.2 ∧ ∀ b, blk vc = some b → blk vs ≠ some b := by
  obtain ⟨F, ⟨a, b, G, H, rfl, rfl, ⟨h1, rfl⟩, c, d, I, J, rfl, rfl, ⟨h2, rfl⟩, e, f, K, L, rfl, rfl, h3, h4⟩, hn, hb⟩ := h
  have h1' : a = [.int .i64 r.1] := h1
  have h2' : c = [.int .i64 r.2.1] := h2
  subst h1' h2'
  simp only [List.nil_append] at hn hb
  obtain ⟨n1, n2, n3⟩ := List.nodup_append.1 hn
  obtain ⟨vc, rfl, hc, kc⟩ := ints_nums (lo := lo) (hi := hi) h3 fun b hx => hb b (List.mem_append_left _ hx)
  obtain ⟨vs, rfl, hs, ks⟩ := ints_nums (lo := lo) (hi := hi) h4 fun b hx => hb b (List.mem_append_right _ hx)
  exact ⟨vc, vs, rfl, hc, hs, fun b h1 h2 => n3 b (kc b h1) b (ks b h2) rfl⟩
end Go.Proofs.YthnimmagaocipaaGreatDoor
set_option linter.unusedVariables false
namespace Go.Proofs.YthnimmagaocipaaGreatDoor
open Go.ChangeShapes Go.WideShapes Go.ChangeAt Go.RowKit

set_option maxRecDepth 100000 in
theorem infoI64 : (Tryz.prog.info? 3).map (fun i => (i.zero, i.size, i.bytes)) = some (some (.int .i64 0), 1, 8) := by kernel_rfl
set_option maxRecDepth 100000 in
set_option maxHeartbeats 800000 in
theorem eqInts_any (hi1 hi2 : Nat) (va vb : Value) (l : List Int) (w : World) (hn : l.length ≤ 4611686018427387904) (h1 : rd .i64 hi1 w va l) (h2 : rd .i64 hi2 w vb l) :
    Calls Tryz.prog 85 #[va, vb] w fun e w' => e = .returned (.bool true) ∧ Below w.heap.size w w' := by
  obtain ⟨A1, c1, rfl, -, h1⟩ := h1
  obtain ⟨A2, c2, rfl, -, h2⟩ := h2
  have H1 := Lib.hid h1
  have H2 := Lib.hid h2
  clear h1 h2
  go_enter Tryz.func85, Tryz.ntmps85
  go_wp2
  go_loopw [5] (fun iv wr => ∃ (k : Nat) (q : Nat), k ≤ l.length ∧ iv = .int .i64 k ∧ wr = w.drewN q) (fun iv _ => l.length - (intOf iv).toNat)
  case atStart => exact ⟨0, 0, Nat.zero_le _, rfl, rfl⟩
  case round =>
    obtain ⟨k, q, hk, rfl, rfl⟩ := hrel
    by_cases hlt : k < l.length
    · obtain ⟨b1, o1, rfl, -, x1⟩ := H1.out k hlt
      obtain ⟨b2, o2, rfl, -, x2⟩ := H2.out k hlt
      generalize l.getD k 0 = x at x1 x2
      have g1 : (k : Int) < (l.length : Int) := by omega
      have g2 : 0 ≤ (k : Int) := by omega
      go_wp2
      go_quiet (fail)
      go_wp2
      go_roundw
      case rel => exact ⟨k + 1, _, by omega, by go_num, rfl⟩
      case measure => simp [intOf] <;> omega
    · go_wp2
      go_ret
      exact ⟨rfl, below_drewN (Below.refl _ _) _⟩

set_option maxRecDepth 100000 in
set_option maxHeartbeats 800000 in
theorem markInts_any (lo hi : Nat) (v : Value) (l : List Int) (k : Int) (w : World) (hn : l.length ≤ 4611686018427387904) (hk0 : 0 ≤ k) (hk1 : k ≤ 4000000000000000000) (hm : nums .i64 lo hi w v l) :
    Calls Tryz.prog 67 #[v, .int .i64 k] w fun e w' => e = .returned (.int .i64 (k + l.length)) ∧ nums .i64 lo hi w' v (marksL (fun x => x) k l.length) ∧ w.grownBy w' (blk v) := by
  obtain ⟨A, c, rfl, hc, hm⟩ := hm
  have hm := mkd.start (k := k) (f := (fun x => x)) hm
  generalize l.length = n at hn hm hc ⊢
  have HM := Lib.hid hm
  have hkn : k + (n : Int) ≤ 8611686018427387904 := by omega
  clear hm
  go_enter Tryz.func67, Tryz.ntmps67
  go_wp2
  go_loopw [1, 5] (fun kv iv wr => ∃ i : Nat, i ≤ n ∧ iv = .int .i64 i ∧ kv = .int .i64 (k + i) ∧ mkd .i64 (fun x => x) lo hi wr A k i n ∧ w.grownBy wr (blk (.slice A n c))) (fun _ iv _ => n - (intOf iv).toNat)
  case atStart => exact ⟨0, Nat.zero_le _, rfl, val_int (by simp), HM.out, grown_refl _ _⟩
  case round =>
    obtain ⟨i, hi, rfl, rfl, hm, hw⟩ := hrel
    have HM := Lib.hid hm
    have HW := Lib.hid hw
    clear hm hw
    by_cases hin : i < n
    · obtain ⟨b, off, rfl, h1, h2, hf, ⟨u, hu⟩, -⟩ := HM.out i hin
      have g1 : (i : Int) < (n : Int) := by omega
      have g2 : 0 ≤ (i : Int) := by omega
      have hb : blk (.slice (some ⟨b, off, none⟩) n c) = some b := by cases n with | zero => omega | succ n => rfl
      have HB := Lib.hid hb
      clear hb
      go_wp2
      go_roundw
      case rel => exact ⟨i + 1, by omega, by go_num, val_int (by omega), HM.out.set hin rfl, by have := HW.out; rw [HB.out] at this ⊢; exact grown_set this _ _⟩
      case measure => simp [intOf] <;> omega
    · obtain rfl : i = n := by omega
      go_wp2
      go_ret
      exact ⟨rfl, HM.out.done hc, HW.out⟩

set_option maxRecDepth 100000 in
set_option maxHeartbeats 800000 in
theorem heldInts_any (hi : Nat) (v : Value) (n : Nat) (k : Int) (w : World) (hn : n ≤ 4611686018427387904) (hk0 : 0 ≤ k) (hk1 : k ≤ 4000000000000000000) (hm : rd .i64 hi w v (marksL (fun x => x) k n)) :
    Calls Tryz.prog 69 #[v, .int .i64 k] w fun e w' => e = .returned (.int .i64 (k + n)) ∧ Below w.heap.size w w' := by
  obtain ⟨A, c, rfl, hc, hm⟩ := hm
  rw [marks_length] at hm hc ⊢
  have HM := Lib.hid hm
  clear hm
  have hkn : k + (n : Int) ≤ 8611686018427387904 := by omega
  go_enter Tryz.func69, Tryz.ntmps69
  go_wp2
  go_loopw [1, 5] (fun kv iv wr => ∃ i q : Nat, i ≤ n ∧ iv = .int .i64 i ∧ kv = .int .i64 (k + i) ∧ wr = w.drewN q) (fun _ iv _ => n - (intOf iv).toNat)
  case atStart => exact ⟨0, 0, Nat.zero_le _, rfl, val_int (by simp), rfl⟩
  case round =>
    obtain ⟨i, q, hi, rfl, rfl, rfl⟩ := hrel
    by_cases hin : i < n
    · obtain ⟨b, off, rfl, -, hc'⟩ := HM.out i hin
      rw [marks_getD _ k n i hin] at hc'
      have g1 : (i : Int) < (n : Int) := by omega
      have g2 : 0 ≤ (i : Int) := by omega
      go_wp2
      go_roundw
      case rel => exact ⟨i + 1, _, by omega, by go_num, val_int (by omega), rfl⟩
      case measure => simp [intOf] <;> omega
    · obtain rfl : i = n := by omega
      go_wp2
      go_ret
      exact ⟨rfl, below_drewN (Below.refl _ _) _⟩

set_option maxRecDepth 100000 in
set_option maxHeartbeats 800000 in
theorem toInts_any (hi : Nat) (v : Value) (l : List Int) (w : World) (hn : l.length ≤ 1048576) (h : rd .i64 hi w v l) (hhi : hi ≤ w.heap.size) :
    Calls Tryz.prog 77 #[v] w fun e w' => ∃ u, e = .returned u ∧ nums .i64 w.heap.size w'.heap.size w' u l ∧ Below w.heap.size w w' := by
  obtain ⟨A, c, rfl, hc, h⟩ := h
  have HR := Lib.hid h
  clear h
  have hmk := run_make_row' (P := Tryz.prog) 37 3 (.int .i64 0) 8 Tryz.underlying37 infoI64 rfl .i64 .i64 l.length (by omega) (by omega)
  go_enter Tryz.func77, Tryz.ntmps77
  go_wp2
  go_loopw [4] (fun iv wr => ∃ i : Nat, i ≤ l.length ∧ iv = .int .i64 i ∧ part .i64 w.heap.size 3 l.length wr l i ∧ Below w.heap.size w wr) (fun iv _ => l.length - (intOf iv).toNat)
  case atStart => exact ⟨0, Nat.zero_le _, rfl, part.start (World.rowIs_made w (.int .i64 0) l.length 3), (Below.refl _ _).alloc (Nat.le_refl _) _⟩
  case round =>
    obtain ⟨i, hi, rfl, hp, hb⟩ := hrel
    have HP := Lib.hid hp
    by_cases hin : i < l.length
    · obtain ⟨b, off, rfl, hbl, hcell⟩ := HR.out i hin
      have hcell := (hb.cell (p := ⟨b, off + i, none⟩) (show b < w.heap.size by omega)).trans hcell
      have hdst := World.rowIs.cell hp hin
      rw [if_neg (by omega)] at hdst
      have hfr := World.rowIs.frozen hp i
      clear hp
      have g1 : (i : Int) < (l.length : Int) := by omega
      have g2 : 0 ≤ (i : Int) := by omega
      go_wp2
      go_roundw
      case rel => exact ⟨i + 1, by omega, by go_num, HP.out.set (by rw [List.getD_eq_getElem?_getD, List.getElem?_eq_getElem hin]; rfl), hb.setCell (by simp) _⟩
      case measure => simp [intOf] <;> omega
    · obtain rfl : i = l.length := by omega
      clear hp
      go_wp2
      go_ret
      exact ⟨_, rfl, HP.out.done (Nat.le_refl _), hb⟩
end Go.Proofs.YthnimmagaocipaaGreatDoor
set_option linter.unusedVariables false
namespace Go.Proofs.YthnimmagaocipaaGreatDoor
open Go.ChangeShapes Go.WideShapes Go.ChangeAt Go.RowKit

set_option maxRecDepth 100000 in
set_option maxHeartbeats 1600000 in
theorem eqRing_any (hi1 hi2 : Nat) (vc vs vc' vs' : Value) (r : RingD) (w : World) (h1 : rd .i64 hi1 w vc r.2.2.1) (h2 : rd .i64 hi1 w vs r.2.2.2) (h3 : rd .i64 hi2 w vc' r.2.2.1) (h4 : rd .i64 hi2 w vs' r.2.2.2) (hh1 : hi1 ≤ w.heap.size) (hh2 : hi2 ≤ w.heap.size) (hc : r.2.2.1.length ≤ 1048576) (hs : r.2.2.2.length ≤ 1048576) :
    Calls Tryz.prog 45 #[.agg #[.int .i64 r.1, .int .i64 r.2.1, vc, vs], .agg #[.int .i64 r.1, .int .i64 r.2.1, vc', vs']] w fun e w' => e = .returned (.bool true) ∧ Below w.heap.size w w' := by
  obtain ⟨sp, hd, cs, ss⟩ := r
  simp only at h1 h2 h3 h4 hc hs ⊢
  obtain ⟨A1, c1, rfl, -⟩ := h1.form
  obtain ⟨A2, c2, rfl, -⟩ := h2.form
  obtain ⟨A3, c3, rfl, -⟩ := h3.form
  obtain ⟨A4, c4, rfl, -⟩ := h4.form
  have H12 := Lib.hid (fun W (hW : Below w.heap.size w W) => eqInts_any hi1 hi2 (.slice A1 cs.length c1) (.slice A3 cs.length c3) cs W (by omega) (h1.below hW hh1) (h3.below hW hh2))
  have H34 := Lib.hid (fun W (hW : Below w.heap.size w W) => eqInts_any hi1 hi2 (.slice A2 ss.length c2) (.slice A4 ss.length c4) ss W (by omega) (h2.below hW hh1) (h4.below hW hh2))
  have HB0 : Hid (∀ o1 o2, Below w.heap.size w ((w.alloc o1).alloc o2)) := Lib.hid fun o1 o2 => ((Below.refl _ _).alloc (Nat.le_refl _) o1).alloc (by simp) o2
  clear h1 h2 h3 h4
  go_enter Tryz.func45, Tryz.ntmps45
  go_wp2_with fail
  refine (H12.out _ (HB0.out _ _)).mono ?_
  rintro e w1 ⟨rfl, hb1⟩
  have q2 := (hb1.cell (p := ⟨w.heap.size, 3, none⟩) (by simp; omega)).trans (show ((w.alloc (.cells #[.int .i64 sp, .int .i64 hd, .slice A1 cs.length c1, .slice A2 ss.length c2] 47)).alloc _).cell? ⟨w.heap.size, 3, none⟩ = some (.slice A2 ss.length c2) by simp)
  have q3 := (hb1.cell (p := ⟨w.heap.size + 1, 3, none⟩) (by simp)).trans (show ((w.alloc _).alloc (.cells #[.int .i64 sp, .int .i64 hd, .slice A3 cs.length c3, .slice A4 ss.length c4] 47)).cell? ⟨w.heap.size + 1, 3, none⟩ = some (.slice A4 ss.length c4) by simp)
  have HB1 : Hid (Below w.heap.size w w1) := Lib.hid ((HB0.out _ _).trans (hb1.mono (by simp; omega)))
  have z1 : w.heap.size + 2 ≤ w1.heap.size := by have := hb1.size; simpa using this
  clear hb1
  go_wp2_with fail
  refine (H34.out _ HB1.out).mono ?_
  rintro e w2 ⟨rfl, hb2⟩
  go_wp2
  go_ret
  exact ⟨rfl, HB1.out.trans (hb2.mono (by omega))⟩
set_option maxRecDepth 100000 in
theorem nums.apart {K : IntKind} {lo hi : Nat} {w w' : World} {v : Value} {l : List Int} {row : Option Nat} (h : nums K lo hi w v l) (hg : w.grownBy w' row) (hh : hi ≤ w.heap.size) (ha : ∀ b, Proofs.YthnimmagaocipaaGreatDoor.blk v = some b → row ≠ some b) : nums K lo hi w' v l := by
  obtain ⟨A, c, rfl, hc, hj⟩ := h
  refine ⟨A, c, rfl, hc, fun j hl => ?_⟩
  obtain ⟨b, off, rfl, h1, h2, h3, h4⟩ := hj j hl
  have hk : w'.heap[b]? = w.heap[b]? := hg.block b (by omega) (fun e => by
    refine ha b ?_ e.symm
    cases hn : l.length with
    | zero => omega
    | succ n => rfl)
  exact ⟨b, off, rfl, h1, h2, (cell_keep hk).trans h3, (frozen_keep hk).trans h4⟩
set_option maxRecDepth 100000 in
set_option maxHeartbeats 1600000 in
theorem markRing_any (lo hi : Nat) (vc vs : Value) (r : RingD) (k : Int) (w : World) (hk0 : 0 ≤ k) (hk1 : k ≤ 1000000000) (h1 : nums .i64 lo hi w vc r.2.2.1) (h2 : nums .i64 lo hi w vs r.2.2.2) (ha : ∀ b, blk vc = some b → blk vs ≠ some b) (hh : hi ≤ w.heap.size) (hc : r.2.2.1.length ≤ 1048576) (hs : r.2.2.2.length ≤ 1048576) :
    Calls Tryz.prog 48 #[.agg #[.int .i64 r.1, .int .i64 r.2.1, vc, vs], .int .i64 k] w fun e w' => e = .returned (.int .i64 (k + r.2.2.1.length + r.2.2.2.length)) ∧ nums .i64 lo hi w' vc (marksL (fun x => x) k r.2.2.1.length) ∧ nums .i64 lo hi w' vs (marksL (fun x => x) (k + r.2.2.1.length) r.2.2.2.length) ∧ Turned lo hi w w' := by
  obtain ⟨sp, hd, cs, ss⟩ := r
  simp only at h1 h2 hc hs ⊢
  have hb1 := h1.blk
  have hb2 := h2.blk
  obtain ⟨A1, c1, rfl, -⟩ := h1.form
  obtain ⟨A2, c2, rfl, -⟩ := h2.form
  have HM1 := Lib.hid (fun W h => markInts_any lo hi (.slice A1 cs.length c1) cs k W (by omega) hk0 (by omega) h)
  have HM2 := Lib.hid (fun W h => markInts_any lo hi (.slice A2 ss.length c2) ss (k + cs.length) W (by omega) (by omega) (by omega) h)
  have HB0 : Hid (Below w.heap.size w (w.alloc (.cells #[.int .i64 sp, .int .i64 hd, .slice A1 cs.length c1, .slice A2 ss.length c2] 47))) := Lib.hid ((Below.refl _ _).alloc (Nat.le_refl _) _)
  have H1 := Lib.hid h1
  have H2 := Lib.hid h2
  have HA := Lib.hid ha
  have HK1 := Lib.hid hb1
  have HK2 := Lib.hid hb2
  clear h1 h2 ha hb1 hb2
  go_enter Tryz.func48, Tryz.ntmps48
  go_wp2_with fail
  refine (HM1.out _ (H1.out.below HB0.out hh)).mono ?_
  rintro e w1 ⟨rfl, hn1, hg1⟩
  have hbw : w.heap.size < (w.alloc (.cells #[.int .i64 sp, .int .i64 hd, .slice A1 cs.length c1, .slice A2 ss.length c2] 47)).heap.size := by simp
  have hkeep : w1.heap[w.heap.size]? = some (.cells #[.int .i64 sp, .int .i64 hd, .slice A1 cs.length c1, .slice A2 ss.length c2] 47 (0, 0)) := (hg1.block _ hbw (fun e => by have := HK1.out _ e.symm; omega)).trans (heap_alloc_new _ _)
  have k3 := cell_of_row _ _ 3 _ _ (0, 0) hkeep
  simp only [List.getElem?_toArray, List.getElem?_cons_zero, List.getElem?_cons_succ] at k3
  have HN1 := Lib.hid hn1
  have HN2 := Lib.hid ((H2.out.below HB0.out hh).apart hg1 (by simp; omega) (fun b hb e => HA.out b e hb))
  have HT1 : Hid (Turned lo hi w w1) := Lib.hid ((Turned.of_below HB0.out).trans (Turned.of_grown hg1 HK1.out))
  have z1 : w.heap.size + 1 ≤ w1.heap.size := by have := hg1.size; simpa using this
  clear hn1 hg1 hkeep hbw
  go_wp2_with fail
  refine (HM2.out _ HN2.out).mono ?_
  rintro e w2 ⟨rfl, hn2, hg2⟩
  have HN3 := Lib.hid (HN1.out.apart hg2 (by omega) (fun b hb e => HA.out b hb e))
  have HN4 := Lib.hid hn2
  have HT2 : Hid (Turned lo hi w w2) := Lib.hid (HT1.out.trans (Turned.of_grown hg2 HK2.out))
  clear hn2 hg2
  go_wp2
  go_ret
  exact ⟨rfl, HN3.out, HN4.out, HT2.out⟩
end Go.Proofs.YthnimmagaocipaaGreatDoor
set_option linter.unusedVariables false
namespace Go.Proofs.YthnimmagaocipaaGreatDoor
open Go.ChangeShapes Go.WideShapes Go.ChangeAt Go.RowKit

/-- id, limit, posted, most, mostSum, holds, ring, slots -/
abbrev AcctD := ByteArray × Int × Int × Int × Int × List HoldD × RingD × List SlotD
abbrev aId (a : AcctD) : ByteArray := a.1
abbrev aLim (a : AcctD) : Int := a.2.1
abbrev aPos (a : AcctD) : Int := a.2.2.1
abbrev aMost (a : AcctD) : Int := a.2.2.2.1
abbrev aSum (a : AcctD) : Int := a.2.2.2.2.1
abbrev aH (a : AcctD) : List HoldD := a.2.2.2.2.2.1
abbrev aR (a : AcctD) : RingD := a.2.2.2.2.2.2.1
abbrev aS (a : AcctD) : List SlotD := a.2.2.2.2.2.2.2
def AcctR : Rep AcctD := Rep.pair Rep.str (Rep.pair (Rep.int .i64) (Rep.pair (Rep.int .i64) (Rep.pair (Rep.int .i64) (Rep.pair (Rep.int .i64) (Rep.pair HoldsR (Rep.pair RingR SlotsR))))))
/-- its eleven cells -/
def aCells (a : AcctD) (vh vc vs vl : Value) : List Value := [.string (aId a), .int .i64 (aLim a), .int .i64 (aPos a), .int .i64 (aMost a), .int .i64 (aSum a), vh, .int .i64 (aR a).1, .int .i64 (aR a).2.1, vc, vs, vl]
set_option maxRecDepth 100000 in
theorem acct_rd {hi : Nat} {w : World} {cs : List Value} {a : AcctD} (h : AcctR.rd hi w cs a) : ∃ vh vc vs vl, cs = aCells a vh vc vs vl ∧ HoldsR.rd hi w [vh] (aH a) ∧ rd .i64 hi w vc (aR a).2.2.1 ∧ rd .i64 hi w vs (aR a).2.2.2 ∧ SlotsR.rd hi w [vl] (aS a) := by
  obtain ⟨c1, r1, rfl, h1, c2, r2, rfl, h2, c3, r3, rfl, h3, c4, r4, rfl, h4, c5, r5, rfl, h5, c6, r6, rfl, h6, c7, r7, rfl, h7, h8⟩ := h
  have e1 : c1 = [.string (aId a)] := h1
  have e2 : c2 = [.int .i64 (aLim a)] := h2
  have e3 : c3 = [.int .i64 (aPos a)] := h3
  have e4 : c4 = [.int .i64 (aMost a)] := h4
  have e5 : c5 = [.int .i64 (aSum a)] := h5
  subst e1 e2 e3 e4 e5
  obtain ⟨vc, vs, rfl, hc, hs⟩ := ring_rd h7
  have l6 := HoldsR.rd_len h6
  have l8 := SlotsR.rd_len h8
  match c6, r7, l6, l8 with
  | [vh], [vl], _, _ => exact ⟨vh, vc, vs, vl, rfl, h6, hc, hs, h8⟩
set_option maxRecDepth 100000 in
theorem acct_rd_of {hi : Nat} {w : World} {a : AcctD} {vh vc vs vl : Value} (h1 : HoldsR.rd hi w [vh] (aH a)) (h2 : rd .i64 hi w vc (aR a).2.2.1) (h3 : rd .i64 hi w vs (aR a).2.2.2) (h4 : SlotsR.rd hi w [vl] (aS a)) : AcctR.rd hi w (aCells a vh vc vs vl) a :=
  ⟨[_], _, rfl, rfl, [_], _, rfl, rfl, [_], _, rfl, rfl, [_], _, rfl, rfl, [_], _, rfl, rfl, [vh], _, rfl, h1, [_, _, vc, vs], [vl], rfl, ring_rd_of h2 h3, h4⟩
/-- memory of one's own, part by part: the blocks of the parts are apart -/
structure Apart4 (F G H : List Nat) : Prop where
  fg : ∀ b ∈ F, b ∉ G
  fh : ∀ b ∈ F, b ∉ H
  gh : ∀ b ∈ G, b ∉ H
set_option maxRecDepth 100000 in
theorem acct_mine_of {lo hi : Nat} {w : World} {a : AcctD} {vh vc vs vl : Value} {F G H : List Nat} (h1 : HoldsR.own w [vh] (aH a) F) (h2 : RingR.own w [.int .i64 (aR a).1, .int .i64 (aR a).2.1, vc, vs] (aR a) G) (h3 : SlotsR.own w [vl] (aS a) H) (hF : F.Nodup) (hG : G.Nodup) (hH : H.Nodup) (hA : Apart4 F G H) (hb : ∀ b, b ∈ F ∨ b ∈ G ∨ b ∈ H → lo ≤ b ∧ b < hi) : AcctR.mine lo hi w (aCells a vh vc vs vl) a := by
  refine ⟨[] ++ ([] ++ ([] ++ ([] ++ ([] ++ (F ++ (G ++ H)))))), ⟨[_], _, [], _, rfl, rfl, ⟨rfl, rfl⟩, [_], _, [], _, rfl, rfl, ⟨rfl, rfl⟩, [_], _, [], _, rfl, rfl, ⟨rfl, rfl⟩, [_], _, [], _, rfl, rfl, ⟨rfl, rfl⟩, [_], _, [], _, rfl, rfl, ⟨rfl, rfl⟩, [vh], _, F, _, rfl, rfl, h1, [_, _, vc, vs], [vl], G, H, rfl, rfl, h2, h3⟩, ?_, ?_⟩
  · simp only [List.nil_append]
    refine List.nodup_append.2 ⟨hF, List.nodup_append.2 ⟨hG, hH, fun x hx y hy e => hA.gh x hx (e ▸ hy)⟩, fun x hx y hy e => ?_⟩
    rcases List.mem_append.1 hy with hy | hy
    · exact hA.fg x hx (e ▸ hy)
    · exact hA.fh x hx (e ▸ hy)
  · intro b hb'
    simp only [List.nil_append, List.mem_append] at hb'
    exact hb b hb'
set_option maxRecDepth 100000 in
theorem acct_mine_ivl {p0 p1 p2 p3 : Nat} {w : World} {a : AcctD} {vh vc vs vl : Value} (h1 : HoldsR.mine p0 p1 w [vh] (aH a)) (h2 : RingR.mine p1 p2 w [.int .i64 (aR a).1, .int .i64 (aR a).2.1, vc, vs] (aR a)) (h3 : SlotsR.mine p2 p3 w [vl] (aS a)) (h01 : p0 ≤ p1) (h12 : p1 ≤ p2) (h23 : p2 ≤ p3) : AcctR.mine p0 p3 w (aCells a vh vc vs vl) a := by
  obtain ⟨F, f1, f2, f3⟩ := h1
  obtain ⟨G, g1, g2, g3⟩ := h2
  obtain ⟨H, i1, i2, i3⟩ := h3
  refine acct_mine_of f1 g1 i1 f2 g2 i2 ⟨fun b hb hb' => ?_, fun b hb hb' => ?_, fun b hb hb' => ?_⟩ fun b hb => ?_
  · have := f3 b hb; have := g3 b hb'; omega
  · have := f3 b hb; have := i3 b hb'; omega
  · have := g3 b hb; have := i3 b hb'; omega
  · rcases hb with hb | hb | hb
    · have := f3 b hb; omega
    · have := g3 b hb; omega
    · have := i3 b hb; omega
set_option maxRecDepth 100000 in
/-- the cells of a block of eleven -/
theorem bk.eleven {w : World} {g : Nat} {t : TypeId} {a b c d e f i j k l m : Value} (h : bk w g t [a, b, c, d, e, f, i, j, k, l, m]) :
    (w.cell? ⟨g, 0, none⟩ = some a ∧ w.cell? ⟨g, 1, none⟩ = some b ∧ w.cell? ⟨g, 2, none⟩ = some c ∧ w.cell? ⟨g, 3, none⟩ = some d ∧ w.cell? ⟨g, 4, none⟩ = some e ∧ w.cell? ⟨g, 5, none⟩ = some f ∧ w.cell? ⟨g, 6, none⟩ = some i ∧ w.cell? ⟨g, 7, none⟩ = some j ∧ w.cell? ⟨g, 8, none⟩ = some k ∧ w.cell? ⟨g, 9, none⟩ = some l ∧ w.cell? ⟨g, 10, none⟩ = some m) ∧
    (w.frozen? ⟨g, 0, none⟩ = false ∧ w.frozen? ⟨g, 1, none⟩ = false ∧ w.frozen? ⟨g, 2, none⟩ = false ∧ w.frozen? ⟨g, 3, none⟩ = false ∧ w.frozen? ⟨g, 4, none⟩ = false ∧ w.frozen? ⟨g, 5, none⟩ = false ∧ w.frozen? ⟨g, 6, none⟩ = false ∧ w.frozen? ⟨g, 7, none⟩ = false ∧ w.frozen? ⟨g, 8, none⟩ = false ∧ w.frozen? ⟨g, 9, none⟩ = false ∧ w.frozen? ⟨g, 10, none⟩ = false) :=
  ⟨⟨h.cell 0, h.cell 1, h.cell 2, h.cell 3, h.cell 4, h.cell 5, h.cell 6, h.cell 7, h.cell 8, h.cell 9, h.cell 10⟩, h.frozen 0, h.frozen 1, h.frozen 2, h.frozen 3, h.frozen 4, h.frozen 5, h.frozen 6, h.frozen 7, h.frozen 8, h.frozen 9, h.frozen 10⟩
/-- what the laws ask of an account's sizes -/
structure acctSmall (N : Nat) (a : AcctD) : Prop where
  h : (aH a).length ≤ N
  c : (aR a).2.2.1.length ≤ N
  s : (aR a).2.2.2.length ≤ N
  l : (aS a).length ≤ N
  r : ∀ x ∈ aS a, x.2.2.length ≤ N
/-- an account as it is given back -/
def acctOne (a : AcctD) (w : World) (e : Ending) (w' : World) : Prop := ∃ vh vc vs vl, e = .returned (.agg #[.string (aId a), .int .i64 (aLim a), .int .i64 (aPos a), .int .i64 (aMost a), .int .i64 (aSum a), vh, .int .i64 (aR a).1, .int .i64 (aR a).2.1, vc, vs, vl]) ∧ AcctR.mine w.heap.size w'.heap.size w' (aCells a vh vc vs vl) a ∧ Below w.heap.size w w'
/-- an account whose parts lie in intervals of their own -/
def AcctI (lo hi : Nat) (w : World) (vh vc vs vl : Value) (a : AcctD) : Prop := ∃ l1 h1 l2 h2 l3 h3, HoldsR.mine l1 h1 w [vh] (aH a) ∧ RingR.mine l2 h2 w [.int .i64 (aR a).1, .int .i64 (aR a).2.1, vc, vs] (aR a) ∧ SlotsR.mine l3 h3 w [vl] (aS a) ∧ (lo ≤ l1 ∧ h1 ≤ hi ∧ lo ≤ l2 ∧ h2 ≤ hi ∧ lo ≤ l3 ∧ h3 ≤ hi) ∧ (h1 ≤ l2 ∨ h2 ≤ l1) ∧ (h1 ≤ l3 ∨ h3 ≤ l1) ∧ (h2 ≤ l3 ∨ h3 ≤ l2)
set_option maxRecDepth 100000 in
theorem AcctI.mine {lo hi : Nat} {w : World} {vh vc vs vl : Value} {a : AcctD} (h : AcctI lo hi w vh vc vs vl a) : AcctR.mine lo hi w (aCells a vh vc vs vl) a := by
  obtain ⟨l1, h1, l2, h2, l3, h3, ⟨F, f1, f2, f3⟩, ⟨G, g1, g2, g3⟩, ⟨H, i1, i2, i3⟩, hb, d1, d2, d3⟩ := h
  refine acct_mine_of f1 g1 i1 f2 g2 i2 ⟨fun b hb hb' => ?_, fun b hb hb' => ?_, fun b hb hb' => ?_⟩ fun b hb => ?_
  · have := f3 b hb; have := g3 b hb'; omega
  · have := f3 b hb; have := i3 b hb'; omega
  · have := g3 b hb; have := i3 b hb'; omega
  · rcases hb with hb | hb | hb
    · have := f3 b hb; omega
    · have := g3 b hb; omega
    · have := i3 b hb; omega
set_option maxRecDepth 100000 in
theorem AcctI.below {lo hi B : Nat} {w w' : World} {vh vc vs vl : Value} {a : AcctD} (h : AcctI lo hi w vh vc vs vl a) (hb : Below B w w') (hB : hi ≤ B) : AcctI lo hi w' vh vc vs vl a := by
  obtain ⟨l1, h1, l2, h2, l3, h3, m1, m2, m3, hq, d⟩ := h
  exact ⟨l1, h1, l2, h2, l3, h3, m1.below hb (by omega), m2.below hb (by omega), m3.below hb (by omega), hq, d⟩
set_option maxRecDepth 100000 in
theorem AcctI.turned {lo hi lo' hi' : Nat} {w w' : World} {vh vc vs vl : Value} {a : AcctD} (h : AcctI lo hi w vh vc vs vl a) (ht : Turned lo' hi' w w') (h1 : hi ≤ lo' ∨ hi' ≤ lo) (h2 : hi ≤ w.heap.size) : AcctI lo hi w' vh vc vs vl a := by
  obtain ⟨l1, e1, l2, e2, l3, e3, m1, m2, m3, hq, d⟩ := h
  exact ⟨l1, e1, l2, e2, l3, e3, m1.turned ht (by omega) (by omega), m2.turned ht (by omega) (by omega), m3.turned ht (by omega) (by omega), hq, d⟩
set_option maxRecDepth 100000 in
theorem AcctI.mono {lo hi lo' hi' : Nat} {w : World} {vh vc vs vl : Value} {a : AcctD} (h : AcctI lo hi w vh vc vs vl a) (h1 : lo' ≤ lo) (h2 : hi ≤ hi') : AcctI lo' hi' w vh vc vs vl a := by
  obtain ⟨l1, e1, l2, e2, l3, e3, m1, m2, m3, hq, d⟩ := h
  exact ⟨l1, e1, l2, e2, l3, e3, m1, m2, m3, by omega, d⟩
set_option maxRecDepth 100000 in
theorem acctI_ivl {p0 p1 p2 p3 : Nat} {w : World} {a : AcctD} {vh vc vs vl : Value} (h1 : HoldsR.mine p0 p1 w [vh] (aH a)) (h2 : RingR.mine p1 p2 w [.int .i64 (aR a).1, .int .i64 (aR a).2.1, vc, vs] (aR a)) (h3 : SlotsR.mine p2 p3 w [vl] (aS a)) (h01 : p0 ≤ p1) (h12 : p1 ≤ p2) (h23 : p2 ≤ p3) : AcctI p0 p3 w vh vc vs vl a :=
  ⟨p0, p1, p1, p2, p2, p3, h1, h2, h3, by omega, .inl (Nat.le_refl _), .inl h12, .inl (Nat.le_refl _)⟩
/-- an account as it is given back, its parts in intervals -/
def acctOneI (a : AcctD) (w : World) (e : Ending) (w' : World) : Prop := ∃ vh vc vs vl, e = .returned (.agg #[.string (aId a), .int .i64 (aLim a), .int .i64 (aPos a), .int .i64 (aMost a), .int .i64 (aSum a), vh, .int .i64 (aR a).1, .int .i64 (aR a).2.1, vc, vs, vl]) ∧ AcctI w.heap.size w'.heap.size w' vh vc vs vl a ∧ Below w.heap.size w w'
set_option maxRecDepth 100000 in
theorem acctOneI.one {a : AcctD} {w : World} {e : Ending} {w' : World} (h : acctOneI a w e w') : acctOne a w e w' := by
  obtain ⟨vh, vc, vs, vl, he, hm, hb⟩ := h
  exact ⟨vh, vc, vs, vl, he, hm.mine, hb⟩
end Go.Proofs.YthnimmagaocipaaGreatDoor
set_option linter.unusedVariables false
namespace Go.Proofs.YthnimmagaocipaaGreatDoor
open Go.ChangeShapes Go.WideShapes Go.ChangeAt Go.RowKit

/-- is n money? -/
def isMon (n : Int) : Bool := decide (0 ≤ n) && decide (n ≤ 4611686018427387904)

set_option maxRecDepth 100000 in
theorem isMon_true {n : Int} (h : isMon n = true) : 0 ≤ n ∧ n ≤ 4611686018427387904 := by
  simpa [isMon] using h
set_option maxRecDepth 100000 in
theorem l01Money_any (n : Int) (w : World) : Calls Tryz.prog 52 #[.int .i64 n] w fun e w' => e = .returned (.bool (isMon n)) ∧ w = w' := by
  by_cases h0 : 0 ≤ n
  all_goals
    go_enter Tryz.func52, Tryz.ntmps52
    go_wp2
    go_ret
    exact ⟨by simp [isMon]; omega, rfl⟩

set_option maxRecDepth 100000 in
theorem isMoney_any (n : Int) (w : World) : Calls Tryz.prog 118 #[.int .i64 n] w fun e w' => e = .returned (.bool (isMon n)) ∧ w = w' := by
  by_cases h0 : 0 ≤ n
  all_goals
    go_enter Tryz.func118, Tryz.ntmps118
    go_wp2
    go_ret
    exact ⟨by simp [isMon]; omega, rfl⟩

end Go.Proofs.YthnimmagaocipaaGreatDoor
