/- What every proof of this seat uses: the row's last step where the call made memory; small words on strings. -/
import Derived.Test.YtiolebpoofkpmaaGreatDoorRows
import Derived.WalkKit
import Derived.ProofKit
import Derived.OpenShut
import Derived.Outline
import Derived.WalkLawsBesides
import Derived.Handy
import Derived.Lib.Hide
import Derived.WalkSmall
import Derived.Stop.LaidErr
import Derived.OpenVars
import Derived.Carry
import Derived.BigQuiet
import Derived.Deep.QuietTactic
import Derived.Deep.RegionWith
import Derived.Deep.OwnRows
import Derived.OwnWalk
import Derived.Laws.AppendOwn
import Derived.Laws.BytesArg
import Derived.ChangeSlices
import Derived.RegionTactic
set_option linter.unusedVariables false
namespace Go.Proofs.YtiolebpoofkpmaaGreatDoor
open Go.ChangeShapes Go.WideShapes Go.ChangeAt Go.RowKit

section
variable {H : Type} {enc : TypeId × Value → H} {P : Program}
end

set_option maxRecDepth 100000 in
theorem val_int {k : IntKind} {a b : Int} (h : a = b) : Value.int k a = Value.int k b := by rw [h]
set_option maxRecDepth 100000 in
theorem ret_int {k : IntKind} {a b : Int} (h : a = b) : Ending.returned (.int k a) = .returned (.int k b) := by rw [h]
set_option maxRecDepth 100000 in
theorem ret_bool {a b : Bool} (h : a = b) : Ending.returned (.bool a) = .returned (.bool b) := by rw [h]
set_option maxRecDepth 100000 in
theorem ret_ok {a c : Int} {b d : Bool} (h : a = c) (h' : b = d) : Ending.returned (.tuple #[.int .i64 a, .bool b]) = .returned (.tuple #[.int .i64 c, .bool d]) := by rw [h, h']

set_option maxRecDepth 100000 in
theorem take_one (s : ByteArray) (k : Nat) (h : k < s.size) : s.data.toList.take (k + 1) = s.data.toList.take k ++ [s[k]] := by
  rw [List.take_succ_eq_append_getElem (by simpa using h)]; rfl
set_option maxRecDepth 100000 in
theorem take_end (s : ByteArray) (k : Nat) (h : ¬ k < s.size) : s.data.toList.take k = s.data.toList := List.take_of_length_le (by simp; omega)

/-- is the byte a digit? -/
def isDig (c : UInt8) : Bool := decide (48 ≤ c.toNat) && decide (c.toNat ≤ 57)
/-- is the string a number of digits, at least one? -/
def digs (s : ByteArray) : Bool := decide (0 < s.size) && s.data.toList.all isDig

set_option maxRecDepth 100000 in
theorem isDig_iff (c : UInt8) : isDig c = true ↔ 48 ≤ c.toNat ∧ c.toNat ≤ 57 := by simp [isDig]
set_option maxRecDepth 100000 in
theorem isDig_no (c : UInt8) : isDig c = false ↔ c.toNat < 48 ∨ 57 < c.toNat := by
  cases h : isDig c
  · simp only [true_iff]
    rcases Nat.lt_or_ge c.toNat 48 with h1 | h1
    · exact Or.inl h1
    · rcases Nat.lt_or_ge 57 c.toNat with h2 | h2
      · exact Or.inr h2
      · have := (isDig_iff c).2 ⟨h1, h2⟩; rw [h] at this; cases this
  · have := (isDig_iff c).1 h; simp; omega
set_option maxRecDepth 100000 in
theorem digs_yes (s : ByteArray) (k : Nat) (h : ¬ k < s.size) (h0 : 0 < s.size) (ha : (s.data.toList.take k).all isDig = true) : digs s = true := by
  rw [take_end s k h] at ha
  simp only [digs, ha, h0, decide_true, Bool.and_self]
set_option maxRecDepth 100000 in
theorem digs_empty (s : ByteArray) (h0 : ¬ 0 < s.size) : digs s = false := by simp [digs, h0]
set_option maxRecDepth 100000 in
theorem digs_no (s : ByteArray) (k : Nat) (h : k < s.size) (ha : isDig s[k] = false) : digs s = false := by
  have hm : s[k] ∈ s.data.toList := by
    have : s[k] = s.data.toList[k]'(by simpa using h) := rfl
    rw [this]; exact List.getElem_mem _
  have : s.data.toList.all isDig = false := by
    rw [List.all_eq_false]; exact ⟨_, hm, by simp [ha]⟩
  simp [digs, this]
set_option maxRecDepth 100000 in
theorem digs_end (s : ByteArray) (k : Nat) (h : ¬ k < s.size) (ha : (s.data.toList.take k).all isDig = true) : decide (0 < s.size) = digs s := by
  by_cases h0 : 0 < s.size
  · rw [digs_yes s k h h0 ha]; simpa using h0
  · rw [digs_empty s h0]; simpa using h0
set_option maxRecDepth 100000 in
theorem all_one (s : ByteArray) (k : Nat) (h : k < s.size) (ha : (s.data.toList.take k).all isDig = true) (hb : isDig s[k] = true) : (s.data.toList.take (k + 1)).all isDig = true := by
  rw [take_one s k h]; simp [ha, hb]
set_option maxRecDepth 100000 in
/-- each byte of a string of digits -/
theorem digs_get {s : ByteArray} (hd : digs s = true) (k : Nat) (h : k < s.size) : 48 ≤ s[k].toNat ∧ s[k].toNat ≤ 57 := by
  simp only [digs, Bool.and_eq_true, List.all_eq_true] at hd
  have : s[k] = s.data.toList[k]'(by simpa using h) := rfl
  exact (isDig_iff _).1 (hd.2 _ (by rw [this]; exact List.getElem_mem _))
set_option maxRecDepth 100000 in
theorem digs_pos {s : ByteArray} (hd : digs s = true) : 0 < s.size := by
  simp only [digs, Bool.and_eq_true, decide_eq_true_eq] at hd; exact hd.1

set_option maxRecDepth 100000 in
theorem not_empty (s : ByteArray) : (!s.toList.isEmpty) = decide (0 < s.size) := by
  rw [ByteArray.toList_eq]
  have h : s.size = s.data.toList.length := by simp
  rw [h]
  cases s.data.toList <;> simp
set_option maxRecDepth 100000 in
theorem below_iter (w : World) (s : ByteArray) (pos : Nat) : Below w.heap.size w (w.iter s pos) := (Below.refl _ _).alloc (Nat.le_refl _) _
end Go.Proofs.YtiolebpoofkpmaaGreatDoor
set_option linter.unusedVariables false
namespace Go.Proofs.YtiolebpoofkpmaaGreatDoor
open Go.ChangeShapes Go.WideShapes Go.ChangeAt Go.RowKit

section
variable {H : Type} {enc : TypeId × Value → H} {P : Program}
/-- every type can be read -/
def allRowed (P : Program) (ts : List TypeId) : Bool := ts.all fun t => P.readableRec t && decide (t < P.types.size)
set_option maxRecDepth 100000 in
theorem trodAll_below (hl : laidOutB P = true) {W W' : World} (hb : Below W.heap.size W W') :
    ∀ {ts : List TypeId} {vs : List Value} {ds : List (DataW H)} {ps : List MemPlace}, allRowed P ts = true → DataW.TrodAll enc P W 0 (fun _ => true) true ts vs ds ps → (∀ x ∈ ps, x.block < W.heap.size) →
      DataW.TrodAll enc P W' 0 (fun b => decide (b < W.heap.size)) true ts vs ds ps
  | [], vs, ds, ps, _, h, _ => by
    obtain ⟨rfl, rfl, rfl⟩ := trodAll_nil h
    exact trodAll_mk0
  | t :: ts, vs, ds, ps, hr, h, hlt => by
    obtain ⟨v0, vs0, d0, ds0, p0, q0, rfl, rfl, rfl, h0, r0⟩ := trodAll_cons h
    simp only [allRowed, List.all_cons, Bool.and_eq_true, decide_eq_true_eq] at hr
    exact trodAll_cons_mk (Below.trod hl hr.1.1 hr.1.2 h0 hb (fun x hx => hlt x (by simp [hx]))) (trodAll_below hl hb (by simpa [allRowed] using hr.2) r0 (fun x hx => hlt x (by simp [hx])))

set_option maxRecDepth 100000 in
theorem post_true {f : Func} {s : ChangeSpec} {apart fresh handsOn : Bool} {W W' : World} {args : Array Value} {ds gs : List (DataW H)} {before pv : List MemPlace} {tb : TypeId}
    (hl : laidOutB P = true) (hr : allRowed P f.params.toList = true) (hW : DataW.Whole enc P f.params.toList s.vars apart W args.toList ds gs before)
    (hfn : s.fn H (ds ++ gs) = { results := [.lit (.bool true)], args := ds, vars := gs }) (ht : f.resultTypes = #[tb]) (hu : P.underlying tb = some .bool)
    (hb : Below W.heap.size W W') (hvars : DataW.TrodVars enc P W' (fun b => decide (b < W.heap.size)) s.vars gs pv) :
    s.post enc P f apart fresh handsOn false W args (.bool true) W' := by
  have hW' := hW
  obtain ⟨p, q, hA, hV, rfl, _, _⟩ := hW
  have hlt := hW'.lt
  refine ⟨ds, gs, p ++ q, [], p, pv, hW', ?_, ?_, ?_, World.keptBut_mono (fun x hx => ?_) (hb.frame (fun _ => False)), fun h => by cases h⟩
  · rw [hfn, ht]
    exact trodAll_cons_mk (shut_bool hu true) trodAll_mk0
  · rw [hfn]
    exact trodAll_below hl hb hr hA (fun x hx => hlt x (by simp [hx]))
  · rw [hfn]
    exact hvars
  · exact hx.elim
end
end Go.Proofs.YtiolebpoofkpmaaGreatDoor
set_option linter.unusedVariables false
namespace Go.Proofs.YtiolebpoofkpmaaGreatDoor
open Go.ChangeShapes Go.WideShapes Go.ChangeAt Go.RowKit

/-- the slice v reads as the numbers l of kind K; its block lies below hi -/
def rd (K : IntKind) (hi : Nat) (w : World) (v : Value) (l : List Int) : Prop :=
  ∃ (A : Option Addr) (c : Nat), v = .slice A l.length c ∧ l.length ≤ c ∧ ∀ j, j < l.length → ∃ b off : Nat, A = some ⟨b, off, none⟩ ∧ b < hi ∧ w.cell? ⟨b, off + j, none⟩ = some (.int K (l.getD j 0))
/-- the same; its block lies from lo on; its cells may be written -/
def nums (K : IntKind) (lo hi : Nat) (w : World) (v : Value) (l : List Int) : Prop :=
  ∃ (A : Option Addr) (c : Nat), v = .slice A l.length c ∧ l.length ≤ c ∧ ∀ j, j < l.length → ∃ b off : Nat, A = some ⟨b, off, none⟩ ∧ lo ≤ b ∧ b < hi ∧ w.cell? ⟨b, off + j, none⟩ = some (.int K (l.getD j 0)) ∧ w.frozen? ⟨b, off + j, none⟩ = false
/-- the block of a slice that is not empty -/
def blk : Value → Option Nat
  | .slice (some a) (_ + 1) _ => some a.block
  | _ => none

set_option maxRecDepth 100000 in
theorem nums.rd {K : IntKind} {lo hi : Nat} {w : World} {v : Value} {l : List Int} (h : nums K lo hi w v l) : rd K hi w v l := by
  obtain ⟨A, c, rfl, hc, hj⟩ := h
  refine ⟨A, c, rfl, hc, fun j hl => ?_⟩
  obtain ⟨b, off, e, _, h2, h3, _⟩ := hj j hl
  exact ⟨b, off, e, h2, h3⟩
set_option maxRecDepth 100000 in
theorem rd.below {K : IntKind} {hi B : Nat} {w w' : World} {v : Value} {l : List Int} (h : rd K hi w v l) (hb : Below B w w') (hB : hi ≤ B) : rd K hi w' v l := by
  obtain ⟨A, c, rfl, hc, hj⟩ := h
  refine ⟨A, c, rfl, hc, fun j hl => ?_⟩
  obtain ⟨b, off, e, h2, h3⟩ := hj j hl
  exact ⟨b, off, e, h2, (hb.cell (p := ⟨b, _, none⟩) (Nat.lt_of_lt_of_le h2 hB)).trans h3⟩
set_option maxRecDepth 100000 in
theorem rd.mono {K : IntKind} {hi hi' : Nat} {w : World} {v : Value} {l : List Int} (h : rd K hi w v l) (hh : hi ≤ hi') : rd K hi' w v l := by
  obtain ⟨A, c, rfl, hc, hj⟩ := h
  refine ⟨A, c, rfl, hc, fun j hl => ?_⟩
  obtain ⟨b, off, e, h2, h3⟩ := hj j hl
  exact ⟨b, off, e, Nat.lt_of_lt_of_le h2 hh, h3⟩
set_option maxRecDepth 100000 in
theorem nums.below {K : IntKind} {lo hi B : Nat} {w w' : World} {v : Value} {l : List Int} (h : nums K lo hi w v l) (hb : Below B w w') (hB : hi ≤ B) : nums K lo hi w' v l := by
  obtain ⟨A, c, rfl, hc, hj⟩ := h
  refine ⟨A, c, rfl, hc, fun j hl => ?_⟩
  obtain ⟨b, off, e, h1, h2, h3, h4⟩ := hj j hl
  exact ⟨b, off, e, h1, h2, (hb.cell (p := ⟨b, _, none⟩) (Nat.lt_of_lt_of_le h2 hB)).trans h3, (hb.frozen (p := ⟨b, _, none⟩) (Nat.lt_of_lt_of_le h2 hB)).trans h4⟩
set_option maxRecDepth 100000 in
theorem nums.mono {K : IntKind} {lo lo' hi hi' : Nat} {w : World} {v : Value} {l : List Int} (h : nums K lo hi w v l) (hl : lo' ≤ lo) (hh : hi ≤ hi') : nums K lo' hi' w v l := by
  obtain ⟨A, c, rfl, hc, hj⟩ := h
  refine ⟨A, c, rfl, hc, fun j hl' => ?_⟩
  obtain ⟨b, off, e, h1, h2, h3⟩ := hj j hl'
  exact ⟨b, off, e, Nat.le_trans hl h1, Nat.lt_of_lt_of_le h2 hh, h3⟩
set_option maxRecDepth 100000 in
theorem nums.blk {K : IntKind} {lo hi : Nat} {w : World} {v : Value} {l : List Int} (h : nums K lo hi w v l) : ∀ k, blk v = some k → lo ≤ k ∧ k < hi := by
  obtain ⟨A, c, rfl, hc, hj⟩ := h
  intro k hk
  cases A with
  | none => simp [Proofs.YtiolebpoofkpmaaGreatDoor.blk] at hk
  | some a =>
    cases hn : l.length with
    | zero => rw [hn] at hk; simp [Proofs.YtiolebpoofkpmaaGreatDoor.blk] at hk
    | succ n =>
      rw [hn] at hk
      obtain ⟨b, off, e, h1, h2, _⟩ := hj 0 (by omega)
      simp only [Option.some.injEq] at e
      subst e
      simp only [Proofs.YtiolebpoofkpmaaGreatDoor.blk, Option.some.injEq] at hk
      subst hk
      exact ⟨h1, h2⟩
set_option maxRecDepth 100000 in
theorem nums.grown {K : IntKind} {lo hi : Nat} {w w' : World} {v : Value} {l : List Int} {row : Option Nat} (h : nums K lo hi w v l) (hg : w.grownBy w' row) (hh : hi ≤ w.heap.size) (hr : ∀ k, row = some k → k < lo ∨ hi ≤ k) : nums K lo hi w' v l := by
  obtain ⟨A, c, rfl, hc, hj⟩ := h
  refine ⟨A, c, rfl, hc, fun j hl' => ?_⟩
  obtain ⟨b, off, e, h1, h2, h3, h4⟩ := hj j hl'
  have hb : w'.heap[b]? = w.heap[b]? := hg.block b (by omega) (fun e => by have := hr b e.symm; omega)
  exact ⟨b, off, e, h1, h2, (World.cell?_of_block (a := ⟨b, _, none⟩) hb).trans h3, (World.frozen?_of_block (a := ⟨b, _, none⟩) hb).trans h4⟩
set_option maxRecDepth 100000 in
theorem map_getD {K : IntKind} {l : List Int} {j : Nat} (h : j < l.length) : (l.map (Value.int K))[j]? = some (.int K (l.getD j 0)) := by
  rw [List.getElem?_map, List.getElem?_eq_getElem h, List.getD_eq_getElem?_getD, List.getElem?_eq_getElem h]; rfl
set_option maxRecDepth 100000 in
theorem nums_of_own {K : IntKind} {lo : Nat} {w : World} {v : Value} {l : List Int} {e : TypeId} {n : Nat} (h : w.ownsRow lo e 1 v n (l.map (Value.int K))) : nums K lo w.heap.size w v l := by
  have hn : n = l.length := by have := h.1; simp at this; omega
  subst hn
  rcases h.2 with ⟨rfl, h0⟩ | ⟨g, cap, cur, rfl, hg, hh, h1, h2, h3, h4⟩
  · exact ⟨none, 0, by rw [h0], by omega, fun j hj => by omega⟩
  · refine ⟨_, cap, rfl, h1, fun j hj => ⟨g, 0, rfl, hg, (Array.getElem?_eq_some_iff.1 hh).1, ?_, ?_⟩⟩
    · have hc : w.cell? ⟨g, 0 + j, none⟩ = _ := h.cellAt (0 + j) (by omega)
      rw [hc, Nat.zero_add]
      exact map_getD hj
    · exact h.frozenAt (0 + j)
set_option maxRecDepth 100000 in
theorem nums_none (K : IntKind) (lo hi : Nat) (w : World) : nums K lo hi w (.slice none 0 0) [] := ⟨none, 0, rfl, Nat.le_refl _, fun j hj => by simp at hj⟩


/-- the marks from k on -/
def marksL (f : Int → Int) (k : Int) (n : Nat) : List Int := (List.range n).map fun (i : Nat) => f (k + (i : Int))
set_option maxRecDepth 100000 in
theorem marks_length (f : Int → Int) (k : Int) (n : Nat) : (marksL f k n).length = n := by simp [marksL]
set_option maxRecDepth 100000 in
theorem marks_getD (f : Int → Int) (k : Int) (n j : Nat) (h : j < n) : (marksL f k n).getD j 0 = f (k + j) := by simp [marksL, h]
/-- of n places the first i hold marks; all may be written -/
def mkd (K : IntKind) (f : Int → Int) (lo hi : Nat) (w : World) (A : Option Addr) (k : Int) (i n : Nat) : Prop :=
  ∀ j, j < n → ∃ b off : Nat, A = some ⟨b, off, none⟩ ∧ lo ≤ b ∧ b < hi ∧ w.frozen? ⟨b, off + j, none⟩ = false ∧ (∃ u, w.cell? ⟨b, off + j, none⟩ = some u) ∧ (j < i → w.cell? ⟨b, off + j, none⟩ = some (.int K (f (k + j))))
set_option maxRecDepth 100000 in
theorem mkd.start {K : IntKind} {f : Int → Int} {lo hi : Nat} {w : World} {A : Option Addr} {l : List Int} {k : Int}
    (h : ∀ j, j < l.length → ∃ b off : Nat, A = some ⟨b, off, none⟩ ∧ lo ≤ b ∧ b < hi ∧ w.cell? ⟨b, off + j, none⟩ = some (.int K (l.getD j 0)) ∧ w.frozen? ⟨b, off + j, none⟩ = false) : mkd K f lo hi w A k 0 l.length := fun j hj => by
  obtain ⟨b, off, e, h1, h2, h3, h4⟩ := h j hj
  exact ⟨b, off, e, h1, h2, h4, ⟨_, h3⟩, fun h => by omega⟩
set_option maxRecDepth 100000 in
theorem mkd.done {K : IntKind} {f : Int → Int} {lo hi : Nat} {w : World} {A : Option Addr} {c n : Nat} {k : Int} (h : mkd K f lo hi w A k n n) (hc : n ≤ c) : nums K lo hi w (.slice A n c) (marksL f k n) := by
  refine ⟨A, c, by rw [marks_length], by rw [marks_length]; exact hc, fun j hj => ?_⟩
  rw [marks_length] at hj
  obtain ⟨b, off, e, h1, h2, h4, _, h3⟩ := h j hj
  exact ⟨b, off, e, h1, h2, by rw [marks_getD f k n j hj]; exact h3 hj, h4⟩
set_option maxRecDepth 100000 in
theorem mkd.set {K : IntKind} {f : Int → Int} {lo hi : Nat} {w : World} {b off : Nat} {k : Int} {i n : Nat} {x : Int} (h : mkd K f lo hi w (some ⟨b, off, none⟩) k i n) (hi' : i < n) (hx : x = f (k + i)) : mkd K f lo hi (w.setCell ⟨b, off + i, none⟩ (.int K x)) (some ⟨b, off, none⟩) k (i + 1) n := by
  subst hx
  intro j hj
  have hf : ∀ a, (w.setCell ⟨b, off + i, none⟩ (.int K (f (k + i)))).frozen? a = w.frozen? a := fun a => by simp
  obtain ⟨b', off', e, h1, h2, h3, ⟨u, hu⟩, h5⟩ := h j hj
  simp only [Option.some.injEq, Addr.mk.injEq, and_true] at e
  obtain ⟨rfl, rfl⟩ := e
  refine ⟨b, off, rfl, h1, h2, (hf _).trans h3, ?_⟩
  by_cases e : i = j
  · subst e
    have := World.cell?_setCell_same w ⟨b, off + i, none⟩ (.int K (f (k + i))) hu
    exact ⟨⟨_, this⟩, fun _ => this⟩
  · have hne : ∀ x, (w.setCell ⟨b, off + i, none⟩ x).cell? ⟨b, off + j, none⟩ = w.cell? ⟨b, off + j, none⟩ := fun x => World.cell?_setCell_other _ _ _ _ (fun he => e (by have := congrArg Addr.off he; simp at this; omega))
    exact ⟨⟨u, (hne _).trans hu⟩, fun hlt => (hne _).trans (h5 (by omega))⟩
set_option maxRecDepth 100000 in
theorem grown_set {w w' : World} {b : Nat} (h : w.grownBy w' (some b)) (o : Nat) (x : Value) : w.grownBy (w'.setCell ⟨b, o, none⟩ x) (some b) :=
  ⟨h.os, h.tape, h.output, by simpa [World.setCell] using h.size, fun k hk hne => (Below.heap_setCell _ _ _ _ (fun e => hne (by rw [e]))).trans (h.block k hk hne)⟩
set_option maxRecDepth 100000 in
theorem grown_refl (w : World) (row : Option Nat) : w.grownBy w row := ⟨rfl, rfl, rfl, Nat.le_refl _, fun _ _ _ => rfl⟩
/-- of n cells of a row the first i hold these numbers -/
def part (K : IntKind) (b : Nat) (T : TypeId) (n : Nat) (w : World) (l : List Int) (i : Nat) : Prop := w.rowIs b T n (fun j => if j < i then .int K (l.getD j 0) else .int K 0)
set_option maxRecDepth 100000 in
theorem part.set {K : IntKind} {b : Nat} {T : TypeId} {n : Nat} {w : World} {l : List Int} {i : Nat} {x : Int} (h : part K b T n w l i) (hx : x = l.getD i 0) : part K b T n (w.setCell ⟨b, i, none⟩ (.int K x)) l (i + 1) := by
  refine (World.rowIs.set h i _).congr fun j hj => ?_
  by_cases e : j = i
  · subst e
    rw [if_pos rfl, if_pos (by omega), hx]
  · rw [if_neg e]
    by_cases h1 : j < i
    · rw [if_pos h1, if_pos (by omega)]
    · rw [if_neg h1, if_neg (by omega)]
set_option maxRecDepth 100000 in
theorem part.done {K : IntKind} {b lo : Nat} {T : TypeId} {w : World} {l : List Int} (h : part K b T l.length w l l.length) (hlo : lo ≤ b) : nums K lo w.heap.size w (.slice (some ⟨b, 0, none⟩) l.length l.length) l :=
  ⟨_, _, rfl, Nat.le_refl _, fun j hj => ⟨b, 0, rfl, hlo, World.rowIs.lt h, by
    have := World.rowIs.cell h (i := 0 + j) (by omega)
    rw [this, Nat.zero_add, if_pos hj], World.rowIs.frozen h _⟩⟩
set_option maxRecDepth 100000 in
theorem part.start {K : IntKind} {T : TypeId} {b n : Nat} {w : World} {l : List Int} (h : w.rowIs b T n (fun _ => .int K 0)) : part K b T n w l 0 := h.congr fun j _ => by rw [if_neg (by omega)]


set_option maxRecDepth 100000 in
theorem one_cellAt (w : World) (x : Value) (T : TypeId) : ∀ (j : Nat) (u : Value), [x][j]? = some u → (w.alloc (.cells #[x] T)).cell? ((⟨w.heap.size, 0, none⟩ : Addr).add j) = some u := by
  intro j u hu
  have hj : j = 0 := by have := (List.getElem?_eq_some_iff.1 hu).1; simp at this; omega
  subst hj
  have : x = u := by simpa using hu
  subst this
  have e : (⟨w.heap.size, 0, none⟩ : Addr).add 0 = ⟨w.heap.size, 0, none⟩ := by unfold Addr.add; rfl
  rw [e]
  simp
set_option maxRecDepth 100000 in
/-- append of one element of one cell onto a row of the call's own -/
theorem app_one {P : Program} {ops : Array Oper} {rest : List Oper} {o : Oper} {a : Act} {Q : Exit → Act → World → Prop} {α : Type} (f : α → Value) (hf : ∀ x, (f x).oneCell' = true)
    (t e : TypeId) (z : Value) (bytes : Nat) (ht : P.underlying t = some (.slice e)) (hinfo : (P.info? e).map (fun i => (i.zero, i.size, i.bytes)) = some (some z, 1, bytes)) (hzs : z.cells.size = 1)
    (s x : Operand) (hgd : o.guard = none) (ho : o.op = .call { callee := .builtin .append, args := #[s, x], argTypes := #[t, t] })
    (w0 W : World) (v : Value) (l : List α) (y : α) (hs : a.eval s = v) (hx : a.eval x = .slice (some ⟨W.heap.size, 0, none⟩) 1 1)
    (hown : W.ownsRow w0.heap.size e 1 v l.length (l.map f)) (hb : Below w0.heap.size w0 W) (h63 : l.length + 1 ≤ maxLen) (hbytes : (l.length + 1) * bytes ≤ 140737488355328)
    (h : ∀ v' w', w'.ownsRow w0.heap.size e 1 v' (l ++ [y]).length ((l ++ [y]).map f) → Below w0.heap.size w0 w' → wpList P ops Q rest (a.put o.dst v') w') : wpList P ops Q (o :: rest) a (W.alloc (.cells #[f y] e)) := by
  obtain ⟨i0, hi, hz0, hz1, hz2⟩ := info_parts hinfo
  refine wpList_append_own _ hgd s x t ho w0.heap.size e i0 z 1 bytes ht hi hz0 hz1 hz2 hzs (by decide) v l.length (l.map f) hs (hown.alloc _) ⟨W.heap.size, 0, none⟩ 1 1 [f y] hx rfl (one_cellAt W _ _) (fun u hu => by simp at hu; subst hu; exact hf y) h63 hbytes (by simp; have := hb.size; omega) ?_
  intro v' w1 hown' hgrow _
  refine h v' w1 ?_ ((hb.alloc hb.size (.cells #[f y] e)).grown hgrow (by simp; have := hb.size; omega) (fun k hk => ((hown.alloc (.cells #[f y] e)).lt k hk).1))
  rw [List.length_append, List.map_append]
  exact hown'
set_option maxRecDepth 100000 in
theorem int_one (K : IntKind) : ∀ x : Int, (Value.int K x).oneCell' = true := fun _ => rfl

/-- a row of the call's own, from block B on: it holds these numbers, and may be appended to -/
def ow (T : TypeId) (K : IntKind) (B : Nat) (w : World) (v : Value) (L : List Int) : Prop := w.ownsRow B T 1 v L.length (L.map (Value.int K))
set_option maxRecDepth 100000 in
theorem ow.nums {T : TypeId} {K : IntKind} {B : Nat} {w : World} {v : Value} {L : List Int} (h : ow T K B w v L) : nums K B w.heap.size w v L := nums_of_own h
set_option maxRecDepth 100000 in
theorem ow_none (T : TypeId) (K : IntKind) (B : Nat) (w : World) : ow T K B w (.slice none 0 0) [] := ⟨rfl, Or.inl ⟨rfl, rfl⟩⟩
set_option maxRecDepth 100000 in
theorem ow.mono {T : TypeId} {K : IntKind} {B B' : Nat} {w : World} {v : Value} {L : List Int} (h : ow T K B w v L) (hB : B' ≤ B) : ow T K B' w v L := by
  refine ⟨h.1, ?_⟩
  rcases h.2 with hn | ⟨g, cap, cur, rfl, hb, rest⟩
  · exact .inl hn
  · exact .inr ⟨g, cap, cur, rfl, Nat.le_trans hB hb, rest⟩
set_option maxRecDepth 100000 in
theorem ow.below {T : TypeId} {K : IntKind} {B C : Nat} {w w' : World} {v : Value} {L : List Int} (h : ow T K B w v L) (hb : Below C w w') (hC : w.heap.size ≤ C) : ow T K B w' v L := by
  refine ⟨h.1, ?_⟩
  rcases h.2 with hn | ⟨g, cap, cur, rfl, hB, hg, rest⟩
  · exact .inl hn
  · exact .inr ⟨g, cap, cur, rfl, hB, (hb.block g (Nat.lt_of_lt_of_le (Array.getElem?_eq_some_iff.1 hg).1 hC)).trans hg, rest⟩
def byteOf (z : Int) : UInt8 := UInt8.ofNat z.toNat
set_option maxRecDepth 100000 in
/-- the string of a slice of bytes -/
theorem str_of_rd {hi : Nat} {w : World} {v : Value} {l : List Int} (h : rd .u8 hi w v l) : (convert 22 9 v).run Tryz.prog w = .ok (.string ⟨(l.map byteOf).toArray⟩) w := by
  obtain ⟨A, c, rfl, hc, hj⟩ := h
  cases l with
  | nil =>
    cases A with
    | none => exact run_convert_bytes_nil w 22 5 Tryz.underlying22 Tryz.underlying5 0 c 9 Tryz.underlying9
    | some a =>
      show (convert 22 9 (.slice (some a) 0 c)).run Tryz.prog w = _
      rw [run_convert_bytes_string w 22 9 5 _ 0 c Tryz.underlying22 Tryz.underlying5 Tryz.underlying9, run_bytesToString w _ 0 c [] rfl]
      rfl
  | cons x l =>
    obtain ⟨b, off, rfl, -, -⟩ := hj 0 (by simp)
    have hj' : ∀ i, i < (x :: l).length → w.cell? ⟨b, off + i, none⟩ = some (.int .u8 ((x :: l).getD i 0)) := fun i hi => by
      obtain ⟨b', off', e, _, hc⟩ := hj i hi
      simp only [Option.some.injEq, Addr.mk.injEq, and_true] at e
      obtain ⟨rfl, rfl⟩ := e
      exact hc
    exact run_convert_bytes_arg w 22 5 Tryz.underlying22 Tryz.underlying5 b off (x :: l).length c (x :: l) rfl hj' 9 Tryz.underlying9
set_option maxRecDepth 100000 in
theorem str_of_own {w : World} {B : Nat} {T : TypeId} {n : Nat} {v : Value} {l : List Int} (h : w.ownsRow B T 1 v n (l.map (Value.int .u8))) : (convert 22 9 v).run Tryz.prog w = .ok (.string ⟨(l.map byteOf).toArray⟩) w := str_of_rd (nums_of_own h).rd
def isBytes (l : List Int) : Prop := ∀ z ∈ l, 0 ≤ z ∧ z ≤ 255
set_option maxRecDepth 100000 in
theorem isBytes.getD {l : List Int} (h : isBytes l) (k : Nat) : 0 ≤ l.getD k 0 ∧ l.getD k 0 ≤ 255 := by
  rw [List.getD_eq_getElem?_getD]
  cases hg : l[k]? with
  | none => simp
  | some z => exact h z (List.mem_of_getElem? hg)
def isInts (l : List Int) : Prop := ∀ z ∈ l, -9223372036854775808 ≤ z ∧ z ≤ 9223372036854775807
set_option maxRecDepth 100000 in
theorem isInts.getD {l : List Int} (h : isInts l) (k : Nat) : -9223372036854775808 ≤ l.getD k 0 ∧ l.getD k 0 ≤ 9223372036854775807 := by
  rw [List.getD_eq_getElem?_getD]
  cases hg : l[k]? with
  | none => simp
  | some z => exact h z (List.mem_of_getElem? hg)
set_option maxRecDepth 100000 in
theorem rd.form {K : IntKind} {hi : Nat} {w : World} {v : Value} {l : List Int} (h : rd K hi w v l) : ∃ A c, v = .slice A l.length c ∧ l.length ≤ c := by
  obtain ⟨A, c, rfl, hc, _⟩ := h
  exact ⟨A, c, rfl, hc⟩
set_option maxRecDepth 100000 in
theorem nums.form {K : IntKind} {lo hi : Nat} {w : World} {v : Value} {l : List Int} (h : nums K lo hi w v l) : ∃ A c, v = .slice A l.length c ∧ l.length ≤ c := h.rd.form
end Go.Proofs.YtiolebpoofkpmaaGreatDoor
set_option linter.unusedVariables false
namespace Go.Proofs.YtiolebpoofkpmaaGreatDoor
open Go.ChangeShapes Go.WideShapes Go.ChangeAt Go.RowKit Go.WideElems

set_option maxRecDepth 100000 in
theorem cellsNU8 : Tryz.prog.cellsOf 5 = 1 := by kernel_rfl
set_option maxRecDepth 100000 in
theorem open_rdBytes {H : Type} {enc : TypeId × Value → H} {W : World} {base : Nat} {v : Value} {d : DataW H} {p : List MemPlace} (hval : Value.okWide Tryz.prog W .any base 22 v) (h : DataW.Trod enc Tryz.prog W 0 (fun _ => true) true 22 v d p) : ∃ l, rd .u8 W.heap.size W v l ∧ isBytes l := by
  obtain ⟨ao, len, cap, rfl⟩ := okWide_slice Tryz.underlying22 hval
  obtain ⟨fuel, hf⟩ := h
  rcases open_ints Tryz.underlying22 Tryz.underlying5 cellsNU8 hf with ⟨hcs, hx⟩ | ⟨a, len', cap', zs, hcs, _, hl, hm, hz, hx, hcell, hwz⟩
  · simp only [Value.cells, List.cons.injEq, Value.slice.injEq, and_true] at hcs
    obtain ⟨rfl, rfl, rfl⟩ := hcs
    exact ⟨[], ⟨none, 0, rfl, Nat.le_refl _, fun j hj => by simp at hj⟩, fun z hz => by simp at hz⟩
  · simp only [Value.cells, List.cons.injEq, Value.slice.injEq, and_true] at hcs
    obtain ⟨rfl, rfl, rfl⟩ := hcs
    simp only [if_true] at hz
    have hlen : (zs.take len).length = len := by rw [List.length_take]; omega
    refine ⟨zs.take len, ⟨some a, cap, by rw [hlen], by omega, fun i hi => ?_⟩, fun z hzm => bounds_u8 (hwz z (List.mem_of_mem_take hzm))⟩
    rw [hlen] at hi
    obtain ⟨b, off, rfl, hc⟩ := ints_at hcell (by omega)
    have h0 := hc i (by omega)
    have hb : b < W.heap.size := by
      rcases Nat.lt_or_ge b W.heap.size with h' | h'
      · exact h'
      · simp [World.cell?, Array.getElem?_eq_none h'] at h0
    refine ⟨b, off, rfl, hb, ?_⟩
    rw [h0, List.getD_eq_getElem?_getD, List.getD_eq_getElem?_getD, List.getElem?_take_of_lt hi]
end Go.Proofs.YtiolebpoofkpmaaGreatDoor
set_option linter.unusedVariables false
namespace Go.Proofs.YtiolebpoofkpmaaGreatDoor
open Go.ChangeShapes Go.WideShapes Go.ChangeAt Go.RowKit

set_option maxRecDepth 100000 in
theorem specDigits_any (s : ByteArray) (w : World) (hs : s.size ≤ maxLen) :
    Calls Tryz.prog 38 #[.string s] w fun e w' => e = .returned (.bool (digs s)) ∧ w = w' := by
  unfold maxLen at hs
  go_enter Tryz.func38, Tryz.ntmps38
  go_wp2
  go_loop [3] (fun i => ∃ k : Nat, k ≤ s.size ∧ i = .int .i64 k ∧ (s.data.toList.take k).all isDig = true) (fun i => s.size - (intOf i).toNat)
  case atStart => exact ⟨0, Nat.zero_le _, rfl, rfl⟩
  case round =>
    obtain ⟨k, hk, rfl, ha0⟩ := hrel
    have ha := Lib.hid ha0
    clear ha0
    by_cases hlt : k < s.size
    · go_wp2
      · go_ret
        exact ⟨ret_bool (digs_no s k hlt ((isDig_no _).2 (by omega))).symm, rfl⟩
      · go_round
        case rel => exact ⟨k + 1, by omega, by go_num, all_one s k hlt ha.out ((isDig_iff _).2 (by omega))⟩
        case measure => simp [intOf] <;> omega
      · go_ret
        exact ⟨ret_bool (digs_no s k hlt ((isDig_no _).2 (by omega))).symm, rfl⟩
    · go_wp2
      go_ret
      exact ⟨ret_bool (digs_end s k hlt ha.out), rfl⟩

end Go.Proofs.YtiolebpoofkpmaaGreatDoor
set_option linter.unusedVariables false
namespace Go.Proofs.YtiolebpoofkpmaaGreatDoor
open Go.ChangeShapes Go.WideShapes Go.ChangeAt Go.RowKit

/-- is the number of a character a digit's? -/
def runeDig (r : Int) : Bool := decide (48 ≤ r) && decide (r ≤ 57)
set_option maxRecDepth 100000 in
theorem isDigit_any (r : Int) (w : World) : Calls Tryz.prog 94 #[.int .i32 r] w fun e w' => e = .returned (.bool (runeDig r)) ∧ w = w' := by
  by_cases h0 : 48 ≤ r
  all_goals
    go_enter Tryz.func94, Tryz.ntmps94
    go_wp2
    go_ret
    exact ⟨by simp [runeDig]; omega, rfl⟩

set_option maxRecDepth 100000 in
/-- The character at a place: a digit there, or none. -/
theorem rune_dig (s : ByteArray) (pos : Nat) (h : pos < s.size) (hd : isDig s[pos] = true) : Utf8.decode s pos = (s[pos].toNat, 1) ∧ runeDig (s[pos].toNat : Int) = true := by
  have h1 := (isDig_iff _).1 hd
  exact ⟨decode_ascii s pos h (by omega), by simp [runeDig]; omega⟩
set_option maxRecDepth 100000 in
theorem rune_not (s : ByteArray) (pos : Nat) (h : pos < s.size) (hd : isDig s[pos] = false) : runeDig ((Utf8.decode s pos).1 : Int) = false := by
  have h1 := (isDig_no _).1 hd
  rcases Nat.lt_or_ge s[pos].toNat 128 with h2 | h2
  · rw [decode_ascii s pos h h2]; simp [runeDig]; omega
  · have := (decode_high s pos h h2).1; simp [runeDig]; omega

end Go.Proofs.YtiolebpoofkpmaaGreatDoor
set_option linter.unusedVariables false
namespace Go.Proofs.YtiolebpoofkpmaaGreatDoor
open Go.ChangeShapes Go.WideShapes Go.ChangeAt Go.RowKit

set_option maxRecDepth 100000 in
theorem implDigits_any (s : ByteArray) (w : World) (hs : s.size ≤ maxLen) :
    Calls Tryz.prog 72 #[.string s] w fun e w' => e = .returned (.bool (digs s)) ∧ Below w.heap.size w w' := by
  unfold maxLen at hs
  go_enter Tryz.func72, Tryz.ntmps72
  go_wp2
  go_loopw [2] (fun _ wr => ∃ k : Nat, k ≤ s.size ∧ wr = w.iter s k ∧ (s.data.toList.take k).all isDig = true) (fun _ wr => s.size - wr.iterPos w.heap.size)
  case atStart => exact ⟨0, Nat.zero_le _, rfl, rfl⟩
  case round =>
    obtain ⟨k, hk, rfl, ha0⟩ := hrel
    have ha := Lib.hid ha0
    clear ha0
    by_cases hlt : k < s.size
    · cases hd : isDig s[k]
      · have hr := rune_not s k hlt hd
        have hnx : ∀ ty, (Instr.next (.pointer (some ⟨w.heap.size, 0, none⟩)) true ty).run Tryz.prog (w.iter s k) = _ := fun ty => run_next_any w s k ty hlt
        generalize hq : Utf8.decode s k = q at hnx hr
        obtain ⟨r, wd⟩ := q
        clear hq
        go_wp2_with (go_at_call 94; refine (isDigit_any _ _).mono ?_; rintro e w' ⟨rfl, rfl⟩)
        go_ret
        exact ⟨ret_bool (digs_no s k hlt hd).symm, below_iter _ _ _⟩
      · obtain ⟨hdec, hr⟩ := rune_dig s k hlt hd
        have hnx : ∀ ty, (Instr.next (.pointer (some ⟨w.heap.size, 0, none⟩)) true ty).run Tryz.prog (w.iter s k) = _ := fun ty => run_next_any w s k ty hlt
        rw [hdec] at hnx
        have hb := Lib.hid (all_one s k hlt ha.out hd)
        clear hdec hd
        go_wp2_with (go_at_call 94; refine (isDigit_any _ _).mono ?_; rintro e w' ⟨rfl, rfl⟩)
        go_roundw
        case rel => exact ⟨k + 1, by omega, rfl, hb.out⟩
        case measure => simp <;> omega
    · have hnx : ∀ ty, (Instr.next (.pointer (some ⟨w.heap.size, 0, none⟩)) true ty).run Tryz.prog (w.iter s k) = _ := fun ty => run_next_end w s k ty hlt
      go_wp2
      go_ret
      exact ⟨ret_bool ((not_empty s).trans (digs_end s k hlt ha.out)), below_iter _ _ _⟩
end Go.Proofs.YtiolebpoofkpmaaGreatDoor
set_option linter.unusedVariables false
namespace Go.Proofs.YtiolebpoofkpmaaGreatDoor
open Go.ChangeShapes Go.WideShapes Go.ChangeAt Go.RowKit

set_option maxRecDepth 100000 in
theorem four {s : ByteArray} (h : s.size = 4) : ∃ a b c d, s = ⟨#[a, b, c, d]⟩ := by
  obtain ⟨⟨l⟩⟩ := s
  match l, h with
  | [a, b, c, d], _ => exact ⟨a, b, c, d, rfl⟩
def mtiKn (s : ByteArray) : Bool := s.toList == [48, 49, 48, 48] || s.toList == [48, 50, 48, 48] || s.toList == [48, 50, 50, 48]
end Go.Proofs.YtiolebpoofkpmaaGreatDoor
set_option linter.unusedVariables false
namespace Go.Proofs.YtiolebpoofkpmaaGreatDoor
open Go.ChangeShapes Go.WideShapes Go.ChangeAt Go.RowKit

set_option maxRecDepth 100000 in
theorem conv_one (W : World) (c : Int) (T : TypeId) : (convert 22 9 (.slice (some ⟨W.heap.size, 0, none⟩) 1 1)).run Tryz.prog (W.alloc (.cells #[.int .u8 c] T)) = .ok (.string ⟨#[UInt8.ofNat c.toNat]⟩) (W.alloc (.cells #[.int .u8 c] T)) := by
  have h := run_convert_bytes_arg (P := Tryz.prog) (W.alloc (.cells #[.int .u8 c] T)) 22 5 Tryz.underlying22 Tryz.underlying5 W.heap.size 0 1 1 [c] rfl
    (fun i hi => by
      obtain rfl : i = 0 := by omega
      simp) 9 Tryz.underlying9
  exact h
end Go.Proofs.YtiolebpoofkpmaaGreatDoor
set_option linter.unusedVariables false
namespace Go.Proofs.YtiolebpoofkpmaaGreatDoor
open Go.ChangeShapes Go.WideShapes Go.ChangeAt Go.RowKit

/-- block p holds these texts -/
def strsAt (w : World) (p : Nat) (L : List (List UInt8)) : Prop := ∀ (j : Nat) (x : List UInt8), L[j]? = some x → w.cell? ⟨p, j, none⟩ = some (.string ⟨x.toArray⟩)
set_option maxRecDepth 100000 in
theorem strs_at (w : World) (T : TypeId) (L : List (List UInt8)) (us : Array Value) (hu : us = (L.map fun x => Value.string ⟨x.toArray⟩).toArray) : strsAt (w.alloc (.cells us T)) w.heap.size L := by
  subst hu
  intro j x hx
  rw [cell_of_row _ _ j _ _ (0, 0) (heap_alloc_new _ _)]
  simp [hx]
set_option maxRecDepth 100000 in
theorem str_no {a b : ByteArray} (h : a ≠ b) : (a.toList == b.toList) = false := by
  rw [beq_eq_false_iff_ne, ByteArray.toList_eq, ByteArray.toList_eq]
  intro e
  exact h (ByteArray.ext (Array.toList_inj.1 e))
set_option maxRecDepth 100000 in
theorem specIn_any (n lo hi : Int) (w : World) : Calls Tryz.prog 44 #[.int .i64 n, .int .i64 lo, .int .i64 hi] w fun e w' => e = .returned (.bool (decide (lo ≤ n ∧ n ≤ hi))) ∧ w = w' := by
  by_cases h0 : lo ≤ n
  · by_cases h1 : n ≤ hi
    · have hd : Hid (decide (lo ≤ n ∧ n ≤ hi) = true) := Lib.hid (by simp [h0, h1])
      rw [hd.out]
      go_enter Tryz.func44, Tryz.ntmps44
      go_wp2
      go_ret
      exact ⟨rfl, rfl⟩
    · have hd : Hid (decide (lo ≤ n ∧ n ≤ hi) = false) := Lib.hid (by simp [h1])
      rw [hd.out]
      go_enter Tryz.func44, Tryz.ntmps44
      go_wp2
      go_ret
      exact ⟨rfl, rfl⟩
  · have hd : Hid (decide (lo ≤ n ∧ n ≤ hi) = false) := Lib.hid (by simp [h0])
    rw [hd.out]
    go_enter Tryz.func44, Tryz.ntmps44
    go_wp2
    go_ret
    exact ⟨rfl, rfl⟩
set_option maxRecDepth 100000 in
theorem specMtiKnown_any (s : ByteArray) (w : World) : Calls Tryz.prog 22 #[.string s] w fun e w' => e = .returned (.bool (mtiKn s)) ∧ w = w' := by
  have HM : Hid (mtiKn s = (s.toList == [48, 49, 48, 48] || s.toList == [48, 50, 48, 48] || s.toList == [48, 50, 50, 48])) := Lib.hid rfl
  go_enter Tryz.func22, Tryz.ntmps22
  go_wp2
  all_goals go_ret
  all_goals (refine ⟨?_, rfl⟩; rw [HM.out]; simp_all)
end Go.Proofs.YtiolebpoofkpmaaGreatDoor
set_option linter.unusedVariables false
namespace Go.Proofs.YtiolebpoofkpmaaGreatDoor
open Go.ChangeShapes Go.WideShapes Go.ChangeAt Go.RowKit

/-- row by row: type, code, name -/
def opRows : List (List (List UInt8)) := [[[], [], []], [[48, 49, 48, 48], [48, 48], [97, 117, 116, 104]], [[48, 49, 48, 48], [48, 50], [109, 111, 114, 101]], [[48, 50, 50, 48], [48, 49], [112, 97, 114, 116]], [[48, 50, 50, 48], [48, 48], [102, 105, 110, 97, 108]], [[48, 50, 50, 48], [50, 48], [102, 114, 101, 101]], [[48, 50, 48, 48], [52, 48], [109, 111, 118, 101]], [[48, 49, 48, 48], [51, 49], [97, 115, 107]], [[48, 50, 48, 48], [57, 48], [115, 119, 101, 101, 112]]]
def opB (k i : Nat) : List UInt8 := (opRows.getD i []).getD k []
/-- text k of operation op, or the empty one -/
def opTxt (k : Nat) (op : Int) : ByteArray := if 0 ≤ op then ⟨(opB k op.toNat).toArray⟩ else ⟨#[]⟩
def isOp (op : Int) : Bool := decide (1 ≤ op ∧ op ≤ 8)
set_option maxRecDepth 100000 in
theorem opTxt_nat (k i : Nat) : opTxt k (i : Int) = ⟨(opB k i).toArray⟩ := by simp [opTxt]
set_option maxRecDepth 100000 in
theorem opTxt_neg (k : Nat) {op : Int} (h : op < 0) : opTxt k op = ⟨#[]⟩ := by simp [opTxt]; omega
set_option maxRecDepth 100000 in
theorem opTxt_out (k : Nat) {op : Int} (h : ¬ (1 ≤ op ∧ op ≤ 8)) : opTxt k op = ⟨#[]⟩ := by
  by_cases h0 : op < 0
  · exact opTxt_neg k h0
  · obtain ⟨i, rfl⟩ := Int.eq_ofNat_of_zero_le (show 0 ≤ op by omega)
    rw [opTxt_nat]
    by_cases hi : i = 0
    · subst hi
      unfold opB
      match k with
      | 0 => rfl
      | 1 => rfl
      | 2 => rfl
      | k + 3 => rfl
    · have h9 : 9 ≤ i := by omega
      have e : opRows.getD i [] = [] := by rw [List.getD_eq_getElem?_getD, List.getElem?_eq_none (show opRows.length ≤ i from h9)]; rfl
      unfold opB
      rw [e]
      simp
set_option maxRecDepth 100000 in
theorem op_cases {op : Int} (h : 1 ≤ op ∧ op ≤ 8) : op = 1 ∨ op = 2 ∨ op = 3 ∨ op = 4 ∨ op = 5 ∨ op = 6 ∨ op = 7 ∨ op = 8 := by omega

set_option maxRecDepth 100000 in
theorem l11Op_any (op : Int) (w : World) : Calls Tryz.prog 49 #[.int .i64 op] w fun e w' => e = .returned (.bool (isOp op)) ∧ w = w' := by
  have HI := Lib.hid (specIn_any op 1 8)
  go_enter Tryz.func49, Tryz.ntmps49
  go_wp2_with fail
  refine (HI.out _).mono ?_
  rintro e w1 ⟨rfl, rfl⟩
  go_wp2
  go_ret
  exact ⟨congrArg (fun b => Ending.returned (.bool b)) (by simp [isOp]), rfl⟩
def opCol (k : Nat) : List (List UInt8) := opRows.map fun r => r.getD k []
set_option maxRecDepth 100000 in
theorem opCol_at (k : Nat) {op : Int} (h : 1 ≤ op ∧ op ≤ 8) : (opCol k)[op.toNat]? = some (opB k op.toNat) := by
  have hl : op.toNat < opRows.length := by show op.toNat < 9; omega
  simp [opCol, opB, List.getElem?_eq_getElem hl]
set_option maxRecDepth 100000 in
theorem specMtis_any (w : World) : Calls Tryz.prog 67 #[] w fun e w' => e = .returned (.slice (some ⟨w.heap.size, 0, none⟩) 9 9) ∧ strsAt w' w.heap.size (opCol 0) ∧ Below w.heap.size w w' ∧ w.heap.size < w'.heap.size := by
  go_enter Tryz.func67, Tryz.ntmps67
  go_wp2
  go_ret
  exact ⟨rfl, strs_at _ _ (opCol 0) _ (by rfl), (Below.refl _ _).alloc (Nat.le_refl _) _, by simp⟩
set_option maxRecDepth 100000 in
theorem specCodes_any (w : World) : Calls Tryz.prog 68 #[] w fun e w' => e = .returned (.slice (some ⟨w.heap.size, 0, none⟩) 9 9) ∧ strsAt w' w.heap.size (opCol 1) ∧ Below w.heap.size w w' ∧ w.heap.size < w'.heap.size := by
  go_enter Tryz.func68, Tryz.ntmps68
  go_wp2
  go_ret
  exact ⟨rfl, strs_at _ _ (opCol 1) _ (by rfl), (Below.refl _ _).alloc (Nat.le_refl _) _, by simp⟩
set_option maxRecDepth 100000 in
theorem specOpMti_any (op : Int) (w : World) : Calls Tryz.prog 47 #[.int .i64 op] w fun e w' => e = .returned (.string (opTxt 0 op)) ∧ Below w.heap.size w w' := by
  have HI := Lib.hid (l11Op_any op)
  by_cases h : 1 ≤ op ∧ op ≤ 8
  · obtain ⟨i, rfl⟩ := Int.eq_ofNat_of_zero_le (show 0 ≤ op by omega)
    have hI : isOp (i : Int) = true := decide_eq_true h
    rw [hI] at HI
    rw [opTxt_nat]
    have HX := Lib.hid (opCol_at 0 h)
    have g0 : 0 ≤ (i : Int) := by omega
    have g1 : (i : Int) < 9 := by omega
    clear h hI
    go_enter Tryz.func47, Tryz.ntmps47
    go_wp2_with fail
    refine (HI.out _).mono ?_
    rintro e w1 ⟨rfl, rfl⟩
    go_wp2_with fail
    refine (specMtis_any _).mono ?_
    rintro e w2 ⟨rfl, hst, hb, hz⟩
    have hc := hst i _ HX.out
    clear hst
    go_wp2
    go_ret
    exact ⟨rfl, hb⟩
  · have hI : isOp op = false := decide_eq_false h
    rw [opTxt_out 0 h]
    rw [hI] at HI
    clear h hI
    go_enter Tryz.func47, Tryz.ntmps47
    go_wp2_with fail
    refine (HI.out _).mono ?_
    rintro e w1 ⟨rfl, rfl⟩
    go_wp2
    go_ret
    exact ⟨rfl, Below.refl _ _⟩
set_option maxRecDepth 100000 in
theorem specOpCode_any (op : Int) (w : World) : Calls Tryz.prog 48 #[.int .i64 op] w fun e w' => e = .returned (.string (opTxt 1 op)) ∧ Below w.heap.size w w' := by
  have HI := Lib.hid (l11Op_any op)
  by_cases h : 1 ≤ op ∧ op ≤ 8
  · obtain ⟨i, rfl⟩ := Int.eq_ofNat_of_zero_le (show 0 ≤ op by omega)
    have hI : isOp (i : Int) = true := decide_eq_true h
    rw [hI] at HI
    rw [opTxt_nat]
    have HX := Lib.hid (opCol_at 1 h)
    have g0 : 0 ≤ (i : Int) := by omega
    have g1 : (i : Int) < 9 := by omega
    clear h hI
    go_enter Tryz.func48, Tryz.ntmps48
    go_wp2_with fail
    refine (HI.out _).mono ?_
    rintro e w1 ⟨rfl, rfl⟩
    go_wp2_with fail
    refine (specCodes_any _).mono ?_
    rintro e w2 ⟨rfl, hst, hb, hz⟩
    have hc := hst i _ HX.out
    clear hst
    go_wp2
    go_ret
    exact ⟨rfl, hb⟩
  · have hI : isOp op = false := decide_eq_false h
    rw [opTxt_out 1 h]
    rw [hI] at HI
    clear h hI
    go_enter Tryz.func48, Tryz.ntmps48
    go_wp2_with fail
    refine (HI.out _).mono ?_
    rintro e w1 ⟨rfl, rfl⟩
    go_wp2
    go_ret
    exact ⟨rfl, Below.refl _ _⟩
end Go.Proofs.YtiolebpoofkpmaaGreatDoor
