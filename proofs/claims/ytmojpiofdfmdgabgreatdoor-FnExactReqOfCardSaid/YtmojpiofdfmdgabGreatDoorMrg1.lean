/- What every proof of this seat uses: the row's last step where the call made memory; small words on strings. -/
import Derived.Test.YtmojpiofdfmdgabGreatDoorRows
import Derived.WalkKit
import Derived.ProofKit
import Derived.OpenShut
import Derived.Outline
import Derived.WalkLawsBesides
import Derived.Handy
import Derived.Lib.Hide
import Derived.WalkSmall
import Derived.Stop.LaidErr
import Derived.OpenVars
import Derived.Carry
import Derived.BigQuiet
import Derived.Deep.QuietTactic
import Derived.Deep.RegionWith
import Derived.Deep.OwnRows
import Derived.OwnWalk
import Derived.Laws.AppendOwn
import Derived.Laws.BytesArg
import Derived.ChangeArms
import Derived.Deep.Slices
import Derived.Laws.MakeOwn
set_option linter.unusedVariables false
namespace Go.Proofs.YtmojpiofdfmdgabGreatDoor
open Go.ChangeShapes Go.WideShapes Go.ChangeAt Go.RowKit

section
variable {H : Type} {enc : TypeId × Value → H} {P : Program}
end

set_option maxRecDepth 100000 in
theorem val_int {k : IntKind} {a b : Int} (h : a = b) : Value.int k a = Value.int k b := by rw [h]
set_option maxRecDepth 100000 in
theorem ret_int {k : IntKind} {a b : Int} (h : a = b) : Ending.returned (.int k a) = .returned (.int k b) := by rw [h]
set_option maxRecDepth 100000 in
theorem ret_bool {a b : Bool} (h : a = b) : Ending.returned (.bool a) = .returned (.bool b) := by rw [h]
set_option maxRecDepth 100000 in
theorem ret_ok {a c : Int} {b d : Bool} (h : a = c) (h' : b = d) : Ending.returned (.tuple #[.int .i64 a, .bool b]) = .returned (.tuple #[.int .i64 c, .bool d]) := by rw [h, h']

set_option maxRecDepth 100000 in
theorem take_one (s : ByteArray) (k : Nat) (h : k < s.size) : s.data.toList.take (k + 1) = s.data.toList.take k ++ [s[k]] := by
  rw [List.take_succ_eq_append_getElem (by simpa using h)]; rfl
set_option maxRecDepth 100000 in
theorem take_end (s : ByteArray) (k : Nat) (h : ¬ k < s.size) : s.data.toList.take k = s.data.toList := List.take_of_length_le (by simp; omega)

/-- is the byte a digit? -/
def isDig (c : UInt8) : Bool := decide (48 ≤ c.toNat) && decide (c.toNat ≤ 57)
/-- is the string a number of digits, at least one? -/
def digs (s : ByteArray) : Bool := decide (0 < s.size) && s.data.toList.all isDig

set_option maxRecDepth 100000 in
theorem isDig_iff (c : UInt8) : isDig c = true ↔ 48 ≤ c.toNat ∧ c.toNat ≤ 57 := by simp [isDig]
set_option maxRecDepth 100000 in
theorem isDig_no (c : UInt8) : isDig c = false ↔ c.toNat < 48 ∨ 57 < c.toNat := by
  cases h : isDig c
  · simp only [true_iff]
    rcases Nat.lt_or_ge c.toNat 48 with h1 | h1
    · exact Or.inl h1
    · rcases Nat.lt_or_ge 57 c.toNat with h2 | h2
      · exact Or.inr h2
      · have := (isDig_iff c).2 ⟨h1, h2⟩; rw [h] at this; cases this
  · have := (isDig_iff c).1 h; simp; omega
set_option maxRecDepth 100000 in
theorem digs_yes (s : ByteArray) (k : Nat) (h : ¬ k < s.size) (h0 : 0 < s.size) (ha : (s.data.toList.take k).all isDig = true) : digs s = true := by
  rw [take_end s k h] at ha
  simp only [digs, ha, h0, decide_true, Bool.and_self]
set_option maxRecDepth 100000 in
theorem digs_empty (s : ByteArray) (h0 : ¬ 0 < s.size) : digs s = false := by simp [digs, h0]
set_option maxRecDepth 100000 in
theorem digs_no (s : ByteArray) (k : Nat) (h : k < s.size) (ha : isDig s[k] = false) : digs s = false := by
  have hm : s[k] ∈ s.data.toList := by
    have : s[k] = s.data.toList[k]'(by simpa using h) := rfl
    rw [this]; exact List.getElem_mem _
  have : s.data.toList.all isDig = false := by
    rw [List.all_eq_false]; exact ⟨_, hm, by simp [ha]⟩
  simp [digs, this]
set_option maxRecDepth 100000 in
theorem digs_end (s : ByteArray) (k : Nat) (h : ¬ k < s.size) (ha : (s.data.toList.take k).all isDig = true) : decide (0 < s.size) = digs s := by
  by_cases h0 : 0 < s.size
  · rw [digs_yes s k h h0 ha]; simpa using h0
  · rw [digs_empty s h0]; simpa using h0
set_option maxRecDepth 100000 in
theorem all_one (s : ByteArray) (k : Nat) (h : k < s.size) (ha : (s.data.toList.take k).all isDig = true) (hb : isDig s[k] = true) : (s.data.toList.take (k + 1)).all isDig = true := by
  rw [take_one s k h]; simp [ha, hb]
set_option maxRecDepth 100000 in
/-- each byte of a string of digits -/
theorem digs_get {s : ByteArray} (hd : digs s = true) (k : Nat) (h : k < s.size) : 48 ≤ s[k].toNat ∧ s[k].toNat ≤ 57 := by
  simp only [digs, Bool.and_eq_true, List.all_eq_true] at hd
  have : s[k] = s.data.toList[k]'(by simpa using h) := rfl
  exact (isDig_iff _).1 (hd.2 _ (by rw [this]; exact List.getElem_mem _))
set_option maxRecDepth 100000 in
theorem digs_pos {s : ByteArray} (hd : digs s = true) : 0 < s.size := by
  simp only [digs, Bool.and_eq_true, decide_eq_true_eq] at hd; exact hd.1

set_option maxRecDepth 100000 in
theorem not_empty (s : ByteArray) : (!s.toList.isEmpty) = decide (0 < s.size) := by
  rw [ByteArray.toList_eq]
  have h : s.size = s.data.toList.length := by simp
  rw [h]
  cases s.data.toList <;> simp
set_option maxRecDepth 100000 in
theorem below_iter (w : World) (s : ByteArray) (pos : Nat) : Below w.heap.size w (w.iter s pos) := (Below.refl _ _).alloc (Nat.le_refl _) _
end Go.Proofs.YtmojpiofdfmdgabGreatDoor
set_option linter.unusedVariables false
namespace Go.Proofs.YtmojpiofdfmdgabGreatDoor
open Go.ChangeShapes Go.WideShapes Go.ChangeAt Go.RowKit

section
variable {H : Type} {enc : TypeId × Value → H} {P : Program}
/-- every type can be read -/
def allRowed (P : Program) (ts : List TypeId) : Bool := ts.all fun t => P.readableRec t && decide (t < P.types.size)
set_option maxRecDepth 100000 in
theorem trodAll_below (hl : laidOutB P = true) {W W' : World} (hb : Below W.heap.size W W') :
    ∀ {ts : List TypeId} {vs : List Value} {ds : List (DataW H)} {ps : List MemPlace}, allRowed P ts = true → DataW.TrodAll enc P W 0 (fun _ => true) true ts vs ds ps → (∀ x ∈ ps, x.block < W.heap.size) →
      DataW.TrodAll enc P W' 0 (fun b => decide (b < W.heap.size)) true ts vs ds ps
  | [], vs, ds, ps, _, h, _ => by
    obtain ⟨rfl, rfl, rfl⟩ := trodAll_nil h
    exact trodAll_mk0
  | t :: ts, vs, ds, ps, hr, h, hlt => by
    obtain ⟨v0, vs0, d0, ds0, p0, q0, rfl, rfl, rfl, h0, r0⟩ := trodAll_cons h
    simp only [allRowed, List.all_cons, Bool.and_eq_true, decide_eq_true_eq] at hr
    exact trodAll_cons_mk (Below.trod hl hr.1.1 hr.1.2 h0 hb (fun x hx => hlt x (by simp [hx]))) (trodAll_below hl hb (by simpa [allRowed] using hr.2) r0 (fun x hx => hlt x (by simp [hx])))

set_option maxRecDepth 100000 in
theorem post_true {f : Func} {s : ChangeSpec} {apart fresh handsOn : Bool} {W W' : World} {args : Array Value} {ds gs : List (DataW H)} {before pv : List MemPlace} {tb : TypeId}
    (hl : laidOutB P = true) (hr : allRowed P f.params.toList = true) (hW : DataW.Whole enc P f.params.toList s.vars apart W args.toList ds gs before)
    (hfn : s.fn H (ds ++ gs) = { results := [.lit (.bool true)], args := ds, vars := gs }) (ht : f.resultTypes = #[tb]) (hu : P.underlying tb = some .bool)
    (hb : Below W.heap.size W W') (hvars : DataW.TrodVars enc P W' (fun b => decide (b < W.heap.size)) s.vars gs pv) :
    s.post enc P f apart fresh handsOn false W args (.bool true) W' := by
  have hW' := hW
  obtain ⟨p, q, hA, hV, rfl, _, _⟩ := hW
  have hlt := hW'.lt
  refine ⟨ds, gs, p ++ q, [], p, pv, hW', ?_, ?_, ?_, World.keptBut_mono (fun x hx => ?_) (hb.frame (fun _ => False)), fun h => by cases h⟩
  · rw [hfn, ht]
    exact trodAll_cons_mk (shut_bool hu true) trodAll_mk0
  · rw [hfn]
    exact trodAll_below hl hb hr hA (fun x hx => hlt x (by simp [hx]))
  · rw [hfn]
    exact hvars
  · exact hx.elim
end
end Go.Proofs.YtmojpiofdfmdgabGreatDoor
set_option linter.unusedVariables false
namespace Go.Proofs.YtmojpiofdfmdgabGreatDoor
open Go.ChangeShapes Go.WideShapes Go.ChangeAt Go.RowKit

/-- the slice v reads as the numbers l of kind K; its block lies below hi -/
def rd (K : IntKind) (hi : Nat) (w : World) (v : Value) (l : List Int) : Prop :=
  ∃ (A : Option Addr) (c : Nat), v = .slice A l.length c ∧ l.length ≤ c ∧ ∀ j, j < l.length → ∃ b off : Nat, A = some ⟨b, off, none⟩ ∧ b < hi ∧ w.cell? ⟨b, off + j, none⟩ = some (.int K (l.getD j 0))
/-- the same; its block lies from lo on; its cells may be written -/
def nums (K : IntKind) (lo hi : Nat) (w : World) (v : Value) (l : List Int) : Prop :=
  ∃ (A : Option Addr) (c : Nat), v = .slice A l.length c ∧ l.length ≤ c ∧ ∀ j, j < l.length → ∃ b off : Nat, A = some ⟨b, off, none⟩ ∧ lo ≤ b ∧ b < hi ∧ w.cell? ⟨b, off + j, none⟩ = some (.int K (l.getD j 0)) ∧ w.frozen? ⟨b, off + j, none⟩ = false
/-- the block of a slice that is not empty -/
def blk : Value → Option Nat
  | .slice (some a) (_ + 1) _ => some a.block
  | _ => none

set_option maxRecDepth 100000 in
theorem nums.rd {K : IntKind} {lo hi : Nat} {w : World} {v : Value} {l : List Int} (h : nums K lo hi w v l) : rd K hi w v l := by
  obtain ⟨A, c, rfl, hc, hj⟩ := h
  refine ⟨A, c, rfl, hc, fun j hl => ?_⟩
  obtain ⟨b, off, e, _, h2, h3, _⟩ := hj j hl
  exact ⟨b, off, e, h2, h3⟩
set_option maxRecDepth 100000 in
theorem rd.below {K : IntKind} {hi B : Nat} {w w' : World} {v : Value} {l : List Int} (h : rd K hi w v l) (hb : Below B w w') (hB : hi ≤ B) : rd K hi w' v l := by
  obtain ⟨A, c, rfl, hc, hj⟩ := h
  refine ⟨A, c, rfl, hc, fun j hl => ?_⟩
  obtain ⟨b, off, e, h2, h3⟩ := hj j hl
  exact ⟨b, off, e, h2, (hb.cell (p := ⟨b, _, none⟩) (Nat.lt_of_lt_of_le h2 hB)).trans h3⟩
set_option maxRecDepth 100000 in
theorem rd.mono {K : IntKind} {hi hi' : Nat} {w : World} {v : Value} {l : List Int} (h : rd K hi w v l) (hh : hi ≤ hi') : rd K hi' w v l := by
  obtain ⟨A, c, rfl, hc, hj⟩ := h
  refine ⟨A, c, rfl, hc, fun j hl => ?_⟩
  obtain ⟨b, off, e, h2, h3⟩ := hj j hl
  exact ⟨b, off, e, Nat.lt_of_lt_of_le h2 hh, h3⟩
set_option maxRecDepth 100000 in
theorem nums.below {K : IntKind} {lo hi B : Nat} {w w' : World} {v : Value} {l : List Int} (h : nums K lo hi w v l) (hb : Below B w w') (hB : hi ≤ B) : nums K lo hi w' v l := by
  obtain ⟨A, c, rfl, hc, hj⟩ := h
  refine ⟨A, c, rfl, hc, fun j hl => ?_⟩
  obtain ⟨b, off, e, h1, h2, h3, h4⟩ := hj j hl
  exact ⟨b, off, e, h1, h2, (hb.cell (p := ⟨b, _, none⟩) (Nat.lt_of_lt_of_le h2 hB)).trans h3, (hb.frozen (p := ⟨b, _, none⟩) (Nat.lt_of_lt_of_le h2 hB)).trans h4⟩
set_option maxRecDepth 100000 in
theorem nums.mono {K : IntKind} {lo lo' hi hi' : Nat} {w : World} {v : Value} {l : List Int} (h : nums K lo hi w v l) (hl : lo' ≤ lo) (hh : hi ≤ hi') : nums K lo' hi' w v l := by
  obtain ⟨A, c, rfl, hc, hj⟩ := h
  refine ⟨A, c, rfl, hc, fun j hl' => ?_⟩
  obtain ⟨b, off, e, h1, h2, h3⟩ := hj j hl'
  exact ⟨b, off, e, Nat.le_trans hl h1, Nat.lt_of_lt_of_le h2 hh, h3⟩
set_option maxRecDepth 100000 in
theorem nums.blk {K : IntKind} {lo hi : Nat} {w : World} {v : Value} {l : List Int} (h : nums K lo hi w v l) : ∀ k, blk v = some k → lo ≤ k ∧ k < hi := by
  obtain ⟨A, c, rfl, hc, hj⟩ := h
  intro k hk
  cases A with
  | none => simp [Proofs.YtmojpiofdfmdgabGreatDoor.blk] at hk
  | some a =>
    cases hn : l.length with
    | zero => rw [hn] at hk; simp [Proofs.YtmojpiofdfmdgabGreatDoor.blk] at hk
    | succ n =>
      rw [hn] at hk
      obtain ⟨b, off, e, h1, h2, _⟩ := hj 0 (by omega)
      simp only [Option.some.injEq] at e
      subst e
      simp only [Proofs.YtmojpiofdfmdgabGreatDoor.blk, Option.some.injEq] at hk
      subst hk
      exact ⟨h1, h2⟩
set_option maxRecDepth 100000 in
theorem map_getD {K : IntKind} {l : List Int} {j : Nat} (h : j < l.length) : (l.map (Value.int K))[j]? = some (.int K (l.getD j 0)) := by
  rw [List.getElem?_map, List.getElem?_eq_getElem h, List.getD_eq_getElem?_getD, List.getElem?_eq_getElem h]; rfl
set_option maxRecDepth 100000 in
theorem nums_of_own {K : IntKind} {lo : Nat} {w : World} {v : Value} {l : List Int} {e : TypeId} {n : Nat} (h : w.ownsRow lo e 1 v n (l.map (Value.int K))) : nums K lo w.heap.size w v l := by
  have hn : n = l.length := by have := h.1; simp at this; omega
  subst hn
  rcases h.2 with ⟨rfl, h0⟩ | ⟨g, cap, cur, rfl, hg, hh, h1, h2, h3, h4⟩
  · exact ⟨none, 0, by rw [h0], by omega, fun j hj => by omega⟩
  · refine ⟨_, cap, rfl, h1, fun j hj => ⟨g, 0, rfl, hg, (Array.getElem?_eq_some_iff.1 hh).1, ?_, ?_⟩⟩
    · have hc : w.cell? ⟨g, 0 + j, none⟩ = _ := h.cellAt (0 + j) (by omega)
      rw [hc, Nat.zero_add]
      exact map_getD hj
    · exact h.frozenAt (0 + j)
/-- the marks from k on -/
def marksL (f : Int → Int) (k : Int) (n : Nat) : List Int := (List.range n).map fun (i : Nat) => f (k + (i : Int))
set_option maxRecDepth 100000 in
theorem marks_length (f : Int → Int) (k : Int) (n : Nat) : (marksL f k n).length = n := by simp [marksL]
set_option maxRecDepth 100000 in
theorem marks_getD (f : Int → Int) (k : Int) (n j : Nat) (h : j < n) : (marksL f k n).getD j 0 = f (k + j) := by simp [marksL, h]
/-- of n places the first i hold marks; all may be written -/
def mkd (K : IntKind) (f : Int → Int) (lo hi : Nat) (w : World) (A : Option Addr) (k : Int) (i n : Nat) : Prop :=
  ∀ j, j < n → ∃ b off : Nat, A = some ⟨b, off, none⟩ ∧ lo ≤ b ∧ b < hi ∧ w.frozen? ⟨b, off + j, none⟩ = false ∧ (∃ u, w.cell? ⟨b, off + j, none⟩ = some u) ∧ (j < i → w.cell? ⟨b, off + j, none⟩ = some (.int K (f (k + j))))
set_option maxRecDepth 100000 in
theorem mkd.start {K : IntKind} {f : Int → Int} {lo hi : Nat} {w : World} {A : Option Addr} {l : List Int} {k : Int}
    (h : ∀ j, j < l.length → ∃ b off : Nat, A = some ⟨b, off, none⟩ ∧ lo ≤ b ∧ b < hi ∧ w.cell? ⟨b, off + j, none⟩ = some (.int K (l.getD j 0)) ∧ w.frozen? ⟨b, off + j, none⟩ = false) : mkd K f lo hi w A k 0 l.length := fun j hj => by
  obtain ⟨b, off, e, h1, h2, h3, h4⟩ := h j hj
  exact ⟨b, off, e, h1, h2, h4, ⟨_, h3⟩, fun h => by omega⟩
set_option maxRecDepth 100000 in
theorem mkd.done {K : IntKind} {f : Int → Int} {lo hi : Nat} {w : World} {A : Option Addr} {c n : Nat} {k : Int} (h : mkd K f lo hi w A k n n) (hc : n ≤ c) : nums K lo hi w (.slice A n c) (marksL f k n) := by
  refine ⟨A, c, by rw [marks_length], by rw [marks_length]; exact hc, fun j hj => ?_⟩
  rw [marks_length] at hj
  obtain ⟨b, off, e, h1, h2, h4, _, h3⟩ := h j hj
  exact ⟨b, off, e, h1, h2, by rw [marks_getD f k n j hj]; exact h3 hj, h4⟩
set_option maxRecDepth 100000 in
theorem mkd.set {K : IntKind} {f : Int → Int} {lo hi : Nat} {w : World} {b off : Nat} {k : Int} {i n : Nat} {x : Int} (h : mkd K f lo hi w (some ⟨b, off, none⟩) k i n) (hi' : i < n) (hx : x = f (k + i)) : mkd K f lo hi (w.setCell ⟨b, off + i, none⟩ (.int K x)) (some ⟨b, off, none⟩) k (i + 1) n := by
  subst hx
  intro j hj
  have hf : ∀ a, (w.setCell ⟨b, off + i, none⟩ (.int K (f (k + i)))).frozen? a = w.frozen? a := fun a => by simp
  obtain ⟨b', off', e, h1, h2, h3, ⟨u, hu⟩, h5⟩ := h j hj
  simp only [Option.some.injEq, Addr.mk.injEq, and_true] at e
  obtain ⟨rfl, rfl⟩ := e
  refine ⟨b, off, rfl, h1, h2, (hf _).trans h3, ?_⟩
  by_cases e : i = j
  · subst e
    have := World.cell?_setCell_same w ⟨b, off + i, none⟩ (.int K (f (k + i))) hu
    exact ⟨⟨_, this⟩, fun _ => this⟩
  · have hne : ∀ x, (w.setCell ⟨b, off + i, none⟩ x).cell? ⟨b, off + j, none⟩ = w.cell? ⟨b, off + j, none⟩ := fun x => World.cell?_setCell_other _ _ _ _ (fun he => e (by have := congrArg Addr.off he; simp at this; omega))
    exact ⟨⟨u, (hne _).trans hu⟩, fun hlt => (hne _).trans (h5 (by omega))⟩
/-- of n cells of a row the first i hold these numbers -/
def part (K : IntKind) (b : Nat) (T : TypeId) (n : Nat) (w : World) (l : List Int) (i : Nat) : Prop := w.rowIs b T n (fun j => if j < i then .int K (l.getD j 0) else .int K 0)
set_option maxRecDepth 100000 in
theorem part.set {K : IntKind} {b : Nat} {T : TypeId} {n : Nat} {w : World} {l : List Int} {i : Nat} {x : Int} (h : part K b T n w l i) (hx : x = l.getD i 0) : part K b T n (w.setCell ⟨b, i, none⟩ (.int K x)) l (i + 1) := by
  refine (World.rowIs.set h i _).congr fun j hj => ?_
  by_cases e : j = i
  · subst e
    rw [if_pos rfl, if_pos (by omega), hx]
  · rw [if_neg e]
    by_cases h1 : j < i
    · rw [if_pos h1, if_pos (by omega)]
    · rw [if_neg h1, if_neg (by omega)]
set_option maxRecDepth 100000 in
theorem part.done {K : IntKind} {b lo : Nat} {T : TypeId} {w : World} {l : List Int} (h : part K b T l.length w l l.length) (hlo : lo ≤ b) : nums K lo w.heap.size w (.slice (some ⟨b, 0, none⟩) l.length l.length) l :=
  ⟨_, _, rfl, Nat.le_refl _, fun j hj => ⟨b, 0, rfl, hlo, World.rowIs.lt h, by
    have := World.rowIs.cell h (i := 0 + j) (by omega)
    rw [this, Nat.zero_add, if_pos hj], World.rowIs.frozen h _⟩⟩
set_option maxRecDepth 100000 in
theorem part.start {K : IntKind} {T : TypeId} {b n : Nat} {w : World} {l : List Int} (h : w.rowIs b T n (fun _ => .int K 0)) : part K b T n w l 0 := h.congr fun j _ => by rw [if_neg (by omega)]


/-- a row of the call's own, from block B on: it holds these numbers, and may be appended to -/
def ow (T : TypeId) (K : IntKind) (B : Nat) (w : World) (v : Value) (L : List Int) : Prop := w.ownsRow B T 1 v L.length (L.map (Value.int K))
set_option maxRecDepth 100000 in
theorem ow.nums {T : TypeId} {K : IntKind} {B : Nat} {w : World} {v : Value} {L : List Int} (h : ow T K B w v L) : nums K B w.heap.size w v L := nums_of_own h
set_option maxRecDepth 100000 in
theorem ow.mono {T : TypeId} {K : IntKind} {B B' : Nat} {w : World} {v : Value} {L : List Int} (h : ow T K B w v L) (hB : B' ≤ B) : ow T K B' w v L := by
  refine ⟨h.1, ?_⟩
  rcases h.2 with hn | ⟨g, cap, cur, rfl, hb, rest⟩
  · exact .inl hn
  · exact .inr ⟨g, cap, cur, rfl, Nat.le_trans hB hb, rest⟩
set_option maxRecDepth 100000 in
theorem ow.below {T : TypeId} {K : IntKind} {B C : Nat} {w w' : World} {v : Value} {L : List Int} (h : ow T K B w v L) (hb : Below C w w') (hC : w.heap.size ≤ C) : ow T K B w' v L := by
  refine ⟨h.1, ?_⟩
  rcases h.2 with hn | ⟨g, cap, cur, rfl, hB, hg, rest⟩
  · exact .inl hn
  · exact .inr ⟨g, cap, cur, rfl, hB, (hb.block g (Nat.lt_of_lt_of_le (Array.getElem?_eq_some_iff.1 hg).1 hC)).trans hg, rest⟩
def isBytes (l : List Int) : Prop := ∀ z ∈ l, 0 ≤ z ∧ z ≤ 255
set_option maxRecDepth 100000 in
theorem isBytes.getD {l : List Int} (h : isBytes l) (k : Nat) : 0 ≤ l.getD k 0 ∧ l.getD k 0 ≤ 255 := by
  rw [List.getD_eq_getElem?_getD]
  cases hg : l[k]? with
  | none => simp
  | some z => exact h z (List.mem_of_getElem? hg)
def isInts (l : List Int) : Prop := ∀ z ∈ l, -9223372036854775808 ≤ z ∧ z ≤ 9223372036854775807
set_option maxRecDepth 100000 in
theorem isInts.getD {l : List Int} (h : isInts l) (k : Nat) : -9223372036854775808 ≤ l.getD k 0 ∧ l.getD k 0 ≤ 9223372036854775807 := by
  rw [List.getD_eq_getElem?_getD]
  cases hg : l[k]? with
  | none => simp
  | some z => exact h z (List.mem_of_getElem? hg)
end Go.Proofs.YtmojpiofdfmdgabGreatDoor
set_option linter.unusedVariables false
namespace Go.Proofs.YtmojpiofdfmdgabGreatDoor
open Go.ChangeShapes Go.WideShapes Go.ChangeAt Go.RowKit

/-- a type's layout: how many cells; which cells read as which data below block hi; which are memory of one's own in the blocks F -/
structure Rep (α : Type) where
  k : Nat
  rd : Nat → World → List Value → α → Prop
  own : World → List Value → α → List Nat → Prop
  rd_len : ∀ {hi w cs x}, rd hi w cs x → cs.length = k
  rd_keep : ∀ {hi w w' cs x}, rd hi w cs x → (∀ b, b < hi → w'.heap[b]? = w.heap[b]?) → rd hi w' cs x
  rd_mono : ∀ {hi hi' w cs x}, rd hi w cs x → hi ≤ hi' → rd hi' w cs x
  own_keep : ∀ {w w' cs x F}, own w cs x F → (∀ b ∈ F, w'.heap[b]? = w.heap[b]?) → own w' cs x F
  own_rd : ∀ {hi w cs x F}, own w cs x F → (∀ b ∈ F, b < hi) → rd hi w cs x
  one : ∀ {hi w cs x}, rd hi w cs x → ∀ c ∈ cs, c.oneCell' = true

def Rep.one1 {α : Type} (f : α → Value) (hf : ∀ x, (f x).oneCell' = true) : Rep α where
  k := 1
  rd _ _ cs x := cs = [f x]
  own _ cs x F := cs = [f x] ∧ F = []
  rd_len := by rintro hi w cs x rfl; rfl
  rd_keep := fun h _ => h
  rd_mono := fun h _ => h
  own_keep := fun h _ => h
  own_rd := fun h _ => h.1
  one := by rintro hi w cs x rfl c hc; rw [List.mem_singleton.1 hc]; exact hf x
def Rep.int (K : IntKind) : Rep Int := Rep.one1 (Value.int K) (fun _ => rfl)
def Rep.str : Rep ByteArray := Rep.one1 Value.string (fun _ => rfl)
def Rep.bool : Rep Bool := Rep.one1 Value.bool (fun _ => rfl)
def Rep.pair {α β : Type} (R : Rep α) (S : Rep β) : Rep (α × β) where
  k := R.k + S.k
  rd hi w cs x := ∃ a b, cs = a ++ b ∧ R.rd hi w a x.1 ∧ S.rd hi w b x.2
  own w cs x F := ∃ a b G H, cs = a ++ b ∧ F = G ++ H ∧ R.own w a x.1 G ∧ S.own w b x.2 H
  rd_len := by rintro hi w cs x ⟨a, b, rfl, h1, h2⟩; rw [List.length_append, R.rd_len h1, S.rd_len h2]
  rd_keep := by rintro hi w w' cs x ⟨a, b, rfl, h1, h2⟩ hk; exact ⟨a, b, rfl, R.rd_keep h1 hk, S.rd_keep h2 hk⟩
  rd_mono := by rintro hi hi' w cs x ⟨a, b, rfl, h1, h2⟩ hk; exact ⟨a, b, rfl, R.rd_mono h1 hk, S.rd_mono h2 hk⟩
  own_keep := by rintro w w' cs x F ⟨a, b, G, H, rfl, rfl, h1, h2⟩ hk; exact ⟨a, b, G, H, rfl, rfl, R.own_keep h1 fun b hb => hk b (List.mem_append_left _ hb), S.own_keep h2 fun b hb => hk b (List.mem_append_right _ hb)⟩
  own_rd := by rintro hi w cs x F ⟨a, b, G, H, rfl, rfl, h1, h2⟩ hk; exact ⟨a, b, rfl, R.own_rd h1 fun b hb => hk b (List.mem_append_left _ hb), S.own_rd h2 fun b hb => hk b (List.mem_append_right _ hb)⟩
  one := by
    rintro hi w cs x ⟨a, b, rfl, h1, h2⟩ c hc
    rcases List.mem_append.1 hc with h | h
    · exact R.one h1 c h
    · exact S.one h2 c h

set_option maxRecDepth 100000 in
theorem cell_keep {w w' : World} {b o : Nat} (h : w'.heap[b]? = w.heap[b]?) : w'.cell? ⟨b, o, none⟩ = w.cell? ⟨b, o, none⟩ := World.cell?_of_block (a := ⟨b, o, none⟩) h
set_option maxRecDepth 100000 in
theorem frozen_keep {w w' : World} {b o : Nat} (h : w'.heap[b]? = w.heap[b]?) : w'.frozen? ⟨b, o, none⟩ = w.frozen? ⟨b, o, none⟩ := World.frozen?_of_block (a := ⟨b, o, none⟩) h

/-- element j of a row of elements of k cells each, from cell off on -/
def atL (w : World) (b o : Nat) (xs : List Value) : Prop := ∀ t u, xs[t]? = some u → w.cell? ⟨b, o + t, none⟩ = some u
def freeL (w : World) (b o n : Nat) : Prop := ∀ t, t < n → w.frozen? ⟨b, o + t, none⟩ = false
def Rep.slice {α : Type} (R : Rep α) : Rep (List α) where
  k := 1
  rd hi w cs l := ∃ A c, cs = [.slice A l.length c] ∧ l.length ≤ c ∧ ∀ j x, l[j]? = some x → ∃ b off xs, A = some ⟨b, off, none⟩ ∧ b < hi ∧ R.rd hi w xs x ∧ atL w b (off + j * R.k) xs
  own w cs l F := ∃ A c, cs = [.slice A l.length c] ∧ l.length ≤ c ∧ ((l = [] ∧ F = []) ∨ ∃ b off Fs, A = some ⟨b, off, none⟩ ∧ F = b :: List.flatten Fs ∧ Fs.length = l.length ∧ ∀ j x G, l[j]? = some x → Fs[j]? = some G → ∃ xs, R.own w xs x G ∧ atL w b (off + j * R.k) xs ∧ freeL w b (off + j * R.k) R.k)
  rd_len := by rintro hi w cs x ⟨A, c, rfl, _⟩; rfl
  rd_keep := by
    rintro hi w w' cs l ⟨A, c, rfl, hc, h⟩ hk
    refine ⟨A, c, rfl, hc, fun j x hx => ?_⟩
    obtain ⟨b, off, xs, rfl, hb, hr, ha⟩ := h j x hx
    exact ⟨b, off, xs, rfl, hb, R.rd_keep hr hk, fun t u hu => (cell_keep (hk b hb)).trans (ha t u hu)⟩
  rd_mono := by
    rintro hi hi' w cs l ⟨A, c, rfl, hc, h⟩ hk
    refine ⟨A, c, rfl, hc, fun j x hx => ?_⟩
    obtain ⟨b, off, xs, rfl, hb, hr, ha⟩ := h j x hx
    exact ⟨b, off, xs, rfl, by omega, R.rd_mono hr hk, ha⟩
  own_keep := by
    rintro w w' cs l F ⟨A, c, rfl, hc, h⟩ hk
    refine ⟨A, c, rfl, hc, ?_⟩
    rcases h with h | ⟨b, off, Fs, rfl, rfl, hl, h⟩
    · exact .inl h
    · refine .inr ⟨b, off, Fs, rfl, rfl, hl, fun j x G hx hG => ?_⟩
      obtain ⟨xs, h1, h2, h3⟩ := h j x G hx hG
      have hb := hk b (List.mem_cons_self ..)
      exact ⟨xs, R.own_keep h1 fun b' hb' => hk b' (List.mem_cons_of_mem _ (List.mem_flatten.2 ⟨G, List.mem_of_getElem? hG, hb'⟩)), fun t u hu => (cell_keep hb).trans (h2 t u hu), fun t ht => (frozen_keep hb).trans (h3 t ht)⟩
  own_rd := by
    rintro hi w cs l F ⟨A, c, rfl, hc, h⟩ hk
    refine ⟨A, c, rfl, hc, fun j x hx => ?_⟩
    rcases h with ⟨rfl, _⟩ | ⟨b, off, Fs, rfl, rfl, hl, h⟩
    · simp at hx
    · have hj : j < l.length := (List.getElem?_eq_some_iff.1 hx).1
      have hG : Fs[j]? = some (Fs[j]'(by omega)) := List.getElem?_eq_getElem (by omega)
      obtain ⟨xs, h1, h2, h3⟩ := h j x _ hx hG
      exact ⟨b, off, xs, rfl, hk b (List.mem_cons_self ..), R.own_rd h1 fun b' hb' => hk b' (List.mem_cons_of_mem _ (List.mem_flatten.2 ⟨_, List.mem_of_getElem? hG, hb'⟩)), h2⟩
  one := by rintro hi w cs x ⟨A, c, rfl, _⟩ v hv; rw [List.mem_singleton.1 hv]; rfl

/-- memory of one's own from block lo up to block hi, no block twice -/
def Rep.mine {α : Type} (R : Rep α) (lo hi : Nat) (w : World) (cs : List Value) (x : α) : Prop := ∃ F, R.own w cs x F ∧ F.Nodup ∧ ∀ b ∈ F, lo ≤ b ∧ b < hi
section
variable {α β : Type} {R : Rep α} {S : Rep β} {lo lo' hi hi' B : Nat} {w w' : World} {cs : List Value} {x : α}
set_option maxRecDepth 100000 in
theorem Rep.mine.rd (h : R.mine lo hi w cs x) : R.rd hi w cs x := by
  obtain ⟨F, h1, _, h3⟩ := h
  exact R.own_rd h1 fun b hb => (h3 b hb).2
set_option maxRecDepth 100000 in
theorem Rep.mine.mono (h : R.mine lo hi w cs x) (h1 : lo' ≤ lo) (h2 : hi ≤ hi') : R.mine lo' hi' w cs x := by
  obtain ⟨F, h3, h4, h5⟩ := h
  exact ⟨F, h3, h4, fun b hb => by have := h5 b hb; omega⟩
set_option maxRecDepth 100000 in
theorem Rep.mine.keep (h : R.mine lo hi w cs x) (hk : ∀ b, lo ≤ b → b < hi → w'.heap[b]? = w.heap[b]?) : R.mine lo hi w' cs x := by
  obtain ⟨F, h3, h4, h5⟩ := h
  exact ⟨F, R.own_keep h3 fun b hb => hk b (h5 b hb).1 (h5 b hb).2, h4, h5⟩
set_option maxRecDepth 100000 in
theorem Rep.mine.below (h : R.mine lo hi w cs x) (hb : Below B w w') (hB : hi ≤ B) : R.mine lo hi w' cs x := h.keep fun b _ h2 => hb.block b (by omega)
set_option maxRecDepth 100000 in
theorem Rep.below (h : R.rd hi w cs x) (hb : Below B w w') (hB : hi ≤ B) : R.rd hi w' cs x := R.rd_keep h fun b h2 => hb.block b (by omega)
end
/-- only blocks from lo up to hi have turned, and new ones have come -/
structure Turned (lo hi : Nat) (w w' : World) : Prop where
  os : w'.os = w.os
  tape : w'.tape = w.tape
  output : w'.output = w.output
  size : w.heap.size ≤ w'.heap.size
  block : ∀ b, b < w.heap.size → (b < lo ∨ hi ≤ b) → w'.heap[b]? = w.heap[b]?
set_option maxRecDepth 100000 in
theorem Turned.refl (lo hi : Nat) (w : World) : Turned lo hi w w := ⟨rfl, rfl, rfl, Nat.le_refl _, fun _ _ _ => rfl⟩
set_option maxRecDepth 100000 in
theorem Turned.trans {lo hi : Nat} {u v w : World} (h : Turned lo hi u v) (g : Turned lo hi v w) : Turned lo hi u w :=
  ⟨g.os.trans h.os, g.tape.trans h.tape, g.output.trans h.output, Nat.le_trans h.size g.size, fun b h1 h2 => (g.block b (Nat.lt_of_lt_of_le h1 h.size) h2).trans (h.block b h1 h2)⟩
set_option maxRecDepth 100000 in
theorem Turned.mono {lo hi lo' hi' : Nat} {u v : World} (h : Turned lo hi u v) (h1 : lo' ≤ lo) (h2 : hi ≤ hi') : Turned lo' hi' u v :=
  ⟨h.os, h.tape, h.output, h.size, fun b hb hh => h.block b hb (by omega)⟩
set_option maxRecDepth 100000 in
theorem Turned.below {lo hi B : Nat} {u v : World} (h : Turned lo hi u v) (hB : B ≤ lo) (hs : B ≤ u.heap.size) : Below B u v := ⟨h.os, h.tape, h.output, h.size, fun b hb => h.block b (by omega) (by omega)⟩
set_option maxRecDepth 100000 in
theorem Turned.set {lo hi : Nat} {u v : World} (h : Turned lo hi u v) {b : Nat} (o : Nat) (x : Value) (h1 : lo ≤ b) (h2 : b < hi) : Turned lo hi u (v.setCell ⟨b, o, none⟩ x) :=
  ⟨h.os, h.tape, h.output, by simpa [World.setCell] using h.size, fun k hk hh => (Below.heap_setCell _ _ _ _ (show k ≠ b by omega)).trans (h.block k hk hh)⟩
section
variable {α : Type} {R : Rep α} {lo hi lo' hi' : Nat} {w w' : World} {cs : List Value} {x : α}
set_option maxRecDepth 100000 in
theorem Rep.turned (h : R.rd hi w cs x) (ht : Turned lo' hi' w w') (h1 : hi ≤ lo') (h2 : hi ≤ w.heap.size) : R.rd hi w' cs x := R.rd_keep h fun b hb => ht.block b (by omega) (by omega)
set_option maxRecDepth 100000 in
theorem Rep.mine.turned (h : R.mine lo hi w cs x) (ht : Turned lo' hi' w w') (h1 : hi ≤ lo' ∨ hi' ≤ lo) (h2 : hi ≤ w.heap.size) : R.mine lo hi w' cs x := h.keep fun b hb1 hb2 => ht.block b (by omega) (by omega)
end

set_option maxRecDepth 100000 in
theorem Rep.slice_form {α : Type} {R : Rep α} {hi : Nat} {w : World} {v : Value} {l : List α} (h : R.slice.rd hi w [v] l) : ∃ A c, v = .slice A l.length c ∧ l.length ≤ c := by
  obtain ⟨A, c, hv, hc, _⟩ := h
  exact ⟨A, c, by simpa using hv, hc⟩
/-! slices of numbers in the elder words -/
set_option maxRecDepth 100000 in
theorem atL_one {w : World} {b o : Nat} {u : Value} : atL w b o [u] ↔ w.cell? ⟨b, o, none⟩ = some u := by
  constructor
  · intro h; exact h 0 u rfl
  · intro h t v hv
    cases t with
    | zero => cases hv; exact h
    | succ t => simp at hv
end Go.Proofs.YtmojpiofdfmdgabGreatDoor
set_option linter.unusedVariables false
namespace Go.Proofs.YtmojpiofdfmdgabGreatDoor
open Go.ChangeShapes Go.WideShapes Go.ChangeAt Go.RowKit Go.Deep

/-- what reads as data of type T reads as R's data, with G -/
def Opens {H : Type} (enc : TypeId × Value → H) (P : Program) (w : World) {α : Type} (R : Rep α) (T : TypeId) (G : α → Prop) : Prop :=
  ∀ (fuel : Nat) (cs : List Value) (x : DataW H × List MemPlace), DataW.trod enc P w 0 (fun _ => true) true fuel T cs = some x → ∃ y, R.rd w.heap.size w cs y ∧ G y
def OpensF {H : Type} (enc : TypeId × Value → H) (P : Program) (w : World) {α : Type} (fs : List Field) (off : Nat) (R : Rep α) (G : α → Prop) : Prop :=
  ∀ (n : Nat) (cs : List Value) (xs : List (DataW H × List MemPlace)), cs.length = off + R.k → xs.length = fs.length →
    (∀ (i : Nat) (f : Field), fs[i]? = some f → DataW.trod enc P w 0 (fun _ => true) true n f.type ((cs.drop f.offset).take (P.cellsOf f.type)) = xs[i]?) → ∃ y, R.rd w.heap.size w (cs.drop off) y ∧ G y
section
variable {H : Type} {enc : TypeId × Value → H} {P : Program} {w : World} {α β : Type} {R : Rep α} {S : Rep β} {G : α → Prop} {G' : β → Prop} {T e : TypeId}
set_option maxRecDepth 100000 in
theorem opens_int {K : IntKind} (ht : P.underlying T = some (.int K)) : Opens enc P w (Rep.int K) T (fun z => (Lit.int K z).wf = true) := by
  intro fuel cs x h
  obtain ⟨n, rfl, _, hw⟩ := DataW.trod_int ht h
  exact ⟨n, rfl, hw⟩
set_option maxRecDepth 100000 in
theorem opens_str (ht : P.underlying T = some .string) : Opens enc P w Rep.str T (fun s => s.size ≤ maxLen) := by
  intro fuel cs x h
  obtain ⟨n, rfl, _, hw⟩ := DataW.trod_string ht h
  exact ⟨n, rfl, hw⟩
set_option maxRecDepth 100000 in
theorem opens_slice (hk0 : 0 < R.k) (ht : P.underlying T = some (.slice e)) (hC : P.cellsOf e = R.k) (h0 : Opens enc P w R e G) : Opens enc P w R.slice T (fun l => l.length ≤ maxLen ∧ ∀ y ∈ l, G y) := by
  intro fuel cs x h
  rcases open_slice ht h with ⟨rfl, _⟩ | ⟨a, len, cap, m, n, D, Pl, rfl, _, hl, hm, hmm, _, hi⟩
  · exact ⟨[], ⟨none, 0, rfl, Nat.le_refl _, fun j x hx => by simp at hx⟩, Nat.zero_le _, fun y hy => by cases hy⟩
  · simp only [if_true] at hmm
    subst hmm
    have hy : ∀ i, i < len → ∃ y cs', w.cells? 0 (a.add (i * R.k)) R.k = some cs' ∧ R.rd w.heap.size w cs' y ∧ G y := fun i hil => by
      obtain ⟨cs', h1, h2⟩ := hi i (by omega)
      rw [hC] at h1
      obtain ⟨y, h3, h4⟩ := h0 n cs' _ h2
      exact ⟨y, cs', h1, h3, h4⟩
    have hL : ∀ k, k ≤ len → ∃ l : List α, l.length = k ∧ ∀ j x, l[j]? = some x → ∃ cs', w.cells? 0 (a.add (j * R.k)) R.k = some cs' ∧ R.rd w.heap.size w cs' x ∧ G x := by
      intro k
      induction k with
      | zero => intro _; exact ⟨[], rfl, fun j x hx => by simp at hx⟩
      | succ k ih =>
        intro hk
        obtain ⟨l, hl1, hl2⟩ := ih (by omega)
        obtain ⟨y, cs', h1, h2, h3⟩ := hy k (by omega)
        refine ⟨l ++ [y], by simp [hl1], fun j x hx => ?_⟩
        by_cases hj : j < l.length
        · rw [List.getElem?_append_left hj] at hx
          exact hl2 j x hx
        · have hj' : j = k := by have := (List.getElem?_eq_some_iff.1 hx).1; simp at this; omega
          subst hj'
          rw [List.getElem?_append_right (by omega), hl1, Nat.sub_self] at hx
          have hyx : y = x := by simpa using hx
          subst hyx
          exact ⟨cs', h1, h2, h3⟩
    obtain ⟨l, hl1, hl2⟩ := hL len (Nat.le_refl _)
    subst hl1
    refine ⟨l, ⟨some a, m, rfl, hl, fun j x hx => ?_⟩, by omega, fun y hy => ?_⟩
    · obtain ⟨cs', h1, h2, h3⟩ := hl2 j x hx
      obtain ⟨_, hlen, hat⟩ := World.cells?_some h1
      have hk := R.rd_len h2
      obtain ⟨b, off, spot⟩ := a
      have hcell : ∀ t u, cs'[t]? = some u → w.cell? ((⟨b, off, spot⟩ : Addr).add (j * R.k + t)) = some u := fun t u hu => by
        have ht : t < R.k := by rw [← hk]; exact (List.getElem?_eq_some_iff.1 hu).1
        rw [← Go.Deep.add_add, hat t ht, hu]
      have h00 := hcell 0 _ (List.getElem?_eq_getElem (by omega))
      have hspot : spot = none := by
        have hjl := (List.getElem?_eq_some_iff.1 hx).1
        obtain ⟨cs0, g1, g2, _⟩ := hl2 0 _ (List.getElem?_eq_getElem (by omega))
        obtain ⟨_, glen, gat⟩ := World.cells?_some g1
        have g0 := gat 0 (by omega)
        rw [List.getElem?_eq_getElem (by omega), Nat.zero_mul] at g0
        exact World.cell?_spot g0
      subst hspot
      have hb : b < w.heap.size := by
        rcases Nat.lt_or_ge b w.heap.size with h' | h'
        · exact h'
        · rw [Go.WideShapes.add_plain] at h00; simp [World.cell?, Array.getElem?_eq_none h'] at h00
      exact ⟨b, off, cs', rfl, hb, h2, fun t u hu => by rw [Nat.add_assoc, ← Go.WideShapes.add_plain]; exact hcell t u hu⟩
    · obtain ⟨j, hj⟩ := List.mem_iff_getElem?.1 hy
      obtain ⟨_, _, _, h3⟩ := hl2 j y hj
      exact h3
set_option maxRecDepth 100000 in
theorem opensF_one {f : Field} {off : Nat} (h : Opens enc P w R f.type G) (ho : f.offset = off) (hk : P.cellsOf f.type = R.k) : OpensF enc P w [f] off R G := by
  intro n cs xs hl hx hf
  match xs, hx with
  | [x], _ =>
    have := hf 0 f rfl
    rw [ho, hk, List.take_of_length_le (by rw [List.length_drop]; omega)] at this
    exact h n _ _ this
set_option maxRecDepth 100000 in
theorem opensF_cons {f : Field} {fs : List Field} {off : Nat} (h : Opens enc P w R f.type G) (ho : f.offset = off) (hk : P.cellsOf f.type = R.k) (hr : OpensF enc P w fs (off + R.k) S G') : OpensF enc P w (f :: fs) off (R.pair S) (fun y => G y.1 ∧ G' y.2) := by
  intro n cs xs hl hx hf
  match xs, hx with
  | x :: xs, hx =>
    have h0 := hf 0 f rfl
    rw [ho, hk] at h0
    obtain ⟨y, h1, h2⟩ := h n _ _ h0
    have hl' : cs.length = off + R.k + S.k := by rw [hl]; show off + (R.k + S.k) = _; omega
    obtain ⟨z, h3, h4⟩ := hr n cs xs hl' (by simpa using hx) (fun i g hg => by simpa using hf (i + 1) g (by simpa using hg))
    refine ⟨(y, z), ⟨(cs.drop off).take R.k, cs.drop (off + R.k), ?_, h1, h3⟩, h2, h4⟩
    rw [← List.drop_drop]
    exact (List.take_append_drop _ _).symm
set_option maxRecDepth 100000 in
theorem opens_struct {fs : Array Field} (ht : P.underlying T = some (.struct fs)) (hC : P.cellsOf T = R.k) (h : OpensF enc P w fs.toList 0 R G) : Opens enc P w R T G := by
  intro fuel cs x hx
  obtain ⟨xs, n, _, _, hl, hlen, hf⟩ := DataW.trod_struct ht hx
  have := h n cs xs (by rw [hl, hC]; omega) (by simpa using hlen) (fun i f hif => hf i f (by simpa using hif))
  simpa using this
end
end Go.Proofs.YtmojpiofdfmdgabGreatDoor
set_option linter.unusedVariables false
namespace Go.Proofs.YtmojpiofdfmdgabGreatDoor
open Go.ChangeShapes Go.WideShapes Go.ChangeAt Go.RowKit

/-- cells stored one behind the other -/
def setsAt (w : World) (b o : Nat) : List Value → World
  | [] => w
  | u :: us => setsAt (w.setCell ⟨b, o, none⟩ u) b (o + 1) us
/-- n cells from o on are there and may be written -/
def roomL (w : World) (b o n : Nat) : Prop := ∀ t, t < n → (∃ u, w.cell? ⟨b, o + t, none⟩ = some u) ∧ w.frozen? ⟨b, o + t, none⟩ = false
set_option maxRecDepth 100000 in
theorem roomL.set {w : World} {b o n : Nat} (h : roomL w b o n) (p : Nat) (x : Value) : roomL (w.setCell ⟨b, p, none⟩ x) b o n := fun t ht => by
  obtain ⟨⟨u, hu⟩, hf⟩ := h t ht
  refine ⟨?_, by simpa using hf⟩
  by_cases e : p = o + t
  · subst e; exact ⟨_, World.cell?_setCell_same w _ x hu⟩
  · exact ⟨u, (World.cell?_setCell_other _ _ _ _ (fun he => e (by have := congrArg Addr.off he; simp at this; omega))).trans hu⟩
set_option maxRecDepth 100000 in
theorem roomL.keep {w w' : World} {b o n : Nat} (h : roomL w b o n) (hk : w'.heap[b]? = w.heap[b]?) : roomL w' b o n := fun t ht => by
  obtain ⟨⟨u, hu⟩, hf⟩ := h t ht
  exact ⟨⟨u, (cell_keep hk).trans hu⟩, (frozen_keep hk).trans hf⟩
set_option maxRecDepth 100000 in
theorem roomL.sub {w : World} {b o n o' n' : Nat} (h : roomL w b o n) (h1 : o ≤ o') (h2 : o' + n' ≤ o + n) : roomL w b o' n' := fun t ht => by
  have := h (o' - o + t) (by omega)
  rwa [show o + (o' - o + t) = o' + t by omega] at this
set_option maxRecDepth 100000 in
theorem roomL.free {w : World} {b o n : Nat} (h : roomL w b o n) : freeL w b o n := fun t ht => (h t ht).2
set_option maxRecDepth 100000 in
theorem atL.keep {w w' : World} {b o : Nat} {us : List Value} (h : atL w b o us) (hk : w'.heap[b]? = w.heap[b]?) : atL w' b o us := fun t u hu => (cell_keep hk).trans (h t u hu)
set_option maxRecDepth 100000 in
theorem atL.set_far {w : World} {b o p : Nat} {us : List Value} (h : atL w b o us) (hp : p < o ∨ o + us.length ≤ p) (x : Value) : atL (w.setCell ⟨b, p, none⟩ x) b o us := fun t u hu => by
  have ht := (List.getElem?_eq_some_iff.1 hu).1
  exact (World.cell?_setCell_other _ _ _ _ (fun he => by have := congrArg Addr.off he; simp at this; omega)).trans (h t u hu)
set_option maxRecDepth 100000 in
theorem setsAt_far (us : List Value) : ∀ (w : World) (b o : Nat) (vs : List Value) (p : Nat), atL w b p vs → (p + vs.length ≤ o ∨ o + us.length ≤ p) → atL (setsAt w b o us) b p vs := by
  induction us with
  | nil => intro w b o vs p h _; exact h
  | cons u us ih =>
    intro w b o vs p h hp
    simp only [List.length_cons] at hp
    exact ih _ b (o + 1) vs p (h.set_far (by omega) u) (by omega)
set_option maxRecDepth 100000 in
theorem setsAt_room (us : List Value) : ∀ (w : World) (b o p n : Nat), roomL w b p n → roomL (setsAt w b o us) b p n := by
  induction us with
  | nil => intro w b o p n h; exact h
  | cons u us ih => intro w b o p n h; exact ih _ b (o + 1) p n (h.set _ _)
set_option maxRecDepth 100000 in
theorem setsAt_at (us : List Value) : ∀ (w : World) (b o : Nat), roomL w b o us.length → atL (setsAt w b o us) b o us := by
  induction us with
  | nil => intro w b o _ t u hu; simp at hu
  | cons u us ih =>
    intro w b o h t v hv
    have hroom := h.set o u
    obtain ⟨⟨x, hx⟩, _⟩ := h 0 (by simp)
    have h0 : atL (w.setCell ⟨b, o, none⟩ u) b o [u] := atL_one.2 (World.cell?_setCell_same w ⟨b, o, none⟩ u hx)
    have h1 := setsAt_far us (w.setCell ⟨b, o, none⟩ u) b (o + 1) [u] o h0 (.inl (by simp))
    have h2 := ih (w.setCell ⟨b, o, none⟩ u) b (o + 1) (hroom.sub (by omega) (by simp; omega))
    cases t with
    | zero => cases hv; exact atL_one.1 h1
    | succ t =>
      have := h2 t v (by simpa using hv)
      rwa [show o + 1 + t = o + (t + 1) by omega] at this
set_option maxRecDepth 100000 in
theorem setsAt_turned {lo hi : Nat} {u : World} (us : List Value) : ∀ (w : World) (b o : Nat), Turned lo hi u w → lo ≤ b → b < hi → Turned lo hi u (setsAt w b o us) := by
  induction us with
  | nil => intro w b o h _ _; exact h
  | cons v us ih => intro w b o h h1 h2; exact ih _ b (o + 1) (h.set o v h1 h2) h1 h2
set_option maxRecDepth 100000 in
theorem setsAt_below {B : Nat} {u : World} (us : List Value) : ∀ (w : World) (b o : Nat), Below B u w → B ≤ b → Below B u (setsAt w b o us) := by
  induction us with
  | nil => intro w b o h _; exact h
  | cons v us ih => intro w b o h h1; exact ih _ b (o + 1) (h.setCell h1 _) h1

/-- of n elements of k cells each in block b the first i hold E 0, E 1, ..; all cells are there and may be written -/
structure filled (w : World) (b off k n i : Nat) (E : Nat → List Value) : Prop where
  room : roomL w b off (n * k)
  at_ : ∀ j, j < i → atL w b (off + j * k) (E j)
set_option maxRecDepth 100000 in
theorem filled.start {w : World} {b off k n : Nat} {E : Nat → List Value} (h : roomL w b off (n * k)) : filled w b off k n 0 E := ⟨h, fun j hj => absurd hj (by omega)⟩
set_option maxRecDepth 100000 in
theorem filled.keep {w w' : World} {b off k n i : Nat} {E : Nat → List Value} (h : filled w b off k n i E) (hk : w'.heap[b]? = w.heap[b]?) : filled w' b off k n i E := ⟨h.room.keep hk, fun j hj => (h.at_ j hj).keep hk⟩
set_option maxRecDepth 100000 in
theorem mul_step {j k i : Nat} (h : j < i) : j * k + k ≤ i * k := by
  have : (j + 1) * k ≤ i * k := Nat.mul_le_mul_right k h
  rwa [Nat.add_mul, Nat.one_mul] at this
set_option maxRecDepth 100000 in
theorem filled.next {w : World} {b off k n i : Nat} {E : Nat → List Value} (h : filled w b off k n i E) (hi : i < n) (hE : ∀ j, j ≤ i → (E j).length = k) : filled (setsAt w b (off + i * k) (E i)) b off k n (i + 1) E := by
  have hik := mul_step (k := k) hi
  refine ⟨setsAt_room _ _ _ _ _ _ h.room, fun j hj => ?_⟩
  by_cases e : j = i
  · subst e
    exact setsAt_at _ _ _ _ (h.room.sub (by omega) (by rw [hE j (Nat.le_refl _)]; omega))
  · have hjk := mul_step (k := k) (show j < i by omega)
    exact setsAt_far _ _ _ _ _ _ (h.at_ j (by omega)) (.inl (by rw [hE j (by omega)]; omega))
set_option maxRecDepth 100000 in
theorem room_new (w : World) (cs : Array Value) (T : TypeId) : roomL (w.alloc (.cells cs T)) w.heap.size 0 cs.size := fun t ht => by
  have hb := heap_alloc_new w (.cells cs T)
  rw [Nat.zero_add]
  refine ⟨⟨cs[t], ?_⟩, ?_⟩
  · rw [cell_of_row _ _ t cs T (0, 0) hb]; exact Array.getElem?_eq_getElem ht
  · unfold World.frozen?; rw [hb]; simp
set_option maxRecDepth 100000 in
theorem room_made (w : World) (z : Array Value) (n : Nat) (T : TypeId) : roomL (w.alloc (.cells (madeCells z n) T)) w.heap.size 0 n := by
  have := room_new w (madeCells z n) T
  rwa [size_madeCells] at this
set_option maxRecDepth 100000 in
/-- what make lays, elements of k cells -/
theorem make_run {P : Program} (t e : TypeId) (zs : Array Value) (k bytes : Nat) (ht : P.underlying t = some (.slice e)) (hinfo : (P.info? e).map (fun i => (i.zero.map (·.cells), i.size, i.bytes)) = some (some zs, k, bytes)) (n : Nat) (hb : bytes * n ≤ 281474976710656) (hn : n ≤ 1000000000000) :
    ∀ w, (Instr.makeSlice t (.int .i64 n) (.int .i64 n)).run P w = .ok (.slice (some ⟨w.heap.size, 0, none⟩) n n) (w.alloc (.cells (madeCells zs (n * k)) e)) := by
  intro w
  obtain ⟨i, hi, hx⟩ := Option.map_eq_some_iff.1 hinfo
  simp only [Prod.mk.injEq] at hx
  obtain ⟨hz, h1, h2⟩ := hx
  obtain ⟨z, hzz, rfl⟩ := Option.map_eq_some_iff.1 hz
  subst h1
  subst h2
  have := run_make (P := P) w t e i z ht hi hzz .i64 .i64 n n (by omega) (by omega) (by rw [← Int.natCast_mul]; omega) (by omega)
  rw [this]
  rfl
set_option maxRecDepth 100000 in
/-- a cell of element j -/
theorem filled.cells {w : World} {b off k n i j : Nat} {E : Nat → List Value} (h : filled w b off k n i E) (hj : j < n) (t : Nat) (ht : t < k) : (∃ u, w.cell? ⟨b, off + j * k + t, none⟩ = some u) ∧ w.frozen? ⟨b, off + j * k + t, none⟩ = false := by
  have hjk := mul_step (k := k) hj
  have := h.room (j * k + t) (by omega)
  rwa [← Nat.add_assoc] at this
end Go.Proofs.YtmojpiofdfmdgabGreatDoor
