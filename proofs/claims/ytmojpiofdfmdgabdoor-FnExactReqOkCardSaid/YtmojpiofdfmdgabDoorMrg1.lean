/- What every proof of this seat uses: the row's last step where the call made memory; small words on strings. -/
import Derived.Test.YtmojpiofdfmdgabDoorRows
import Derived.WalkKit
import Derived.ProofKit
import Derived.OpenShut
import Derived.Outline
import Derived.WalkLawsBesides
import Derived.Handy
import Derived.Lib.Hide
import Derived.WalkSmall
import Derived.Stop.LaidErr
import Derived.OpenVars
import Derived.Carry
import Derived.BigQuiet
import Derived.Deep.QuietTactic
import Derived.Deep.RegionWith
import Derived.Deep.OwnRows
import Derived.OwnWalk
import Derived.Laws.AppendOwn
import Derived.Laws.BytesArg
import Derived.ChangeArms
import Derived.Deep.Slices
import Derived.RegionTactic
import Derived.Laws.MakeOwn
import Derived.Deep.RegionHeld3
import Derived.Laws.Rows
import Derived.ChangeSlices
import Derived.Lib.LaidTab
import Derived.Deep.Cut
import Derived.Deep.DeepCutAuto
import Derived.Lib.ItoaNum
import Derived.Lib.ItoaLen
import Derived.Deep.Onto
import Derived.Maps.AppendAt
set_option linter.unusedVariables false
namespace Go.Proofs.YtmojpiofdfmdgabDoor
open Go.ChangeShapes Go.WideShapes Go.ChangeAt Go.RowKit

section
variable {H : Type} {enc : TypeId × Value → H} {P : Program}
end

set_option maxRecDepth 100000 in
theorem val_int {k : IntKind} {a b : Int} (h : a = b) : Value.int k a = Value.int k b := by rw [h]
set_option maxRecDepth 100000 in
theorem ret_int {k : IntKind} {a b : Int} (h : a = b) : Ending.returned (.int k a) = .returned (.int k b) := by rw [h]
set_option maxRecDepth 100000 in
theorem ret_bool {a b : Bool} (h : a = b) : Ending.returned (.bool a) = .returned (.bool b) := by rw [h]
set_option maxRecDepth 100000 in
theorem take_one (s : ByteArray) (k : Nat) (h : k < s.size) : s.data.toList.take (k + 1) = s.data.toList.take k ++ [s[k]] := by
  rw [List.take_succ_eq_append_getElem (by simpa using h)]; rfl
set_option maxRecDepth 100000 in
theorem take_end (s : ByteArray) (k : Nat) (h : ¬ k < s.size) : s.data.toList.take k = s.data.toList := List.take_of_length_le (by simp; omega)

/-- is the byte a digit? -/
def isDig (c : UInt8) : Bool := decide (48 ≤ c.toNat) && decide (c.toNat ≤ 57)
/-- is the string a number of digits, at least one? -/
def digs (s : ByteArray) : Bool := decide (0 < s.size) && s.data.toList.all isDig

set_option maxRecDepth 100000 in
theorem isDig_iff (c : UInt8) : isDig c = true ↔ 48 ≤ c.toNat ∧ c.toNat ≤ 57 := by simp [isDig]
set_option maxRecDepth 100000 in
theorem isDig_no (c : UInt8) : isDig c = false ↔ c.toNat < 48 ∨ 57 < c.toNat := by
  cases h : isDig c
  · simp only [true_iff]
    rcases Nat.lt_or_ge c.toNat 48 with h1 | h1
    · exact Or.inl h1
    · rcases Nat.lt_or_ge 57 c.toNat with h2 | h2
      · exact Or.inr h2
      · have := (isDig_iff c).2 ⟨h1, h2⟩; rw [h] at this; cases this
  · have := (isDig_iff c).1 h; simp; omega
set_option maxRecDepth 100000 in
theorem digs_yes (s : ByteArray) (k : Nat) (h : ¬ k < s.size) (h0 : 0 < s.size) (ha : (s.data.toList.take k).all isDig = true) : digs s = true := by
  rw [take_end s k h] at ha
  simp only [digs, ha, h0, decide_true, Bool.and_self]
set_option maxRecDepth 100000 in
theorem digs_empty (s : ByteArray) (h0 : ¬ 0 < s.size) : digs s = false := by simp [digs, h0]
set_option maxRecDepth 100000 in
theorem digs_no (s : ByteArray) (k : Nat) (h : k < s.size) (ha : isDig s[k] = false) : digs s = false := by
  have hm : s[k] ∈ s.data.toList := by
    have : s[k] = s.data.toList[k]'(by simpa using h) := rfl
    rw [this]; exact List.getElem_mem _
  have : s.data.toList.all isDig = false := by
    rw [List.all_eq_false]; exact ⟨_, hm, by simp [ha]⟩
  simp [digs, this]
set_option maxRecDepth 100000 in
theorem digs_end (s : ByteArray) (k : Nat) (h : ¬ k < s.size) (ha : (s.data.toList.take k).all isDig = true) : decide (0 < s.size) = digs s := by
  by_cases h0 : 0 < s.size
  · rw [digs_yes s k h h0 ha]; simpa using h0
  · rw [digs_empty s h0]; simpa using h0
set_option maxRecDepth 100000 in
theorem all_one (s : ByteArray) (k : Nat) (h : k < s.size) (ha : (s.data.toList.take k).all isDig = true) (hb : isDig s[k] = true) : (s.data.toList.take (k + 1)).all isDig = true := by
  rw [take_one s k h]; simp [ha, hb]
set_option maxRecDepth 100000 in
/-- each byte of a string of digits -/
theorem digs_get {s : ByteArray} (hd : digs s = true) (k : Nat) (h : k < s.size) : 48 ≤ s[k].toNat ∧ s[k].toNat ≤ 57 := by
  simp only [digs, Bool.and_eq_true, List.all_eq_true] at hd
  have : s[k] = s.data.toList[k]'(by simpa using h) := rfl
  exact (isDig_iff _).1 (hd.2 _ (by rw [this]; exact List.getElem_mem _))
set_option maxRecDepth 100000 in
theorem digs_pos {s : ByteArray} (hd : digs s = true) : 0 < s.size := by
  simp only [digs, Bool.and_eq_true, decide_eq_true_eq] at hd; exact hd.1

set_option maxRecDepth 100000 in
theorem not_empty (s : ByteArray) : (!s.toList.isEmpty) = decide (0 < s.size) := by
  rw [ByteArray.toList_eq]
  have h : s.size = s.data.toList.length := by simp
  rw [h]
  cases s.data.toList <;> simp
set_option maxRecDepth 100000 in
theorem below_iter (w : World) (s : ByteArray) (pos : Nat) : Below w.heap.size w (w.iter s pos) := (Below.refl _ _).alloc (Nat.le_refl _) _
end Go.Proofs.YtmojpiofdfmdgabDoor
set_option linter.unusedVariables false
namespace Go.Proofs.YtmojpiofdfmdgabDoor
open Go.ChangeShapes Go.WideShapes Go.ChangeAt Go.RowKit

section
variable {H : Type} {enc : TypeId × Value → H} {P : Program}
/-- every type can be read -/
def allRowed (P : Program) (ts : List TypeId) : Bool := ts.all fun t => P.readableRec t && decide (t < P.types.size)
set_option maxRecDepth 100000 in
theorem trodAll_below (hl : laidOutB P = true) {W W' : World} (hb : Below W.heap.size W W') :
    ∀ {ts : List TypeId} {vs : List Value} {ds : List (DataW H)} {ps : List MemPlace}, allRowed P ts = true → DataW.TrodAll enc P W 0 (fun _ => true) true ts vs ds ps → (∀ x ∈ ps, x.block < W.heap.size) →
      DataW.TrodAll enc P W' 0 (fun b => decide (b < W.heap.size)) true ts vs ds ps
  | [], vs, ds, ps, _, h, _ => by
    obtain ⟨rfl, rfl, rfl⟩ := trodAll_nil h
    exact trodAll_mk0
  | t :: ts, vs, ds, ps, hr, h, hlt => by
    obtain ⟨v0, vs0, d0, ds0, p0, q0, rfl, rfl, rfl, h0, r0⟩ := trodAll_cons h
    simp only [allRowed, List.all_cons, Bool.and_eq_true, decide_eq_true_eq] at hr
    exact trodAll_cons_mk (Below.trod hl hr.1.1 hr.1.2 h0 hb (fun x hx => hlt x (by simp [hx]))) (trodAll_below hl hb (by simpa [allRowed] using hr.2) r0 (fun x hx => hlt x (by simp [hx])))

set_option maxRecDepth 100000 in
theorem post_true {f : Func} {s : ChangeSpec} {apart fresh handsOn : Bool} {W W' : World} {args : Array Value} {ds gs : List (DataW H)} {before pv : List MemPlace} {tb : TypeId}
    (hl : laidOutB P = true) (hr : allRowed P f.params.toList = true) (hW : DataW.Whole enc P f.params.toList s.vars apart W args.toList ds gs before)
    (hfn : s.fn H (ds ++ gs) = { results := [.lit (.bool true)], args := ds, vars := gs }) (ht : f.resultTypes = #[tb]) (hu : P.underlying tb = some .bool)
    (hb : Below W.heap.size W W') (hvars : DataW.TrodVars enc P W' (fun b => decide (b < W.heap.size)) s.vars gs pv) :
    s.post enc P f apart fresh handsOn false W args (.bool true) W' := by
  have hW' := hW
  obtain ⟨p, q, hA, hV, rfl, _, _⟩ := hW
  have hlt := hW'.lt
  refine ⟨ds, gs, p ++ q, [], p, pv, hW', ?_, ?_, ?_, World.keptBut_mono (fun x hx => ?_) (hb.frame (fun _ => False)), fun h => by cases h⟩
  · rw [hfn, ht]
    exact trodAll_cons_mk (shut_bool hu true) trodAll_mk0
  · rw [hfn]
    exact trodAll_below hl hb hr hA (fun x hx => hlt x (by simp [hx]))
  · rw [hfn]
    exact hvars
  · exact hx.elim
end
end Go.Proofs.YtmojpiofdfmdgabDoor
set_option linter.unusedVariables false
namespace Go.Proofs.YtmojpiofdfmdgabDoor
open Go.ChangeShapes Go.WideShapes Go.ChangeAt Go.RowKit

/-- the slice v reads as the numbers l of kind K; its block lies below hi -/
def rd (K : IntKind) (hi : Nat) (w : World) (v : Value) (l : List Int) : Prop :=
  ∃ (A : Option Addr) (c : Nat), v = .slice A l.length c ∧ l.length ≤ c ∧ ∀ j, j < l.length → ∃ b off : Nat, A = some ⟨b, off, none⟩ ∧ b < hi ∧ w.cell? ⟨b, off + j, none⟩ = some (.int K (l.getD j 0))
/-- the same; its block lies from lo on; its cells may be written -/
def nums (K : IntKind) (lo hi : Nat) (w : World) (v : Value) (l : List Int) : Prop :=
  ∃ (A : Option Addr) (c : Nat), v = .slice A l.length c ∧ l.length ≤ c ∧ ∀ j, j < l.length → ∃ b off : Nat, A = some ⟨b, off, none⟩ ∧ lo ≤ b ∧ b < hi ∧ w.cell? ⟨b, off + j, none⟩ = some (.int K (l.getD j 0)) ∧ w.frozen? ⟨b, off + j, none⟩ = false
set_option maxRecDepth 100000 in
theorem nums.rd {K : IntKind} {lo hi : Nat} {w : World} {v : Value} {l : List Int} (h : nums K lo hi w v l) : rd K hi w v l := by
  obtain ⟨A, c, rfl, hc, hj⟩ := h
  refine ⟨A, c, rfl, hc, fun j hl => ?_⟩
  obtain ⟨b, off, e, _, h2, h3, _⟩ := hj j hl
  exact ⟨b, off, e, h2, h3⟩
set_option maxRecDepth 100000 in
theorem rd.below {K : IntKind} {hi B : Nat} {w w' : World} {v : Value} {l : List Int} (h : rd K hi w v l) (hb : Below B w w') (hB : hi ≤ B) : rd K hi w' v l := by
  obtain ⟨A, c, rfl, hc, hj⟩ := h
  refine ⟨A, c, rfl, hc, fun j hl => ?_⟩
  obtain ⟨b, off, e, h2, h3⟩ := hj j hl
  exact ⟨b, off, e, h2, (hb.cell (p := ⟨b, _, none⟩) (Nat.lt_of_lt_of_le h2 hB)).trans h3⟩
set_option maxRecDepth 100000 in
theorem rd.mono {K : IntKind} {hi hi' : Nat} {w : World} {v : Value} {l : List Int} (h : rd K hi w v l) (hh : hi ≤ hi') : rd K hi' w v l := by
  obtain ⟨A, c, rfl, hc, hj⟩ := h
  refine ⟨A, c, rfl, hc, fun j hl => ?_⟩
  obtain ⟨b, off, e, h2, h3⟩ := hj j hl
  exact ⟨b, off, e, Nat.lt_of_lt_of_le h2 hh, h3⟩
set_option maxRecDepth 100000 in
theorem nums.below {K : IntKind} {lo hi B : Nat} {w w' : World} {v : Value} {l : List Int} (h : nums K lo hi w v l) (hb : Below B w w') (hB : hi ≤ B) : nums K lo hi w' v l := by
  obtain ⟨A, c, rfl, hc, hj⟩ := h
  refine ⟨A, c, rfl, hc, fun j hl => ?_⟩
  obtain ⟨b, off, e, h1, h2, h3, h4⟩ := hj j hl
  exact ⟨b, off, e, h1, h2, (hb.cell (p := ⟨b, _, none⟩) (Nat.lt_of_lt_of_le h2 hB)).trans h3, (hb.frozen (p := ⟨b, _, none⟩) (Nat.lt_of_lt_of_le h2 hB)).trans h4⟩
set_option maxRecDepth 100000 in
theorem nums.mono {K : IntKind} {lo lo' hi hi' : Nat} {w : World} {v : Value} {l : List Int} (h : nums K lo hi w v l) (hl : lo' ≤ lo) (hh : hi ≤ hi') : nums K lo' hi' w v l := by
  obtain ⟨A, c, rfl, hc, hj⟩ := h
  refine ⟨A, c, rfl, hc, fun j hl' => ?_⟩
  obtain ⟨b, off, e, h1, h2, h3⟩ := hj j hl'
  exact ⟨b, off, e, Nat.le_trans hl h1, Nat.lt_of_lt_of_le h2 hh, h3⟩
set_option maxRecDepth 100000 in
theorem map_getD {K : IntKind} {l : List Int} {j : Nat} (h : j < l.length) : (l.map (Value.int K))[j]? = some (.int K (l.getD j 0)) := by
  rw [List.getElem?_map, List.getElem?_eq_getElem h, List.getD_eq_getElem?_getD, List.getElem?_eq_getElem h]; rfl
set_option maxRecDepth 100000 in
theorem nums_of_own {K : IntKind} {lo : Nat} {w : World} {v : Value} {l : List Int} {e : TypeId} {n : Nat} (h : w.ownsRow lo e 1 v n (l.map (Value.int K))) : nums K lo w.heap.size w v l := by
  have hn : n = l.length := by have := h.1; simp at this; omega
  subst hn
  rcases h.2 with ⟨rfl, h0⟩ | ⟨g, cap, cur, rfl, hg, hh, h1, h2, h3, h4⟩
  · exact ⟨none, 0, by rw [h0], by omega, fun j hj => by omega⟩
  · refine ⟨_, cap, rfl, h1, fun j hj => ⟨g, 0, rfl, hg, (Array.getElem?_eq_some_iff.1 hh).1, ?_, ?_⟩⟩
    · have hc : w.cell? ⟨g, 0 + j, none⟩ = _ := h.cellAt (0 + j) (by omega)
      rw [hc, Nat.zero_add]
      exact map_getD hj
    · exact h.frozenAt (0 + j)
/-- the marks from k on -/
def marksL (f : Int → Int) (k : Int) (n : Nat) : List Int := (List.range n).map fun (i : Nat) => f (k + (i : Int))
set_option maxRecDepth 100000 in
theorem marks_length (f : Int → Int) (k : Int) (n : Nat) : (marksL f k n).length = n := by simp [marksL]
set_option maxRecDepth 100000 in
theorem marks_getD (f : Int → Int) (k : Int) (n j : Nat) (h : j < n) : (marksL f k n).getD j 0 = f (k + j) := by simp [marksL, h]
/-- of n places the first i hold marks; all may be written -/
def mkd (K : IntKind) (f : Int → Int) (lo hi : Nat) (w : World) (A : Option Addr) (k : Int) (i n : Nat) : Prop :=
  ∀ j, j < n → ∃ b off : Nat, A = some ⟨b, off, none⟩ ∧ lo ≤ b ∧ b < hi ∧ w.frozen? ⟨b, off + j, none⟩ = false ∧ (∃ u, w.cell? ⟨b, off + j, none⟩ = some u) ∧ (j < i → w.cell? ⟨b, off + j, none⟩ = some (.int K (f (k + j))))
set_option maxRecDepth 100000 in
theorem mkd.done {K : IntKind} {f : Int → Int} {lo hi : Nat} {w : World} {A : Option Addr} {c n : Nat} {k : Int} (h : mkd K f lo hi w A k n n) (hc : n ≤ c) : nums K lo hi w (.slice A n c) (marksL f k n) := by
  refine ⟨A, c, by rw [marks_length], by rw [marks_length]; exact hc, fun j hj => ?_⟩
  rw [marks_length] at hj
  obtain ⟨b, off, e, h1, h2, h4, _, h3⟩ := h j hj
  exact ⟨b, off, e, h1, h2, by rw [marks_getD f k n j hj]; exact h3 hj, h4⟩
set_option maxRecDepth 100000 in
theorem mkd.set {K : IntKind} {f : Int → Int} {lo hi : Nat} {w : World} {b off : Nat} {k : Int} {i n : Nat} {x : Int} (h : mkd K f lo hi w (some ⟨b, off, none⟩) k i n) (hi' : i < n) (hx : x = f (k + i)) : mkd K f lo hi (w.setCell ⟨b, off + i, none⟩ (.int K x)) (some ⟨b, off, none⟩) k (i + 1) n := by
  subst hx
  intro j hj
  have hf : ∀ a, (w.setCell ⟨b, off + i, none⟩ (.int K (f (k + i)))).frozen? a = w.frozen? a := fun a => by simp
  obtain ⟨b', off', e, h1, h2, h3, ⟨u, hu⟩, h5⟩ := h j hj
  simp only [Option.some.injEq, Addr.mk.injEq, and_true] at e
  obtain ⟨rfl, rfl⟩ := e
  refine ⟨b, off, rfl, h1, h2, (hf _).trans h3, ?_⟩
  by_cases e : i = j
  · subst e
    have := World.cell?_setCell_same w ⟨b, off + i, none⟩ (.int K (f (k + i))) hu
    exact ⟨⟨_, this⟩, fun _ => this⟩
  · have hne : ∀ x, (w.setCell ⟨b, off + i, none⟩ x).cell? ⟨b, off + j, none⟩ = w.cell? ⟨b, off + j, none⟩ := fun x => World.cell?_setCell_other _ _ _ _ (fun he => e (by have := congrArg Addr.off he; simp at this; omega))
    exact ⟨⟨u, (hne _).trans hu⟩, fun hlt => (hne _).trans (h5 (by omega))⟩
/-- of n cells of a row the first i hold these numbers -/
def part (K : IntKind) (b : Nat) (T : TypeId) (n : Nat) (w : World) (l : List Int) (i : Nat) : Prop := w.rowIs b T n (fun j => if j < i then .int K (l.getD j 0) else .int K 0)
set_option maxRecDepth 100000 in
theorem part.set {K : IntKind} {b : Nat} {T : TypeId} {n : Nat} {w : World} {l : List Int} {i : Nat} {x : Int} (h : part K b T n w l i) (hx : x = l.getD i 0) : part K b T n (w.setCell ⟨b, i, none⟩ (.int K x)) l (i + 1) := by
  refine (World.rowIs.set h i _).congr fun j hj => ?_
  by_cases e : j = i
  · subst e
    rw [if_pos rfl, if_pos (by omega), hx]
  · rw [if_neg e]
    by_cases h1 : j < i
    · rw [if_pos h1, if_pos (by omega)]
    · rw [if_neg h1, if_neg (by omega)]
set_option maxRecDepth 100000 in
theorem part.done {K : IntKind} {b lo : Nat} {T : TypeId} {w : World} {l : List Int} (h : part K b T l.length w l l.length) (hlo : lo ≤ b) : nums K lo w.heap.size w (.slice (some ⟨b, 0, none⟩) l.length l.length) l :=
  ⟨_, _, rfl, Nat.le_refl _, fun j hj => ⟨b, 0, rfl, hlo, World.rowIs.lt h, by
    have := World.rowIs.cell h (i := 0 + j) (by omega)
    rw [this, Nat.zero_add, if_pos hj], World.rowIs.frozen h _⟩⟩
/-- a row of the call's own, from block B on: it holds these numbers, and may be appended to -/
def ow (T : TypeId) (K : IntKind) (B : Nat) (w : World) (v : Value) (L : List Int) : Prop := w.ownsRow B T 1 v L.length (L.map (Value.int K))
set_option maxRecDepth 100000 in
theorem ow.nums {T : TypeId} {K : IntKind} {B : Nat} {w : World} {v : Value} {L : List Int} (h : ow T K B w v L) : nums K B w.heap.size w v L := nums_of_own h
set_option maxRecDepth 100000 in
theorem ow.mono {T : TypeId} {K : IntKind} {B B' : Nat} {w : World} {v : Value} {L : List Int} (h : ow T K B w v L) (hB : B' ≤ B) : ow T K B' w v L := by
  refine ⟨h.1, ?_⟩
  rcases h.2 with hn | ⟨g, cap, cur, rfl, hb, rest⟩
  · exact .inl hn
  · exact .inr ⟨g, cap, cur, rfl, Nat.le_trans hB hb, rest⟩
set_option maxRecDepth 100000 in
theorem ow.below {T : TypeId} {K : IntKind} {B C : Nat} {w w' : World} {v : Value} {L : List Int} (h : ow T K B w v L) (hb : Below C w w') (hC : w.heap.size ≤ C) : ow T K B w' v L := by
  refine ⟨h.1, ?_⟩
  rcases h.2 with hn | ⟨g, cap, cur, rfl, hB, hg, rest⟩
  · exact .inl hn
  · exact .inr ⟨g, cap, cur, rfl, hB, (hb.block g (Nat.lt_of_lt_of_le (Array.getElem?_eq_some_iff.1 hg).1 hC)).trans hg, rest⟩
def isBytes (l : List Int) : Prop := ∀ z ∈ l, 0 ≤ z ∧ z ≤ 255
set_option maxRecDepth 100000 in
theorem isBytes.getD {l : List Int} (h : isBytes l) (k : Nat) : 0 ≤ l.getD k 0 ∧ l.getD k 0 ≤ 255 := by
  rw [List.getD_eq_getElem?_getD]
  cases hg : l[k]? with
  | none => simp
  | some z => exact h z (List.mem_of_getElem? hg)
def isInts (l : List Int) : Prop := ∀ z ∈ l, -9223372036854775808 ≤ z ∧ z ≤ 9223372036854775807
set_option maxRecDepth 100000 in
theorem isInts.getD {l : List Int} (h : isInts l) (k : Nat) : -9223372036854775808 ≤ l.getD k 0 ∧ l.getD k 0 ≤ 9223372036854775807 := by
  rw [List.getD_eq_getElem?_getD]
  cases hg : l[k]? with
  | none => simp
  | some z => exact h z (List.mem_of_getElem? hg)
end Go.Proofs.YtmojpiofdfmdgabDoor
set_option linter.unusedVariables false
namespace Go.Proofs.YtmojpiofdfmdgabDoor
open Go.ChangeShapes Go.WideShapes Go.ChangeAt Go.RowKit

/-- a type's layout: how many cells; which cells read as which data below block hi; which are memory of one's own in the blocks F -/
structure Rep (α : Type) where
  k : Nat
  rd : Nat → World → List Value → α → Prop
  own : World → List Value → α → List Nat → Prop
  rd_len : ∀ {hi w cs x}, rd hi w cs x → cs.length = k
  rd_keep : ∀ {hi w w' cs x}, rd hi w cs x → (∀ b, b < hi → w'.heap[b]? = w.heap[b]?) → rd hi w' cs x
  rd_mono : ∀ {hi hi' w cs x}, rd hi w cs x → hi ≤ hi' → rd hi' w cs x
  own_keep : ∀ {w w' cs x F}, own w cs x F → (∀ b ∈ F, w'.heap[b]? = w.heap[b]?) → own w' cs x F
  own_rd : ∀ {hi w cs x F}, own w cs x F → (∀ b ∈ F, b < hi) → rd hi w cs x
  one : ∀ {hi w cs x}, rd hi w cs x → ∀ c ∈ cs, c.oneCell' = true

def Rep.one1 {α : Type} (f : α → Value) (hf : ∀ x, (f x).oneCell' = true) : Rep α where
  k := 1
  rd _ _ cs x := cs = [f x]
  own _ cs x F := cs = [f x] ∧ F = []
  rd_len := by rintro hi w cs x rfl; rfl
  rd_keep := fun h _ => h
  rd_mono := fun h _ => h
  own_keep := fun h _ => h
  own_rd := fun h _ => h.1
  one := by rintro hi w cs x rfl c hc; rw [List.mem_singleton.1 hc]; exact hf x
def Rep.int (K : IntKind) : Rep Int := Rep.one1 (Value.int K) (fun _ => rfl)
def Rep.str : Rep ByteArray := Rep.one1 Value.string (fun _ => rfl)
def Rep.bool : Rep Bool := Rep.one1 Value.bool (fun _ => rfl)
def Rep.pair {α β : Type} (R : Rep α) (S : Rep β) : Rep (α × β) where
  k := R.k + S.k
  rd hi w cs x := ∃ a b, cs = a ++ b ∧ R.rd hi w a x.1 ∧ S.rd hi w b x.2
  own w cs x F := ∃ a b G H, cs = a ++ b ∧ F = G ++ H ∧ R.own w a x.1 G ∧ S.own w b x.2 H
  rd_len := by rintro hi w cs x ⟨a, b, rfl, h1, h2⟩; rw [List.length_append, R.rd_len h1, S.rd_len h2]
  rd_keep := by rintro hi w w' cs x ⟨a, b, rfl, h1, h2⟩ hk; exact ⟨a, b, rfl, R.rd_keep h1 hk, S.rd_keep h2 hk⟩
  rd_mono := by rintro hi hi' w cs x ⟨a, b, rfl, h1, h2⟩ hk; exact ⟨a, b, rfl, R.rd_mono h1 hk, S.rd_mono h2 hk⟩
  own_keep := by rintro w w' cs x F ⟨a, b, G, H, rfl, rfl, h1, h2⟩ hk; exact ⟨a, b, G, H, rfl, rfl, R.own_keep h1 fun b hb => hk b (List.mem_append_left _ hb), S.own_keep h2 fun b hb => hk b (List.mem_append_right _ hb)⟩
  own_rd := by rintro hi w cs x F ⟨a, b, G, H, rfl, rfl, h1, h2⟩ hk; exact ⟨a, b, rfl, R.own_rd h1 fun b hb => hk b (List.mem_append_left _ hb), S.own_rd h2 fun b hb => hk b (List.mem_append_right _ hb)⟩
  one := by
    rintro hi w cs x ⟨a, b, rfl, h1, h2⟩ c hc
    rcases List.mem_append.1 hc with h | h
    · exact R.one h1 c h
    · exact S.one h2 c h

set_option maxRecDepth 100000 in
theorem cell_keep {w w' : World} {b o : Nat} (h : w'.heap[b]? = w.heap[b]?) : w'.cell? ⟨b, o, none⟩ = w.cell? ⟨b, o, none⟩ := World.cell?_of_block (a := ⟨b, o, none⟩) h
set_option maxRecDepth 100000 in
theorem frozen_keep {w w' : World} {b o : Nat} (h : w'.heap[b]? = w.heap[b]?) : w'.frozen? ⟨b, o, none⟩ = w.frozen? ⟨b, o, none⟩ := World.frozen?_of_block (a := ⟨b, o, none⟩) h

/-- element j of a row of elements of k cells each, from cell off on -/
def atL (w : World) (b o : Nat) (xs : List Value) : Prop := ∀ t u, xs[t]? = some u → w.cell? ⟨b, o + t, none⟩ = some u
def freeL (w : World) (b o n : Nat) : Prop := ∀ t, t < n → w.frozen? ⟨b, o + t, none⟩ = false
def Rep.slice {α : Type} (R : Rep α) : Rep (List α) where
  k := 1
  rd hi w cs l := ∃ A c, cs = [.slice A l.length c] ∧ l.length ≤ c ∧ ∀ j x, l[j]? = some x → ∃ b off xs, A = some ⟨b, off, none⟩ ∧ b < hi ∧ R.rd hi w xs x ∧ atL w b (off + j * R.k) xs
  own w cs l F := ∃ A c, cs = [.slice A l.length c] ∧ l.length ≤ c ∧ ((l = [] ∧ F = []) ∨ ∃ b off Fs, A = some ⟨b, off, none⟩ ∧ F = b :: List.flatten Fs ∧ Fs.length = l.length ∧ ∀ j x G, l[j]? = some x → Fs[j]? = some G → ∃ xs, R.own w xs x G ∧ atL w b (off + j * R.k) xs ∧ freeL w b (off + j * R.k) R.k)
  rd_len := by rintro hi w cs x ⟨A, c, rfl, _⟩; rfl
  rd_keep := by
    rintro hi w w' cs l ⟨A, c, rfl, hc, h⟩ hk
    refine ⟨A, c, rfl, hc, fun j x hx => ?_⟩
    obtain ⟨b, off, xs, rfl, hb, hr, ha⟩ := h j x hx
    exact ⟨b, off, xs, rfl, hb, R.rd_keep hr hk, fun t u hu => (cell_keep (hk b hb)).trans (ha t u hu)⟩
  rd_mono := by
    rintro hi hi' w cs l ⟨A, c, rfl, hc, h⟩ hk
    refine ⟨A, c, rfl, hc, fun j x hx => ?_⟩
    obtain ⟨b, off, xs, rfl, hb, hr, ha⟩ := h j x hx
    exact ⟨b, off, xs, rfl, by omega, R.rd_mono hr hk, ha⟩
  own_keep := by
    rintro w w' cs l F ⟨A, c, rfl, hc, h⟩ hk
    refine ⟨A, c, rfl, hc, ?_⟩
    rcases h with h | ⟨b, off, Fs, rfl, rfl, hl, h⟩
    · exact .inl h
    · refine .inr ⟨b, off, Fs, rfl, rfl, hl, fun j x G hx hG => ?_⟩
      obtain ⟨xs, h1, h2, h3⟩ := h j x G hx hG
      have hb := hk b (List.mem_cons_self ..)
      exact ⟨xs, R.own_keep h1 fun b' hb' => hk b' (List.mem_cons_of_mem _ (List.mem_flatten.2 ⟨G, List.mem_of_getElem? hG, hb'⟩)), fun t u hu => (cell_keep hb).trans (h2 t u hu), fun t ht => (frozen_keep hb).trans (h3 t ht)⟩
  own_rd := by
    rintro hi w cs l F ⟨A, c, rfl, hc, h⟩ hk
    refine ⟨A, c, rfl, hc, fun j x hx => ?_⟩
    rcases h with ⟨rfl, _⟩ | ⟨b, off, Fs, rfl, rfl, hl, h⟩
    · simp at hx
    · have hj : j < l.length := (List.getElem?_eq_some_iff.1 hx).1
      have hG : Fs[j]? = some (Fs[j]'(by omega)) := List.getElem?_eq_getElem (by omega)
      obtain ⟨xs, h1, h2, h3⟩ := h j x _ hx hG
      exact ⟨b, off, xs, rfl, hk b (List.mem_cons_self ..), R.own_rd h1 fun b' hb' => hk b' (List.mem_cons_of_mem _ (List.mem_flatten.2 ⟨_, List.mem_of_getElem? hG, hb'⟩)), h2⟩
  one := by rintro hi w cs x ⟨A, c, rfl, _⟩ v hv; rw [List.mem_singleton.1 hv]; rfl

/-- memory of one's own from block lo up to block hi, no block twice -/
def Rep.mine {α : Type} (R : Rep α) (lo hi : Nat) (w : World) (cs : List Value) (x : α) : Prop := ∃ F, R.own w cs x F ∧ F.Nodup ∧ ∀ b ∈ F, lo ≤ b ∧ b < hi
section
variable {α β : Type} {R : Rep α} {S : Rep β} {lo lo' hi hi' B : Nat} {w w' : World} {cs : List Value} {x : α}
set_option maxRecDepth 100000 in
theorem Rep.mine.rd (h : R.mine lo hi w cs x) : R.rd hi w cs x := by
  obtain ⟨F, h1, _, h3⟩ := h
  exact R.own_rd h1 fun b hb => (h3 b hb).2
set_option maxRecDepth 100000 in
theorem Rep.mine.mono (h : R.mine lo hi w cs x) (h1 : lo' ≤ lo) (h2 : hi ≤ hi') : R.mine lo' hi' w cs x := by
  obtain ⟨F, h3, h4, h5⟩ := h
  exact ⟨F, h3, h4, fun b hb => by have := h5 b hb; omega⟩
set_option maxRecDepth 100000 in
theorem Rep.mine.keep (h : R.mine lo hi w cs x) (hk : ∀ b, lo ≤ b → b < hi → w'.heap[b]? = w.heap[b]?) : R.mine lo hi w' cs x := by
  obtain ⟨F, h3, h4, h5⟩ := h
  exact ⟨F, R.own_keep h3 fun b hb => hk b (h5 b hb).1 (h5 b hb).2, h4, h5⟩
set_option maxRecDepth 100000 in
theorem Rep.mine.below (h : R.mine lo hi w cs x) (hb : Below B w w') (hB : hi ≤ B) : R.mine lo hi w' cs x := h.keep fun b _ h2 => hb.block b (by omega)
set_option maxRecDepth 100000 in
theorem Rep.below (h : R.rd hi w cs x) (hb : Below B w w') (hB : hi ≤ B) : R.rd hi w' cs x := R.rd_keep h fun b h2 => hb.block b (by omega)
end
/-- only blocks from lo up to hi have turned, and new ones have come -/
structure Turned (lo hi : Nat) (w w' : World) : Prop where
  os : w'.os = w.os
  tape : w'.tape = w.tape
  output : w'.output = w.output
  size : w.heap.size ≤ w'.heap.size
  block : ∀ b, b < w.heap.size → (b < lo ∨ hi ≤ b) → w'.heap[b]? = w.heap[b]?
set_option maxRecDepth 100000 in
theorem Turned.refl (lo hi : Nat) (w : World) : Turned lo hi w w := ⟨rfl, rfl, rfl, Nat.le_refl _, fun _ _ _ => rfl⟩
set_option maxRecDepth 100000 in
theorem Turned.trans {lo hi : Nat} {u v w : World} (h : Turned lo hi u v) (g : Turned lo hi v w) : Turned lo hi u w :=
  ⟨g.os.trans h.os, g.tape.trans h.tape, g.output.trans h.output, Nat.le_trans h.size g.size, fun b h1 h2 => (g.block b (Nat.lt_of_lt_of_le h1 h.size) h2).trans (h.block b h1 h2)⟩
set_option maxRecDepth 100000 in
theorem Turned.mono {lo hi lo' hi' : Nat} {u v : World} (h : Turned lo hi u v) (h1 : lo' ≤ lo) (h2 : hi ≤ hi') : Turned lo' hi' u v :=
  ⟨h.os, h.tape, h.output, h.size, fun b hb hh => h.block b hb (by omega)⟩
set_option maxRecDepth 100000 in
theorem Turned.below {lo hi B : Nat} {u v : World} (h : Turned lo hi u v) (hB : B ≤ lo) (hs : B ≤ u.heap.size) : Below B u v := ⟨h.os, h.tape, h.output, h.size, fun b hb => h.block b (by omega) (by omega)⟩
set_option maxRecDepth 100000 in
theorem Turned.set {lo hi : Nat} {u v : World} (h : Turned lo hi u v) {b : Nat} (o : Nat) (x : Value) (h1 : lo ≤ b) (h2 : b < hi) : Turned lo hi u (v.setCell ⟨b, o, none⟩ x) :=
  ⟨h.os, h.tape, h.output, by simpa [World.setCell] using h.size, fun k hk hh => (Below.heap_setCell _ _ _ _ (show k ≠ b by omega)).trans (h.block k hk hh)⟩
section
variable {α : Type} {R : Rep α} {lo hi lo' hi' : Nat} {w w' : World} {cs : List Value} {x : α}
set_option maxRecDepth 100000 in
theorem Rep.turned (h : R.rd hi w cs x) (ht : Turned lo' hi' w w') (h1 : hi ≤ lo') (h2 : hi ≤ w.heap.size) : R.rd hi w' cs x := R.rd_keep h fun b hb => ht.block b (by omega) (by omega)
set_option maxRecDepth 100000 in
theorem Rep.mine.turned (h : R.mine lo hi w cs x) (ht : Turned lo' hi' w w') (h1 : hi ≤ lo' ∨ hi' ≤ lo) (h2 : hi ≤ w.heap.size) : R.mine lo hi w' cs x := h.keep fun b hb1 hb2 => ht.block b (by omega) (by omega)
end

set_option maxRecDepth 100000 in
theorem atL_one {w : World} {b o : Nat} {u : Value} : atL w b o [u] ↔ w.cell? ⟨b, o, none⟩ = some u := by
  constructor
  · intro h; exact h 0 u rfl
  · intro h t v hv
    cases t with
    | zero => cases hv; exact h
    | succ t => simp at hv
end Go.Proofs.YtmojpiofdfmdgabDoor
set_option linter.unusedVariables false
namespace Go.Proofs.YtmojpiofdfmdgabDoor
open Go.ChangeShapes Go.WideShapes Go.ChangeAt Go.RowKit Go.Deep

/-- what reads as data of type T reads as R's data, with G -/
def Opens {H : Type} (enc : TypeId × Value → H) (P : Program) (w : World) {α : Type} (R : Rep α) (T : TypeId) (G : α → Prop) : Prop :=
  ∀ (fuel : Nat) (cs : List Value) (x : DataW H × List MemPlace), DataW.trod enc P w 0 (fun _ => true) true fuel T cs = some x → ∃ y, R.rd w.heap.size w cs y ∧ G y
def OpensF {H : Type} (enc : TypeId × Value → H) (P : Program) (w : World) {α : Type} (fs : List Field) (off : Nat) (R : Rep α) (G : α → Prop) : Prop :=
  ∀ (n : Nat) (cs : List Value) (xs : List (DataW H × List MemPlace)), cs.length = off + R.k → xs.length = fs.length →
    (∀ (i : Nat) (f : Field), fs[i]? = some f → DataW.trod enc P w 0 (fun _ => true) true n f.type ((cs.drop f.offset).take (P.cellsOf f.type)) = xs[i]?) → ∃ y, R.rd w.heap.size w (cs.drop off) y ∧ G y
section
variable {H : Type} {enc : TypeId × Value → H} {P : Program} {w : World} {α β : Type} {R : Rep α} {S : Rep β} {G : α → Prop} {G' : β → Prop} {T e : TypeId}
set_option maxRecDepth 100000 in
theorem opens_int {K : IntKind} (ht : P.underlying T = some (.int K)) : Opens enc P w (Rep.int K) T (fun z => (Lit.int K z).wf = true) := by
  intro fuel cs x h
  obtain ⟨n, rfl, _, hw⟩ := DataW.trod_int ht h
  exact ⟨n, rfl, hw⟩
set_option maxRecDepth 100000 in
theorem opens_str (ht : P.underlying T = some .string) : Opens enc P w Rep.str T (fun s => s.size ≤ maxLen) := by
  intro fuel cs x h
  obtain ⟨n, rfl, _, hw⟩ := DataW.trod_string ht h
  exact ⟨n, rfl, hw⟩
set_option maxRecDepth 100000 in
theorem opensF_one {f : Field} {off : Nat} (h : Opens enc P w R f.type G) (ho : f.offset = off) (hk : P.cellsOf f.type = R.k) : OpensF enc P w [f] off R G := by
  intro n cs xs hl hx hf
  match xs, hx with
  | [x], _ =>
    have := hf 0 f rfl
    rw [ho, hk, List.take_of_length_le (by rw [List.length_drop]; omega)] at this
    exact h n _ _ this
set_option maxRecDepth 100000 in
theorem opensF_cons {f : Field} {fs : List Field} {off : Nat} (h : Opens enc P w R f.type G) (ho : f.offset = off) (hk : P.cellsOf f.type = R.k) (hr : OpensF enc P w fs (off + R.k) S G') : OpensF enc P w (f :: fs) off (R.pair S) (fun y => G y.1 ∧ G' y.2) := by
  intro n cs xs hl hx hf
  match xs, hx with
  | x :: xs, hx =>
    have h0 := hf 0 f rfl
    rw [ho, hk] at h0
    obtain ⟨y, h1, h2⟩ := h n _ _ h0
    have hl' : cs.length = off + R.k + S.k := by rw [hl]; show off + (R.k + S.k) = _; omega
    obtain ⟨z, h3, h4⟩ := hr n cs xs hl' (by simpa using hx) (fun i g hg => by simpa using hf (i + 1) g (by simpa using hg))
    refine ⟨(y, z), ⟨(cs.drop off).take R.k, cs.drop (off + R.k), ?_, h1, h3⟩, h2, h4⟩
    rw [← List.drop_drop]
    exact (List.take_append_drop _ _).symm
set_option maxRecDepth 100000 in
theorem opens_struct {fs : Array Field} (ht : P.underlying T = some (.struct fs)) (hC : P.cellsOf T = R.k) (h : OpensF enc P w fs.toList 0 R G) : Opens enc P w R T G := by
  intro fuel cs x hx
  obtain ⟨xs, n, _, _, hl, hlen, hf⟩ := DataW.trod_struct ht hx
  have := h n cs xs (by rw [hl, hC]; omega) (by simpa using hlen) (fun i f hif => hf i f (by simpa using hif))
  simpa using this
end
end Go.Proofs.YtmojpiofdfmdgabDoor
set_option linter.unusedVariables false
namespace Go.Proofs.YtmojpiofdfmdgabDoor
open Go.ChangeShapes Go.WideShapes Go.ChangeAt Go.RowKit

set_option maxRecDepth 100000 in
theorem specDigits_any (s : ByteArray) (w : World) (hs : s.size ≤ maxLen) :
    Calls Tryd.prog 11 #[.string s] w fun e w' => e = .returned (.bool (digs s)) ∧ w = w' := by
  unfold maxLen at hs
  go_enter Tryd.func11, Tryd.ntmps11
  go_wp2
  go_loop [3] (fun i => ∃ k : Nat, k ≤ s.size ∧ i = .int .i64 k ∧ (s.data.toList.take k).all isDig = true) (fun i => s.size - (intOf i).toNat)
  case atStart => exact ⟨0, Nat.zero_le _, rfl, rfl⟩
  case round =>
    obtain ⟨k, hk, rfl, ha0⟩ := hrel
    have ha := Lib.hid ha0
    clear ha0
    by_cases hlt : k < s.size
    · go_wp2
      · go_ret
        exact ⟨ret_bool (digs_no s k hlt ((isDig_no _).2 (by omega))).symm, rfl⟩
      · go_round
        case rel => exact ⟨k + 1, by omega, by go_num, all_one s k hlt ha.out ((isDig_iff _).2 (by omega))⟩
        case measure => simp [intOf] <;> omega
      · go_ret
        exact ⟨ret_bool (digs_no s k hlt ((isDig_no _).2 (by omega))).symm, rfl⟩
    · go_wp2
      go_ret
      exact ⟨ret_bool (digs_end s k hlt ha.out), rfl⟩

end Go.Proofs.YtmojpiofdfmdgabDoor
set_option linter.unusedVariables false
namespace Go.Proofs.YtmojpiofdfmdgabDoor
open Go.ChangeShapes Go.WideShapes Go.ChangeAt Go.RowKit

/-- is the number of a character a digit's? -/
def runeDig (r : Int) : Bool := decide (48 ≤ r) && decide (r ≤ 57)
set_option maxRecDepth 100000 in
theorem isDigit_any (r : Int) (w : World) : Calls Tryd.prog 46 #[.int .i32 r] w fun e w' => e = .returned (.bool (runeDig r)) ∧ w = w' := by
  by_cases h0 : 48 ≤ r
  all_goals
    go_enter Tryd.func46, Tryd.ntmps46
    go_wp2
    go_ret
    exact ⟨by simp [runeDig]; omega, rfl⟩

set_option maxRecDepth 100000 in
/-- The character at a place: a digit there, or none. -/
theorem rune_dig (s : ByteArray) (pos : Nat) (h : pos < s.size) (hd : isDig s[pos] = true) : Utf8.decode s pos = (s[pos].toNat, 1) ∧ runeDig (s[pos].toNat : Int) = true := by
  have h1 := (isDig_iff _).1 hd
  exact ⟨decode_ascii s pos h (by omega), by simp [runeDig]; omega⟩
set_option maxRecDepth 100000 in
theorem rune_not (s : ByteArray) (pos : Nat) (h : pos < s.size) (hd : isDig s[pos] = false) : runeDig ((Utf8.decode s pos).1 : Int) = false := by
  have h1 := (isDig_no _).1 hd
  rcases Nat.lt_or_ge s[pos].toNat 128 with h2 | h2
  · rw [decode_ascii s pos h h2]; simp [runeDig]; omega
  · have := (decode_high s pos h h2).1; simp [runeDig]; omega

end Go.Proofs.YtmojpiofdfmdgabDoor
set_option linter.unusedVariables false
namespace Go.Proofs.YtmojpiofdfmdgabDoor
open Go.ChangeShapes Go.WideShapes Go.ChangeAt Go.RowKit

set_option maxRecDepth 100000 in
theorem implDigits_any (s : ByteArray) (w : World) (hs : s.size ≤ maxLen) :
    Calls Tryd.prog 44 #[.string s] w fun e w' => e = .returned (.bool (digs s)) ∧ Below w.heap.size w w' := by
  unfold maxLen at hs
  go_enter Tryd.func44, Tryd.ntmps44
  go_wp2
  go_loopw [2] (fun _ wr => ∃ k : Nat, k ≤ s.size ∧ wr = w.iter s k ∧ (s.data.toList.take k).all isDig = true) (fun _ wr => s.size - wr.iterPos w.heap.size)
  case atStart => exact ⟨0, Nat.zero_le _, rfl, rfl⟩
  case round =>
    obtain ⟨k, hk, rfl, ha0⟩ := hrel
    have ha := Lib.hid ha0
    clear ha0
    by_cases hlt : k < s.size
    · cases hd : isDig s[k]
      · have hr := rune_not s k hlt hd
        have hnx : ∀ ty, (Instr.next (.pointer (some ⟨w.heap.size, 0, none⟩)) true ty).run Tryd.prog (w.iter s k) = _ := fun ty => run_next_any w s k ty hlt
        generalize hq : Utf8.decode s k = q at hnx hr
        obtain ⟨r, wd⟩ := q
        clear hq
        go_wp2_with (go_at_call 46; refine (isDigit_any _ _).mono ?_; rintro e w' ⟨rfl, rfl⟩)
        go_ret
        exact ⟨ret_bool (digs_no s k hlt hd).symm, below_iter _ _ _⟩
      · obtain ⟨hdec, hr⟩ := rune_dig s k hlt hd
        have hnx : ∀ ty, (Instr.next (.pointer (some ⟨w.heap.size, 0, none⟩)) true ty).run Tryd.prog (w.iter s k) = _ := fun ty => run_next_any w s k ty hlt
        rw [hdec] at hnx
        have hb := Lib.hid (all_one s k hlt ha.out hd)
        clear hdec hd
        go_wp2_with (go_at_call 46; refine (isDigit_any _ _).mono ?_; rintro e w' ⟨rfl, rfl⟩)
        go_roundw
        case rel => exact ⟨k + 1, by omega, rfl, hb.out⟩
        case measure => simp <;> omega
    · have hnx : ∀ ty, (Instr.next (.pointer (some ⟨w.heap.size, 0, none⟩)) true ty).run Tryd.prog (w.iter s k) = _ := fun ty => run_next_end w s k ty hlt
      go_wp2
      go_ret
      exact ⟨ret_bool ((not_empty s).trans (digs_end s k hlt ha.out)), below_iter _ _ _⟩
end Go.Proofs.YtmojpiofdfmdgabDoor
set_option linter.unusedVariables false
namespace Go.Proofs.YtmojpiofdfmdgabDoor
open Go.ChangeShapes Go.WideShapes Go.ChangeAt Go.RowKit

set_option maxRecDepth 100000 in
theorem four {s : ByteArray} (h : s.size = 4) : ∃ a b c d, s = ⟨#[a, b, c, d]⟩ := by
  obtain ⟨⟨l⟩⟩ := s
  match l, h with
  | [a, b, c, d], _ => exact ⟨a, b, c, d, rfl⟩
end Go.Proofs.YtmojpiofdfmdgabDoor
set_option linter.unusedVariables false
namespace Go.Proofs.YtmojpiofdfmdgabDoor
open Go.ChangeShapes Go.WideShapes Go.ChangeAt Go.RowKit

end Go.Proofs.YtmojpiofdfmdgabDoor
set_option linter.unusedVariables false
namespace Go.Proofs.YtmojpiofdfmdgabDoor
open Go.ChangeShapes Go.WideShapes Go.ChangeAt Go.RowKit

/-- block p holds these texts -/
def strsAt (w : World) (p : Nat) (L : List (List UInt8)) : Prop := ∀ (j : Nat) (x : List UInt8), L[j]? = some x → w.cell? ⟨p, j, none⟩ = some (.string ⟨x.toArray⟩)
set_option maxRecDepth 100000 in
theorem strs_at (w : World) (T : TypeId) (L : List (List UInt8)) (us : Array Value) (hu : us = (L.map fun x => Value.string ⟨x.toArray⟩).toArray) : strsAt (w.alloc (.cells us T)) w.heap.size L := by
  subst hu
  intro j x hx
  rw [cell_of_row _ _ j _ _ (0, 0) (heap_alloc_new _ _)]
  simp [hx]
set_option maxRecDepth 100000 in
theorem str_no {a b : ByteArray} (h : a ≠ b) : (a.toList == b.toList) = false := by
  rw [beq_eq_false_iff_ne, ByteArray.toList_eq, ByteArray.toList_eq]
  intro e
  exact h (ByteArray.ext (Array.toList_inj.1 e))
set_option maxRecDepth 100000 in
theorem specIn_any (n lo hi : Int) (w : World) : Calls Tryd.prog 15 #[.int .i64 n, .int .i64 lo, .int .i64 hi] w fun e w' => e = .returned (.bool (decide (lo ≤ n ∧ n ≤ hi))) ∧ w = w' := by
  by_cases h0 : lo ≤ n
  · by_cases h1 : n ≤ hi
    · have hd : Hid (decide (lo ≤ n ∧ n ≤ hi) = true) := Lib.hid (by simp [h0, h1])
      rw [hd.out]
      go_enter Tryd.func15, Tryd.ntmps15
      go_wp2
      go_ret
      exact ⟨rfl, rfl⟩
    · have hd : Hid (decide (lo ≤ n ∧ n ≤ hi) = false) := Lib.hid (by simp [h1])
      rw [hd.out]
      go_enter Tryd.func15, Tryd.ntmps15
      go_wp2
      go_ret
      exact ⟨rfl, rfl⟩
  · have hd : Hid (decide (lo ≤ n ∧ n ≤ hi) = false) := Lib.hid (by simp [h0])
    rw [hd.out]
    go_enter Tryd.func15, Tryd.ntmps15
    go_wp2
    go_ret
    exact ⟨rfl, rfl⟩
end Go.Proofs.YtmojpiofdfmdgabDoor
set_option linter.unusedVariables false
namespace Go.Proofs.YtmojpiofdfmdgabDoor
open Go.ChangeShapes Go.WideShapes Go.ChangeAt Go.RowKit

/-- row by row: type, code, name -/
def opRows : List (List (List UInt8)) := [[[], [], []], [[48, 49, 48, 48], [48, 48], [97, 117, 116, 104]], [[48, 49, 48, 48], [48, 50], [109, 111, 114, 101]], [[48, 50, 50, 48], [48, 49], [112, 97, 114, 116]], [[48, 50, 50, 48], [48, 48], [102, 105, 110, 97, 108]], [[48, 50, 50, 48], [50, 48], [102, 114, 101, 101]], [[48, 50, 48, 48], [52, 48], [109, 111, 118, 101]], [[48, 49, 48, 48], [51, 49], [97, 115, 107]], [[48, 50, 48, 48], [57, 48], [115, 119, 101, 101, 112]]]
def opB (k i : Nat) : List UInt8 := (opRows.getD i []).getD k []
/-- text k of operation op, or the empty one -/
def opTxt (k : Nat) (op : Int) : ByteArray := if 0 ≤ op then ⟨(opB k op.toNat).toArray⟩ else ⟨#[]⟩
def isOp (op : Int) : Bool := decide (1 ≤ op ∧ op ≤ 8)
set_option maxRecDepth 100000 in
theorem opTxt_nat (k i : Nat) : opTxt k (i : Int) = ⟨(opB k i).toArray⟩ := by simp [opTxt]
set_option maxRecDepth 100000 in
theorem opTxt_neg (k : Nat) {op : Int} (h : op < 0) : opTxt k op = ⟨#[]⟩ := by simp [opTxt]; omega
set_option maxRecDepth 100000 in
theorem opTxt_out (k : Nat) {op : Int} (h : ¬ (1 ≤ op ∧ op ≤ 8)) : opTxt k op = ⟨#[]⟩ := by
  by_cases h0 : op < 0
  · exact opTxt_neg k h0
  · obtain ⟨i, rfl⟩ := Int.eq_ofNat_of_zero_le (show 0 ≤ op by omega)
    rw [opTxt_nat]
    by_cases hi : i = 0
    · subst hi
      unfold opB
      match k with
      | 0 => rfl
      | 1 => rfl
      | 2 => rfl
      | k + 3 => rfl
    · have h9 : 9 ≤ i := by omega
      have e : opRows.getD i [] = [] := by rw [List.getD_eq_getElem?_getD, List.getElem?_eq_none (show opRows.length ≤ i from h9)]; rfl
      unfold opB
      rw [e]
      simp
set_option maxRecDepth 100000 in
theorem op_cases {op : Int} (h : 1 ≤ op ∧ op ≤ 8) : op = 1 ∨ op = 2 ∨ op = 3 ∨ op = 4 ∨ op = 5 ∨ op = 6 ∨ op = 7 ∨ op = 8 := by omega

set_option maxRecDepth 100000 in
theorem l11Op_any (op : Int) (w : World) : Calls Tryd.prog 8 #[.int .i64 op] w fun e w' => e = .returned (.bool (isOp op)) ∧ w = w' := by
  have HI := Lib.hid (specIn_any op 1 8)
  go_enter Tryd.func8, Tryd.ntmps8
  go_wp2_with fail
  refine (HI.out _).mono ?_
  rintro e w1 ⟨rfl, rfl⟩
  go_wp2
  go_ret
  exact ⟨congrArg (fun b => Ending.returned (.bool b)) (by simp [isOp]), rfl⟩
def opCol (k : Nat) : List (List UInt8) := opRows.map fun r => r.getD k []
set_option maxRecDepth 100000 in
theorem opCol_at (k : Nat) {op : Int} (h : 1 ≤ op ∧ op ≤ 8) : (opCol k)[op.toNat]? = some (opB k op.toNat) := by
  have hl : op.toNat < opRows.length := by show op.toNat < 9; omega
  simp [opCol, opB, List.getElem?_eq_getElem hl]
set_option maxRecDepth 100000 in
theorem specMtis_any (w : World) : Calls Tryd.prog 18 #[] w fun e w' => e = .returned (.slice (some ⟨w.heap.size, 0, none⟩) 9 9) ∧ strsAt w' w.heap.size (opCol 0) ∧ Below w.heap.size w w' ∧ w.heap.size < w'.heap.size := by
  go_enter Tryd.func18, Tryd.ntmps18
  go_wp2
  go_ret
  exact ⟨rfl, strs_at _ _ (opCol 0) _ (by rfl), (Below.refl _ _).alloc (Nat.le_refl _) _, by simp⟩
set_option maxRecDepth 100000 in
theorem specOpMti_any (op : Int) (w : World) : Calls Tryd.prog 9 #[.int .i64 op] w fun e w' => e = .returned (.string (opTxt 0 op)) ∧ Below w.heap.size w w' := by
  have HI := Lib.hid (l11Op_any op)
  by_cases h : 1 ≤ op ∧ op ≤ 8
  · obtain ⟨i, rfl⟩ := Int.eq_ofNat_of_zero_le (show 0 ≤ op by omega)
    have hI : isOp (i : Int) = true := decide_eq_true h
    rw [hI] at HI
    rw [opTxt_nat]
    have HX := Lib.hid (opCol_at 0 h)
    have g0 : 0 ≤ (i : Int) := by omega
    have g1 : (i : Int) < 9 := by omega
    clear h hI
    go_enter Tryd.func9, Tryd.ntmps9
    go_wp2_with fail
    refine (HI.out _).mono ?_
    rintro e w1 ⟨rfl, rfl⟩
    go_wp2_with fail
    refine (specMtis_any _).mono ?_
    rintro e w2 ⟨rfl, hst, hb, hz⟩
    have hc := hst i _ HX.out
    clear hst
    go_wp2
    go_ret
    exact ⟨rfl, hb⟩
  · have hI : isOp op = false := decide_eq_false h
    rw [opTxt_out 0 h]
    rw [hI] at HI
    clear h hI
    go_enter Tryd.func9, Tryd.ntmps9
    go_wp2_with fail
    refine (HI.out _).mono ?_
    rintro e w1 ⟨rfl, rfl⟩
    go_wp2
    go_ret
    exact ⟨rfl, Below.refl _ _⟩
end Go.Proofs.YtmojpiofdfmdgabDoor
set_option linter.unusedVariables false
namespace Go.Proofs.YtmojpiofdfmdgabDoor
open Go.ChangeShapes Go.WideShapes Go.ChangeAt Go.RowKit

/-- cells stored one behind the other -/
def setsAt (w : World) (b o : Nat) : List Value → World
  | [] => w
  | u :: us => setsAt (w.setCell ⟨b, o, none⟩ u) b (o + 1) us
/-- n cells from o on are there and may be written -/
def roomL (w : World) (b o n : Nat) : Prop := ∀ t, t < n → (∃ u, w.cell? ⟨b, o + t, none⟩ = some u) ∧ w.frozen? ⟨b, o + t, none⟩ = false
set_option maxRecDepth 100000 in
theorem roomL.set {w : World} {b o n : Nat} (h : roomL w b o n) (p : Nat) (x : Value) : roomL (w.setCell ⟨b, p, none⟩ x) b o n := fun t ht => by
  obtain ⟨⟨u, hu⟩, hf⟩ := h t ht
  refine ⟨?_, by simpa using hf⟩
  by_cases e : p = o + t
  · subst e; exact ⟨_, World.cell?_setCell_same w _ x hu⟩
  · exact ⟨u, (World.cell?_setCell_other _ _ _ _ (fun he => e (by have := congrArg Addr.off he; simp at this; omega))).trans hu⟩
set_option maxRecDepth 100000 in
theorem roomL.keep {w w' : World} {b o n : Nat} (h : roomL w b o n) (hk : w'.heap[b]? = w.heap[b]?) : roomL w' b o n := fun t ht => by
  obtain ⟨⟨u, hu⟩, hf⟩ := h t ht
  exact ⟨⟨u, (cell_keep hk).trans hu⟩, (frozen_keep hk).trans hf⟩
set_option maxRecDepth 100000 in
theorem roomL.sub {w : World} {b o n o' n' : Nat} (h : roomL w b o n) (h1 : o ≤ o') (h2 : o' + n' ≤ o + n) : roomL w b o' n' := fun t ht => by
  have := h (o' - o + t) (by omega)
  rwa [show o + (o' - o + t) = o' + t by omega] at this
set_option maxRecDepth 100000 in
theorem roomL.free {w : World} {b o n : Nat} (h : roomL w b o n) : freeL w b o n := fun t ht => (h t ht).2
set_option maxRecDepth 100000 in
theorem atL.keep {w w' : World} {b o : Nat} {us : List Value} (h : atL w b o us) (hk : w'.heap[b]? = w.heap[b]?) : atL w' b o us := fun t u hu => (cell_keep hk).trans (h t u hu)
set_option maxRecDepth 100000 in
theorem atL.set_far {w : World} {b o p : Nat} {us : List Value} (h : atL w b o us) (hp : p < o ∨ o + us.length ≤ p) (x : Value) : atL (w.setCell ⟨b, p, none⟩ x) b o us := fun t u hu => by
  have ht := (List.getElem?_eq_some_iff.1 hu).1
  exact (World.cell?_setCell_other _ _ _ _ (fun he => by have := congrArg Addr.off he; simp at this; omega)).trans (h t u hu)
set_option maxRecDepth 100000 in
theorem setsAt_far (us : List Value) : ∀ (w : World) (b o : Nat) (vs : List Value) (p : Nat), atL w b p vs → (p + vs.length ≤ o ∨ o + us.length ≤ p) → atL (setsAt w b o us) b p vs := by
  induction us with
  | nil => intro w b o vs p h _; exact h
  | cons u us ih =>
    intro w b o vs p h hp
    simp only [List.length_cons] at hp
    exact ih _ b (o + 1) vs p (h.set_far (by omega) u) (by omega)
set_option maxRecDepth 100000 in
theorem setsAt_room (us : List Value) : ∀ (w : World) (b o p n : Nat), roomL w b p n → roomL (setsAt w b o us) b p n := by
  induction us with
  | nil => intro w b o p n h; exact h
  | cons u us ih => intro w b o p n h; exact ih _ b (o + 1) p n (h.set _ _)
set_option maxRecDepth 100000 in
theorem setsAt_at (us : List Value) : ∀ (w : World) (b o : Nat), roomL w b o us.length → atL (setsAt w b o us) b o us := by
  induction us with
  | nil => intro w b o _ t u hu; simp at hu
  | cons u us ih =>
    intro w b o h t v hv
    have hroom := h.set o u
    obtain ⟨⟨x, hx⟩, _⟩ := h 0 (by simp)
    have h0 : atL (w.setCell ⟨b, o, none⟩ u) b o [u] := atL_one.2 (World.cell?_setCell_same w ⟨b, o, none⟩ u hx)
    have h1 := setsAt_far us (w.setCell ⟨b, o, none⟩ u) b (o + 1) [u] o h0 (.inl (by simp))
    have h2 := ih (w.setCell ⟨b, o, none⟩ u) b (o + 1) (hroom.sub (by omega) (by simp; omega))
    cases t with
    | zero => cases hv; exact atL_one.1 h1
    | succ t =>
      have := h2 t v (by simpa using hv)
      rwa [show o + 1 + t = o + (t + 1) by omega] at this
set_option maxRecDepth 100000 in
theorem setsAt_turned {lo hi : Nat} {u : World} (us : List Value) : ∀ (w : World) (b o : Nat), Turned lo hi u w → lo ≤ b → b < hi → Turned lo hi u (setsAt w b o us) := by
  induction us with
  | nil => intro w b o h _ _; exact h
  | cons v us ih => intro w b o h h1 h2; exact ih _ b (o + 1) (h.set o v h1 h2) h1 h2
/-- of n elements of k cells each in block b the first i hold E 0, E 1, ..; all cells are there and may be written -/
structure filled (w : World) (b off k n i : Nat) (E : Nat → List Value) : Prop where
  room : roomL w b off (n * k)
  at_ : ∀ j, j < i → atL w b (off + j * k) (E j)
set_option maxRecDepth 100000 in
theorem filled.keep {w w' : World} {b off k n i : Nat} {E : Nat → List Value} (h : filled w b off k n i E) (hk : w'.heap[b]? = w.heap[b]?) : filled w' b off k n i E := ⟨h.room.keep hk, fun j hj => (h.at_ j hj).keep hk⟩
set_option maxRecDepth 100000 in
theorem mul_step {j k i : Nat} (h : j < i) : j * k + k ≤ i * k := by
  have : (j + 1) * k ≤ i * k := Nat.mul_le_mul_right k h
  rwa [Nat.add_mul, Nat.one_mul] at this
set_option maxRecDepth 100000 in
theorem filled.next {w : World} {b off k n i : Nat} {E : Nat → List Value} (h : filled w b off k n i E) (hi : i < n) (hE : ∀ j, j ≤ i → (E j).length = k) : filled (setsAt w b (off + i * k) (E i)) b off k n (i + 1) E := by
  have hik := mul_step (k := k) hi
  refine ⟨setsAt_room _ _ _ _ _ _ h.room, fun j hj => ?_⟩
  by_cases e : j = i
  · subst e
    exact setsAt_at _ _ _ _ (h.room.sub (by omega) (by rw [hE j (Nat.le_refl _)]; omega))
  · have hjk := mul_step (k := k) (show j < i by omega)
    exact setsAt_far _ _ _ _ _ _ (h.at_ j (by omega)) (.inl (by rw [hE j (by omega)]; omega))
set_option maxRecDepth 100000 in
/-- a cell of element j -/
theorem filled.cells {w : World} {b off k n i j : Nat} {E : Nat → List Value} (h : filled w b off k n i E) (hj : j < n) (t : Nat) (ht : t < k) : (∃ u, w.cell? ⟨b, off + j * k + t, none⟩ = some u) ∧ w.frozen? ⟨b, off + j * k + t, none⟩ = false := by
  have hjk := mul_step (k := k) hj
  have := h.room (j * k + t) (by omega)
  rwa [← Nat.add_assoc] at this
end Go.Proofs.YtmojpiofdfmdgabDoor
set_option linter.unusedVariables false
namespace Go.Proofs.YtmojpiofdfmdgabDoor
open Go.ChangeShapes Go.WideShapes Go.ChangeAt Go.RowKit

/-- what is left of a bound, or -1 -/
def leftOf (left : Int) (need : Nat) (r : Int) : Prop := r = -1 ∨ (r = left - need ∧ 0 ≤ r)
def szRes (left : Int) (need : Nat) (w : World) (e : Ending) (w' : World) : Prop := ∃ r, e = .returned (.int .i64 r) ∧ leftOf left need r ∧ Below w.heap.size w w'
end Go.Proofs.YtmojpiofdfmdgabDoor
set_option linter.unusedVariables false
namespace Go.Proofs.YtmojpiofdfmdgabDoor
open Go.ChangeShapes Go.WideShapes Go.ChangeAt Go.RowKit

/-- block g holds these cells, all of them free to be written -/
def bk (w : World) (g : Nat) (t : TypeId) (cs : List Value) : Prop := w.heap[g]? = some (.cells cs.toArray t (0, 0))
set_option maxRecDepth 100000 in
theorem bk.lt {w : World} {g : Nat} {t : TypeId} {cs : List Value} (h : bk w g t cs) : g < w.heap.size := (Array.getElem?_eq_some_iff.1 h).1
set_option maxRecDepth 100000 in
theorem bk.cell {w : World} {g : Nat} {t : TypeId} {cs : List Value} (h : bk w g t cs) (i : Nat) : w.cell? ⟨g, i, none⟩ = cs[i]? := by
  rw [cell_of_row w g i cs.toArray t (0, 0) h]; simp
set_option maxRecDepth 100000 in
theorem bk.frozen {w : World} {g : Nat} {t : TypeId} {cs : List Value} (h : bk w g t cs) (i : Nat) : w.frozen? ⟨g, i, none⟩ = false := by
  unfold bk at h; simp [World.frozen?, h]
set_option maxRecDepth 100000 in
theorem bk.below {w w' : World} {g B : Nat} {t : TypeId} {cs : List Value} (h : bk w g t cs) (hb : Below B w w') (hg : g < B) : bk w' g t cs := (hb.block g hg).trans h
set_option maxRecDepth 100000 in
theorem bk.alloc {w : World} {g : Nat} {t : TypeId} {cs : List Value} (h : bk w g t cs) (o : Obj) : bk (w.alloc o) g t cs := (Below.heap_alloc w o g h.lt).trans h
set_option maxRecDepth 100000 in
theorem bk.new (w : World) (t : TypeId) (cs : List Value) : bk (w.alloc (.cells cs.toArray t)) w.heap.size t cs := heap_alloc_new w _
set_option maxRecDepth 100000 in
theorem bk.set {w : World} {g : Nat} {t : TypeId} {cs : List Value} (h : bk w g t cs) (i : Nat) (u : Value) : bk (w.setCell ⟨g, i, none⟩ u) g t (cs.set i u) := by
  unfold bk at h ⊢
  simp [World.setCell, Array.getElem?_modify, h]
set_option maxRecDepth 100000 in
theorem bk.drew {w : World} {g : Nat} {t : TypeId} {cs : List Value} (h : bk w g t cs) : bk w.drew g t cs := h
end Go.Proofs.YtmojpiofdfmdgabDoor
set_option linter.unusedVariables false
namespace Go.Proofs.YtmojpiofdfmdgabDoor
open Go.ChangeShapes Go.WideShapes Go.ChangeAt Go.RowKit

structure ReqD where
  op : Int
  acct : ByteArray
  other : ByteArray
  hold : ByteArray
  trace : ByteArray
  mti : ByteArray
  amount : Int
  ttl : Int
deriving DecidableEq
def qCells (q : ReqD) : List Value := [.int .i64 q.op, .string q.acct, .string q.other, .string q.hold, .string q.trace, .string q.mti, .int .i64 q.amount, .int .i64 q.ttl]
def qV (q : ReqD) : Value := .agg (qCells q).toArray
/-- no text is longer than n, the numbers are 64 bits wide -/
structure qBig (q : ReqD) : Prop where
  acct : q.acct.size ≤ maxLen
  other : q.other.size ≤ maxLen
  hold : q.hold.size ≤ maxLen
  trace : q.trace.size ≤ maxLen
  mti : q.mti.size ≤ maxLen
set_option maxRecDepth 100000 in
theorem bk.eight {w : World} {g : Nat} {t : TypeId} {a b c d e f i j : Value} (h : bk w g t [a, b, c, d, e, f, i, j]) :
    (w.cell? ⟨g, 0, none⟩ = some a ∧ w.cell? ⟨g, 1, none⟩ = some b ∧ w.cell? ⟨g, 2, none⟩ = some c ∧ w.cell? ⟨g, 3, none⟩ = some d ∧ w.cell? ⟨g, 4, none⟩ = some e ∧ w.cell? ⟨g, 5, none⟩ = some f ∧ w.cell? ⟨g, 6, none⟩ = some i ∧ w.cell? ⟨g, 7, none⟩ = some j) ∧ (∀ k, w.frozen? ⟨g, k, none⟩ = false) :=
  ⟨⟨h.cell 0, h.cell 1, h.cell 2, h.cell 3, h.cell 4, h.cell 5, h.cell 6, h.cell 7⟩, fun k => h.frozen k⟩
/-- which fields an operation uses -/
def holdU (op : Int) : Bool := isOp op && decide (op < 7)
def amtU (op : Int) : Bool := decide (1 ≤ op ∧ op ≤ 4)
set_option maxRecDepth 100000 in
theorem l11Hold_any (op : Int) (w : World) : Calls Tryd.prog 12 #[.int .i64 op] w fun e w' => e = .returned (.bool (holdU op)) ∧ w = w' := by
  have HI := Lib.hid (l11Op_any op)
  have HH : Hid (holdU op = (isOp op && decide (op < 7))) := Lib.hid rfl
  generalize holdU op = r at HH
  generalize isOp op = b at HI HH
  rw [HH.out]
  cases b
  all_goals go_enter Tryd.func12, Tryd.ntmps12
  all_goals go_wp2_with fail
  all_goals refine (HI.out _).mono ?_
  all_goals rintro e w1 ⟨rfl, rfl⟩
  all_goals go_wp2
  all_goals go_ret
  all_goals exact ⟨by first | rfl | (refine congrArg (fun b => Ending.returned (.bool b)) ?_; simp), rfl⟩
set_option maxRecDepth 100000 in
theorem l11Amount_any (op : Int) (w : World) : Calls Tryd.prog 14 #[.int .i64 op] w fun e w' => e = .returned (.bool (amtU op)) ∧ w = w' := by
  have HI := Lib.hid (specIn_any op 1 4)
  go_enter Tryd.func14, Tryd.ntmps14
  go_wp2_with fail
  refine (HI.out _).mono ?_
  rintro e w1 ⟨rfl, rfl⟩
  go_wp2
  go_ret
  exact ⟨congrArg (fun b => Ending.returned (.bool b)) (by simp [amtU]), rfl⟩

set_option maxRecDepth 100000 in
set_option maxHeartbeats 1600000 in
theorem toReq_any (q : ReqD) (w : World) : Calls Tryd.prog 6 #[qV q] w fun e w' => e = .returned (qV q) ∧ Below w.heap.size w w' := by
  change Calls _ _ #[.agg #[.int .i64 q.op, .string q.acct, .string q.other, .string q.hold, .string q.trace, .string q.mti, .int .i64 q.amount, .int .i64 q.ttl]] _ fun e w' => e = .returned (.agg #[.int .i64 q.op, .string q.acct, .string q.other, .string q.hold, .string q.trace, .string q.mti, .int .i64 q.amount, .int .i64 q.ttl]) ∧ _
  obtain ⟨op, acct, other, hold, trace, mti, amount, ttl⟩ := q
  go_enter Tryd.func6, Tryd.ntmps6
  go_wp2
  exact bodyPost_ret (v := .agg #[.int .i64 op, .string acct, .string other, .string hold, .string trace, .string mti, .int .i64 amount, .int .i64 ttl]) (by simp [results, Tryd.results6, go_sem]) rfl ⟨rfl, (((Below.refl _ _).alloc (Nat.le_refl _) _).alloc (by simp) _).alloc (by simp; omega) _⟩
set_option maxRecDepth 100000 in
set_option maxHeartbeats 1600000 in
theorem szReq_any (q : ReqD) (left : Int) (w : World) (hq : qBig q) (h0 : 0 ≤ left) (h1 : left ≤ 1048576) :
    Calls Tryd.prog 4 #[qV q, .int .i64 left] w (szRes left (q.acct.size + q.other.size + q.hold.size + q.trace.size + q.mti.size) w) := by
  change Calls _ _ #[.agg #[.int .i64 q.op, .string q.acct, .string q.other, .string q.hold, .string q.trace, .string q.mti, .int .i64 q.amount, .int .i64 q.ttl], _] _ _
  obtain ⟨z1, z2, z3, z4, z5⟩ := hq
  obtain ⟨op, acct, other, hold, trace, mti, amount, ttl⟩ := q
  simp only at z1 z2 z3 z4 z5
  unfold maxLen at z1 z2 z3 z4 z5
  have HB0 : Hid (Below w.heap.size w (w.alloc (.cells #[.int .i64 op, .string acct, .string other, .string hold, .string trace, .string mti, .int .i64 amount, .int .i64 ttl] 23))) := Lib.hid ((Below.refl _ _).alloc (Nat.le_refl _) _)
  by_cases b0 : left - (acct.size : Int) < 0
  · go_enter Tryd.func4, Tryd.ntmps4
    go_wp2
    go_ret
    exact ⟨_, rfl, .inl rfl, HB0.out⟩
  by_cases b1 : left - (acct.size : Int) - (other.size : Int) < 0
  · go_enter Tryd.func4, Tryd.ntmps4
    go_wp2
    go_ret
    exact ⟨_, rfl, .inl rfl, HB0.out⟩
  by_cases b2 : left - (acct.size : Int) - (other.size : Int) - (hold.size : Int) < 0
  · go_enter Tryd.func4, Tryd.ntmps4
    go_wp2
    go_ret
    exact ⟨_, rfl, .inl rfl, HB0.out⟩
  by_cases b3 : left - (acct.size : Int) - (other.size : Int) - (hold.size : Int) - (trace.size : Int) < 0
  · go_enter Tryd.func4, Tryd.ntmps4
    go_wp2
    go_ret
    exact ⟨_, rfl, .inl rfl, HB0.out⟩
  by_cases b4 : left - (acct.size : Int) - (other.size : Int) - (hold.size : Int) - (trace.size : Int) - (mti.size : Int) < 0
  · go_enter Tryd.func4, Tryd.ntmps4
    go_wp2
    go_ret
    exact ⟨_, rfl, .inl rfl, HB0.out⟩
  go_enter Tryd.func4, Tryd.ntmps4
  go_wp2
  go_ret
  exact ⟨_, rfl, .inr ⟨by omega, by omega⟩, HB0.out⟩

end Go.Proofs.YtmojpiofdfmdgabDoor
set_option linter.unusedVariables false
namespace Go.Proofs.YtmojpiofdfmdgabDoor
open Go.ChangeShapes Go.WideShapes Go.ChangeAt Go.RowKit Go.WideElems

end Go.Proofs.YtmojpiofdfmdgabDoor
set_option linter.unusedVariables false
namespace Go.Proofs.YtmojpiofdfmdgabDoor
open Go.ChangeShapes Go.WideShapes Go.ChangeAt Go.RowKit Go.Deep

abbrev QT := Int × ByteArray × ByteArray × ByteArray × ByteArray × ByteArray × Int × Int
def QR : Rep QT := Rep.pair (Rep.int .i64) (Rep.pair Rep.str (Rep.pair Rep.str (Rep.pair Rep.str (Rep.pair Rep.str (Rep.pair Rep.str (Rep.pair (Rep.int .i64) (Rep.int .i64)))))))
set_option maxRecDepth 100000 in
theorem q_rd {hi : Nat} {w : World} {cs : List Value} {x : QT} (h : QR.rd hi w cs x) : cs = [.int .i64 x.1, .string x.2.1, .string x.2.2.1, .string x.2.2.2.1, .string x.2.2.2.2.1, .string x.2.2.2.2.2.1, .int .i64 x.2.2.2.2.2.2.1, .int .i64 x.2.2.2.2.2.2.2] := by
  obtain ⟨a, b, rfl, rfl, c, d, rfl, rfl, e, f, rfl, rfl, g, i, rfl, rfl, j, k, rfl, rfl, l, m, rfl, rfl, n, o, rfl, rfl, rfl⟩ := h
  rfl
set_option maxRecDepth 100000 in
theorem opens_req {H : Type} {enc : TypeId × Value → H} {W : World} : Opens enc Tryd.prog W QR 23 (fun x => (Lit.int .i64 x.1).wf = true ∧ x.2.1.size ≤ maxLen ∧ x.2.2.1.size ≤ maxLen ∧ x.2.2.2.1.size ≤ maxLen ∧ x.2.2.2.2.1.size ≤ maxLen ∧ x.2.2.2.2.2.1.size ≤ maxLen ∧ (Lit.int .i64 x.2.2.2.2.2.2.1).wf = true ∧ (Lit.int .i64 x.2.2.2.2.2.2.2).wf = true) :=
  opens_struct Tryd.underlying23 (by kernel_rfl) (opensF_cons (opens_int Tryd.underlying3) rfl (by kernel_rfl) (opensF_cons (opens_str Tryd.underlying9) rfl (by kernel_rfl) (opensF_cons (opens_str Tryd.underlying9) rfl (by kernel_rfl) (opensF_cons (opens_str Tryd.underlying9) rfl (by kernel_rfl) (opensF_cons (opens_str Tryd.underlying9) rfl (by kernel_rfl) (opensF_cons (opens_str Tryd.underlying9) rfl (by kernel_rfl) (opensF_cons (opens_int Tryd.underlying3) rfl (by kernel_rfl) (opensF_one (opens_int Tryd.underlying3) rfl (by kernel_rfl)))))))))
set_option maxRecDepth 100000 in
theorem open_req {H : Type} {enc : TypeId × Value → H} {W : World} {base : Nat} {v : Value} {d : DataW H} {p : List MemPlace} (hval : Value.okWide Tryd.prog W .any base 23 v) (h : DataW.Trod enc Tryd.prog W 0 (fun _ => true) true 23 v d p) :
    ∃ q : ReqD, v = qV q ∧ qBig q := by
  obtain ⟨cs, rfl, hsz⟩ := okWide_struct Tryd.underlying23 hval
  obtain ⟨fuel, hf⟩ := h
  obtain ⟨x, hr, -, h1, h2, h3, h4, h5, -, -⟩ := opens_req fuel _ _ hf
  refine ⟨⟨x.1, x.2.1, x.2.2.1, x.2.2.2.1, x.2.2.2.2.1, x.2.2.2.2.2.1, x.2.2.2.2.2.2.1, x.2.2.2.2.2.2.2⟩, ?_, ⟨h1, h2, h3, h4, h5⟩⟩
  have hcs := q_rd hr
  show Value.agg cs = .agg _
  congr 1
  exact Array.toList_inj.1 (hcs.trans rfl)
end Go.Proofs.YtmojpiofdfmdgabDoor
set_option linter.unusedVariables false
namespace Go.Proofs.YtmojpiofdfmdgabDoor
open Go.ChangeShapes Go.WideShapes Go.ChangeAt Go.RowKit

set_option maxRecDepth 100000 in
/-- a struct of three strings that reads as three texts holds them -/
theorem cells_of_three {H : Type} {enc : TypeId × Value → H} {P : Program} {w : World} {base : Nat} {sp : Nat → Bool} {held : Bool} {fuel : Nat} {e s : TypeId} {fs : Array Field} {cs : List Value} {ss : List (List UInt8)} {p : List MemPlace}
    (he : P.underlying e = some (.struct fs)) (hf : fs.toList.map (fun f => (f.type, f.offset)) = [(s, 0), (s, 1), (s, 2)]) (hs : P.underlying s = some .string) (hcs : P.cellsOf s = 1) (hce : P.cellsOf e = 3)
    (h : DataW.trod enc P w base sp held fuel e cs = some (.agg (ss.map fun x => .lit (.string x)), p)) : cs = ss.map fun x => Value.string ⟨x.toArray⟩ := by
  cases fuel with
  | zero => simp [DataW.trod] at h
  | succ fuel =>
    simp only [DataW.trod, he, hce] at h
    split at h
    · rename_i hl
      obtain ⟨xs, hm, hx⟩ := Option.map_eq_some_iff.1 h
      have hxs : xs.map (·.1) = ss.map fun s => (DataW.lit (.string s) : DataW H) := by
        have := congrArg Prod.fst hx
        simpa using this
      have hfl : fs.toList.length = 3 := by
        have := congrArg List.length hf
        simpa using this
      have hxl : xs.length = 3 := by
        have := Lib.mapM_length hm
        omega
      have hzl : ss.length = 3 := by
        have := congrArg List.length hxs
        simp at this
        omega
      apply List.ext_getElem?
      intro i
      by_cases hi : i < 3
      · obtain ⟨f, hfi⟩ : ∃ f, fs.toList[i]? = some f := ⟨_, List.getElem?_eq_getElem (by omega)⟩
        have hto : f.type = s ∧ f.offset = i := by
          have h1 : (fs.toList.map (fun f => (f.type, f.offset)))[i]? = some (f.type, f.offset) := by simp only [List.getElem?_map, hfi, Option.map_some]
          rw [hf] at h1
          have h3 : i = 0 ∨ i = 1 ∨ i = 2 := by omega
          rcases h3 with rfl | rfl | rfl <;> simp at h1 <;> exact ⟨h1.1.symm, h1.2.symm⟩
        obtain ⟨b, hb, hg⟩ := Lib.mapM_at hm i f hfi
        rw [hto.1, hto.2, hcs] at hg
        obtain ⟨z, hc, rfl, _⟩ := DataW.trod_string hs hg
        have h1 : cs[i]? = some (.string z) := by
          have := congrArg (·[0]?) hc
          simpa [List.getElem?_take, List.getElem?_drop] using this
        have h2 : (xs.map (·.1))[i]? = some (DataW.lit (.string z.data.toList) : DataW H) := by simp [hb]
        rw [hxs] at h2
        simp only [List.getElem?_map, Option.map_eq_some_iff, DataW.lit.injEq, Lit.string.injEq] at h2
        obtain ⟨s', hs', he'⟩ := h2
        rw [h1, List.getElem?_map, hs']
        have : (⟨s'.toArray⟩ : ByteArray) = z := ByteArray.ext (by rw [he'])
        simp [this]
      · rw [List.getElem?_eq_none (by omega), List.getElem?_eq_none (by simp; omega)]
    · cases h
set_option maxRecDepth 100000 in
theorem chunks3 (rows : List (List (List UInt8))) : ∀ cs : List Value, cs.length = rows.length * 3 → (∀ i r, rows[i]? = some r → (cs.drop (i * 3)).take 3 = r.map fun x => Value.string ⟨x.toArray⟩) → cs = rows.flatMap fun r => r.map fun x => Value.string ⟨x.toArray⟩ := by
  induction rows with
  | nil => intro cs hl _; simpa using hl
  | cons r rs ih =>
    intro cs hl h
    have h0 := h 0 r rfl
    rw [Nat.zero_mul, List.drop_zero] at h0
    have := ih (cs.drop 3) (by simp at hl ⊢; omega) fun i x hx => by
      have := h (i + 1) x (by simpa using hx)
      rw [List.drop_drop]
      rwa [show 3 + i * 3 = (i + 1) * 3 by omega]
    rw [List.flatMap_cons, ← this, ← h0, List.take_append_drop]
set_option maxRecDepth 100000 in
/-- an array of such structs -/
theorem cells_of_rows {H : Type} {enc : TypeId × Value → H} {P : Program} {w : World} {base : Nat} {sp : Nat → Bool} {held : Bool} {fuel : Nat} {t e s : TypeId} {n : Nat} {fs : Array Field} {cs : List Value} {rows : List (List (List UInt8))} {p : List MemPlace}
    (ht : P.underlying t = some (.array n e)) (hct : P.cellsOf t = n * 3)
    (he : P.underlying e = some (.struct fs)) (hf : fs.toList.map (fun f => (f.type, f.offset)) = [(s, 0), (s, 1), (s, 2)]) (hs : P.underlying s = some .string) (hcs : P.cellsOf s = 1) (hce : P.cellsOf e = 3)
    (h : DataW.trod enc P w base sp held fuel t cs = some (.agg (rows.map fun r => .agg (r.map fun x => .lit (.string x))), p)) : cs = rows.flatMap fun r => r.map fun x => Value.string ⟨x.toArray⟩ := by
  cases fuel with
  | zero => simp [DataW.trod] at h
  | succ fuel =>
    simp only [DataW.trod, ht, hce, hct] at h
    split at h
    · rename_i hl
      obtain ⟨xs, hm, hx⟩ := Option.map_eq_some_iff.1 h
      have hxs : xs.map (·.1) = rows.map fun r => (DataW.agg (r.map fun x => .lit (.string x)) : DataW H) := by
        have := congrArg Prod.fst hx
        simpa using this
      have hxl : xs.length = n := by simpa using Lib.mapM_length hm
      have hzl : rows.length = n := by
        have := congrArg List.length hxs
        simp at this
        omega
      refine chunks3 rows cs (by omega) fun i r hr => ?_
      have hi : i < n := by
        have := (List.getElem?_eq_some_iff.1 hr).1
        omega
      obtain ⟨b, hb, hg⟩ := Lib.mapM_at hm i i (by simp [hi])
      have h2 : (xs.map (·.1))[i]? = some b.1 := by simp [hb]
      rw [hxs, List.getElem?_map, hr] at h2
      obtain ⟨d, q⟩ := b
      simp only [Option.map_some, Option.some.injEq] at h2
      subst h2
      exact cells_of_three he hf hs hcs hce hg
    · cases h

def opDat {H : Type} : DataW H := .agg (opRows.map fun r => .agg (r.map fun x => .lit (.string x)))
def opArr : Array Value := (opRows.flatMap fun r => r.map fun x => Value.string ⟨x.toArray⟩).toArray
/-- the rows lie in the program's table -/
def opsIn (w : World) : Prop := ∀ i k : Nat, i < 9 → k < 3 → w.cell? ⟨0, i * 3 + k, none⟩ = some (.string ⟨(opB k i).toArray⟩)
set_option maxRecDepth 100000 in
theorem gOps : Tryd.prog.globalNamed "loop.example/g00735/impl.opTable" = some 0 := by kernel_rfl
set_option maxRecDepth 100000 in
theorem tOps : (Tryd.prog.globals[0]?).map (·.type) = some 54 := by kernel_rfl
set_option maxRecDepth 100000 in
theorem ops_var {W : World} {rest : List (String × DataW Unit)} (h : laidMet Tryd.prog (("loop.example/g00735/impl.opTable", opDat) :: rest) W) : W.var? Tryd.prog "loop.example/g00735/impl.opTable" = some opArr := by
  obtain ⟨ps, ⟨g', t', cs, fuel, p, q, hg', ht', hvar, hd, _, _⟩, _⟩ := h
  obtain rfl := Option.some.inj (gOps.symm.trans hg')
  obtain rfl := Option.some.inj (tOps.symm.trans ht')
  have hcs := cells_of_rows Tryd.underlying54 (by kernel_rfl) Tryd.underlying52 (s := 9) (by rfl) Tryd.underlying9 (by kernel_rfl) (by kernel_rfl) hd
  have e : cs = opArr := Array.toList_inj.1 (by simpa [opArr] using hcs)
  rw [hvar, e]
set_option maxRecDepth 100000 in
theorem opArr_at : ∀ i : Fin 9, ∀ k : Fin 3, opArr[i.val * 3 + k.val]? = some (.string ⟨(opB k.val i.val).toArray⟩) := by
  rintro ⟨i, hi⟩ ⟨k, hk⟩
  have h1 : i = 0 ∨ i = 1 ∨ i = 2 ∨ i = 3 ∨ i = 4 ∨ i = 5 ∨ i = 6 ∨ i = 7 ∨ i = 8 := by omega
  have h2 : k = 0 ∨ k = 1 ∨ k = 2 := by omega
  rcases h1 with rfl | rfl | rfl | rfl | rfl | rfl | rfl | rfl | rfl <;> rcases h2 with rfl | rfl | rfl <;> rfl
set_option maxRecDepth 100000 in
theorem ops_in {W : World} (h : W.var? Tryd.prog "loop.example/g00735/impl.opTable" = some opArr) : opsIn W := by
  intro i k hi hk
  rw [World.var?_cell gOps h]
  exact opArr_at ⟨i, hi⟩ ⟨k, hk⟩
set_option maxRecDepth 100000 in
theorem vars_ops {H : Type} (enc : TypeId × Value → H) {W : World} (sp : Nat → Bool) {ns : List String} {ds : List (DataW H)} {q : List MemPlace} (h : W.var? Tryd.prog "loop.example/g00735/impl.opTable" = some opArr)
    (hr : DataW.TrodVars enc Tryd.prog W sp ns ds q) : DataW.TrodVars enc Tryd.prog W sp ("loop.example/g00735/impl.opTable" :: ns) (opDat :: ds) (MemPlace.row ⟨0, 0, none⟩ opArr.size ++ [] ++ q) :=
  ⟨_, _, opArr, 3, [], q, gOps, tOps, h, by kernel_rfl, hr, rfl⟩
set_option maxRecDepth 100000 in
theorem ops_nil {H : Type} (enc : TypeId × Value → H) {P : Program} {W : World} (sp : Nat → Bool) : DataW.TrodVars enc P W sp [] [] [] := rfl
set_option maxRecDepth 100000 in
theorem opsIn.lt {w : World} (h : opsIn w) : 0 < w.heap.size := by
  have hc := h 0 0 (by omega) (by omega)
  rcases Nat.lt_or_ge 0 w.heap.size with h | h
  · exact h
  · simp [World.cell?, Array.getElem?_eq_none h] at hc
set_option maxRecDepth 100000 in
theorem opsIn.below {w w' : World} (h : opsIn w) (hb : Below w.heap.size w w') : opsIn w' := fun i k hi hk => (hb.cell (p := ⟨_, _, none⟩) h.lt).trans (h i k hi hk)
end Go.Proofs.YtmojpiofdfmdgabDoor
set_option linter.unusedVariables false
namespace Go.Proofs.YtmojpiofdfmdgabDoor
open Go.ChangeShapes Go.WideShapes Go.ChangeAt Go.RowKit

/-- the digit of a byte -/
def dOf (c : UInt8) : Int := (c.toNat : Int) - 48
/-- a digit doubled, 9 taken off where it is greater than 9 -/
def twiceOf (d : Int) : Int := if 4 < d then 2 * d - 9 else 2 * d
/-- the Luhn sum: the last digit is doubled, and every second one before it -/
def luSum : List UInt8 → Int
  | [] => 0
  | c :: l => (if l.length % 2 = 0 then twiceOf (dOf c) else dOf c) + luSum l
def luVal (s : ByteArray) : Int := if digs s = true then (10 - luSum s.data.toList % 10) % 10 else -1

set_option maxRecDepth 100000 in
theorem twice_bd {d : Int} (h0 : 0 ≤ d) (h1 : d ≤ 9) : 0 ≤ twiceOf d ∧ twiceOf d ≤ 9 := by unfold twiceOf; split <;> omega
set_option maxRecDepth 100000 in
theorem drop_one (s : ByteArray) (k : Nat) (h : k < s.size) : s.data.toList.drop k = s[k] :: s.data.toList.drop (k + 1) :=
  List.drop_eq_getElem_cons (by simpa using h)
set_option maxRecDepth 100000 in
theorem drop_len (s : ByteArray) (k : Nat) : (s.data.toList.drop k).length = s.size - k := by simp
set_option maxRecDepth 100000 in
theorem luSum_bd {s : ByteArray} (hd : digs s = true) (k : Nat) : 0 ≤ luSum (s.data.toList.drop k) ∧ luSum (s.data.toList.drop k) ≤ 9 * ((s.size - k : Nat) : Int) := by
  generalize hn : s.size - k = n
  induction n generalizing k with
  | zero =>
    have : s.data.toList.drop k = [] := List.drop_eq_nil_of_le (by simp; omega)
    rw [this]; exact ⟨Int.le_refl _, Int.le_refl _⟩
  | succ n ih =>
    have hk : k < s.size := by omega
    have h1 := ih (k + 1) (by omega)
    have hg := digs_get hd k hk
    rw [drop_one s k hk]
    simp only [luSum]
    have ht := twice_bd (d := dOf s[k]) (by unfold dOf; omega) (by unfold dOf; omega)
    have hd0 : 0 ≤ dOf s[k] ∧ dOf s[k] ≤ 9 := by unfold dOf; omega
    split <;> omega
set_option maxRecDepth 100000 in
/-- one digit further -/
theorem luSum_even {s : ByteArray} (k : Nat) (hk : k < s.size) (he : (s.size - k) % 2 = 1) : luSum (s.data.toList.drop k) = twiceOf (dOf s[k]) + luSum (s.data.toList.drop (k + 1)) := by
  rw [drop_one s k hk]; simp only [luSum]; rw [if_pos (by rw [drop_len]; omega)]
set_option maxRecDepth 100000 in
theorem luSum_odd {s : ByteArray} (k : Nat) (hk : k < s.size) (he : (s.size - k) % 2 = 0) : luSum (s.data.toList.drop k) = dOf s[k] + luSum (s.data.toList.drop (k + 1)) := by
  rw [drop_one s k hk]; simp only [luSum]; rw [if_neg (by rw [drop_len]; omega)]

set_option maxRecDepth 100000 in
theorem luhnDouble_any (d : Int) (w : World) (h0 : 0 ≤ d) (h1 : d ≤ 9) : Calls Tryd.prog 47 #[.int .i64 d] w fun e w' => e = .returned (.int .i64 (twiceOf d)) ∧ w = w' := by
  by_cases h4 : 4 < d
  all_goals
    go_enter Tryd.func47, Tryd.ntmps47
    go_wp2
    go_ret
    exact ⟨ret_int (by unfold twiceOf; split <;> omega), rfl⟩

def parOf (s : ByteArray) (k : Nat) : Bool := decide ((s.size - k) % 2 = 1)
set_option maxRecDepth 100000 in
theorem par_next (s : ByteArray) (k : Nat) (h : k < s.size) : (!parOf s k) = parOf s (k + 1) := by
  unfold parOf
  rcases Nat.mod_two_eq_zero_or_one (s.size - k) with h1 | h1
  · rw [h1, show (s.size - (k + 1)) % 2 = 1 by omega]; rfl
  · rw [h1, show (s.size - (k + 1)) % 2 = 0 by omega]; rfl
set_option maxRecDepth 100000 in
theorem val_bool {a b : Bool} (h : a = b) : Value.bool a = Value.bool b := by rw [h]

set_option maxRecDepth 100000 in
set_option maxHeartbeats 800000 in
theorem implLuhn_any (s : ByteArray) (w : World) (hs : s.size ≤ 1048576) :
    Calls Tryd.prog 45 #[.string s] w fun e w' => e = .returned (.int .i64 (luVal s)) ∧ Below w.heap.size w w' := by
  cases hd : digs s
  · have hv : luVal s = -1 := by simp [luVal, hd]
    rw [hv]
    go_enter Tryd.func45, Tryd.ntmps45
    go_wp2_with (go_at_call 44; refine (implDigits_any _ _ (by unfold maxLen; omega)).mono ?_; rintro e w1 ⟨rfl, hb⟩)
    go_ret
    exact ⟨rfl, hb⟩
  · have hv : luVal s = (10 - luSum s.data.toList % 10) % 10 := by simp [luVal, hd]
    rw [hv]
    have hD := Lib.hid hd
    have hall := luSum_bd hd 0
    simp only [List.drop_zero, Nat.sub_zero] at hall
    have hall0 := hall.1
    have hall1 : luSum s.data.toList ≤ 9437184 := by omega
    clear hall hv
    go_enter Tryd.func45, Tryd.ntmps45
    go_wp2_with (go_at_call 44; refine (implDigits_any _ _ (by unfold maxLen; omega)).mono ?_; rintro e w1 ⟨rfl, hb⟩)
    clear hd
    go_loopw [3, 4] (fun dv sv wr => ∃ k : Nat, k ≤ s.size ∧ wr = w1.iter s k ∧ dv = .bool (parOf s k) ∧ sv = .int .i64 (luSum s.data.toList - luSum (s.data.toList.drop k))) (fun _ _ wr => s.size - wr.iterPos w1.heap.size)
    case atStart => exact ⟨0, Nat.zero_le _, rfl, val_bool (by unfold parOf; rw [Bool.eq_iff_iff]; simp; omega), val_int (by simp)⟩
    case round =>
      obtain ⟨k, hk, rfl, rfl, rfl⟩ := hrel
      by_cases hlt : k < s.size
      · have hg := digs_get hD.out k hlt
        have hg1 : (48 : Int) ≤ (s[k].toNat : Int) := by omega
        have hg2 : (s[k].toNat : Int) ≤ 57 := by omega
        have hnx : ∀ ty, (Instr.next (.pointer (some ⟨w1.heap.size, 0, none⟩)) true ty).run Tryd.prog (w1.iter s k) = _ := fun ty => run_next_any w1 s k ty hlt
        rw [decode_ascii s k hlt (by omega)] at hnx
        have hbk := luSum_bd hD.out k
        have hbk0 := hbk.1
        have hbk1 : luSum (s.data.toList.drop k) ≤ 9437184 := by omega
        clear hbk
        have hpn := Lib.hid (par_next s k hlt)
        have hpk := Lib.hid (show parOf s k = decide ((s.size - k) % 2 = 1) from rfl)
        cases hp : parOf s k
        · have hstep := Lib.hid (luSum_odd k hlt (by have := of_decide_eq_false (hpk.out.symm.trans hp); omega))
          rw [hp] at hpn
          go_wp2
          go_roundw
          case rel => exact ⟨k + 1, by omega, rfl, val_bool hpn.out, val_int (by have := hstep.out; unfold dOf at this; omega)⟩
          case measure => simp <;> omega
        · have hstep := Lib.hid (luSum_even k hlt (of_decide_eq_true (hpk.out.symm.trans hp)))
          have htw := twice_bd (d := (s[k].toNat : Int) - 48) (by omega) (by omega)
          rw [hp] at hpn
          go_wp2_with (go_at_call 47; refine (luhnDouble_any _ _ (by omega) (by omega)).mono ?_; rintro e w' ⟨rfl, rfl⟩)
          go_roundw
          case rel => exact ⟨k + 1, by omega, rfl, val_bool hpn.out, val_int (by have := hstep.out; unfold dOf at this; omega)⟩
          case measure => simp <;> omega
      · have hnx : ∀ ty, (Instr.next (.pointer (some ⟨w1.heap.size, 0, none⟩)) true ty).run Tryd.prog (w1.iter s k) = _ := fun ty => run_next_end w1 s k ty hlt
        have he : luSum (s.data.toList.drop k) = 0 := by rw [List.drop_eq_nil_of_le (by simp; omega)]; rfl
        have he0 : 0 ≤ luSum (s.data.toList.drop k) := by omega
        have he1 : luSum (s.data.toList.drop k) ≤ 0 := by omega
        clear he
        go_wp2
        go_ret
        exact ⟨ret_int (by omega), hb.trans ((below_iter _ _ _).mono hb.size)⟩

set_option maxRecDepth 100000 in
set_option maxHeartbeats 800000 in
theorem specLuhn_any (s : ByteArray) (w : World) (hs : s.size ≤ 1048576) :
    Calls Tryd.prog 21 #[.string s] w fun e w' => e = .returned (.int .i64 (luVal s)) ∧ w = w' := by
  cases hd : digs s
  · have hv : luVal s = -1 := by simp [luVal, hd]
    rw [hv]
    go_enter Tryd.func21, Tryd.ntmps21
    go_wp2_with (go_at_call 11; refine (specDigits_any _ _ (by unfold maxLen; omega)).mono ?_; rintro e w1 ⟨rfl, rfl⟩)
    go_ret
    exact ⟨rfl, rfl⟩
  · have hv : luVal s = (10 - luSum s.data.toList % 10) % 10 := by simp [luVal, hd]
    rw [hv]
    have hD := Lib.hid hd
    clear hv
    have hpos := digs_pos hd
    go_enter Tryd.func21, Tryd.ntmps21
    go_wp2_with (go_at_call 11; refine (specDigits_any _ _ (by unfold maxLen; omega)).mono ?_; rintro e w1 ⟨rfl, rfl⟩)
    clear hd
    go_loop [3, 4, 5] (fun nv tv iv => ∃ k : Nat, k ≤ s.size ∧ iv = .int .i64 ((k : Int) - 1) ∧ tv = .bool (!parOf s k) ∧ nv = .int .i64 (luSum (s.data.toList.drop k) % 10)) (fun _ _ iv => (intOf iv + 1).toNat)
    case atStart => exact ⟨s.size, Nat.le_refl _, rfl, val_bool (by unfold parOf; simp), val_int (by rw [List.drop_eq_nil_of_le (by simp)]; rfl)⟩
    case round =>
      obtain ⟨j, hk, rfl, rfl, rfl⟩ := hrel
      cases j with
      | zero =>
        go_wp2
        go_ret
        exact ⟨ret_int (by omega), rfl⟩
      | succ k =>
        have hlt : k < s.size := by omega
        have hg := digs_get hD.out k hlt
        have hg1 : (48 : Int) ≤ (s[k].toNat : Int) := by omega
        have hg2 : (s[k].toNat : Int) ≤ 57 := by omega
        have hpn := Lib.hid (par_next s k hlt)
        have hpk := Lib.hid (show parOf s k = decide ((s.size - k) % 2 = 1) from rfl)
        rw [← par_next s k hlt]
        cases hp : parOf s k
        · have hstep := Lib.hid (luSum_odd k hlt (by have := of_decide_eq_false (hpk.out.symm.trans hp); omega))
          go_wp2
          go_round
          case rel => exact ⟨k, by omega, rfl, val_bool (by rw [hp]; rfl), val_int (by have := hstep.out; unfold dOf at this; omega)⟩
          case measure => simp [intOf] <;> omega
        · have hstep := Lib.hid (luSum_even k hlt (of_decide_eq_true (hpk.out.symm.trans hp)))
          by_cases h4 : (s[k].toNat : Int) ≤ 52
          · go_wp2
            go_round
            case rel => exact ⟨k, by omega, rfl, val_bool (by rw [hp]; rfl), val_int (by have := hstep.out; unfold dOf twiceOf at this; split at this <;> omega)⟩
            case measure => simp [intOf] <;> omega
          · go_wp2
            go_round
            case rel => exact ⟨k, by omega, rfl, val_bool (by rw [hp]; rfl), val_int (by have := hstep.out; unfold dOf twiceOf at this; split at this <;> omega)⟩
            case measure => simp [intOf] <;> omega
end Go.Proofs.YtmojpiofdfmdgabDoor
set_option linter.unusedVariables false
namespace Go.Proofs.YtmojpiofdfmdgabDoor
open Go.ChangeShapes Go.WideShapes Go.ChangeAt Go.RowKit

def initOf (s : ByteArray) : ByteArray := s.extract 0 (s.size - 1)
def luOk (s : ByteArray) : Bool := decide (2 ≤ s.size) && digs s && (luVal (initOf s) == dOf (s.data.toList.getLastD 0))

set_option maxRecDepth 100000 in
theorem luOk_eq (s : ByteArray) (hd : digs s = true) (h2 : ¬ s.size < 2) : luOk s = (luVal (s.extract 0 (s.size - 1)) == ((s[s.size - 1].toNat : Int) - 48)) := by
  have hl : s.data.toList.getLastD 0 = s[s.size - 1] := by
    have hne : s.data.toList ≠ [] := by
      intro h
      have h4 : s.data.toList.length = s.size := by simp
      rw [h] at h4
      simp only [List.length_nil] at h4
      omega
    rw [List.getLastD_eq_getLast?, List.getLast?_eq_some_getLast hne, Option.getD_some, List.getLast_eq_getElem]
    rfl
  have h3 : decide (2 ≤ s.size) = true := decide_eq_true (by omega)
  unfold luOk dOf initOf
  rw [hd, h3, hl]
  rfl
set_option maxRecDepth 100000 in
theorem bool_beq_comm (a b : Int) : (a == b) = (b == a) := by rw [Bool.eq_iff_iff]; simp only [beq_iff_eq]; exact eq_comm
set_option maxRecDepth 100000 in
set_option maxHeartbeats 800000 in
theorem specLuhnOk_any (s : ByteArray) (w : World) (hs : s.size ≤ 1048576) :
    Calls Tryd.prog 19 #[.string s] w fun e w' => e = .returned (.bool (luOk s)) ∧ Below w.heap.size w w' := by
  cases hd : digs s
  · go_enter Tryd.func19, Tryd.ntmps19
    go_wp2_with (go_at_call 11; refine (specDigits_any _ _ (by unfold maxLen; omega)).mono ?_; rintro e w1 ⟨rfl, rfl⟩)
    go_ret
    exact ⟨ret_bool (by simp [luOk, hd]), Below.refl _ _⟩
  · by_cases h2 : s.size < 2
    · go_enter Tryd.func19, Tryd.ntmps19
      go_wp2_with (go_at_call 11; refine (specDigits_any _ _ (by unfold maxLen; omega)).mono ?_; rintro e w1 ⟨rfl, rfl⟩)
      go_ret
      exact ⟨ret_bool (by simp [luOk]; omega), Below.refl _ _⟩
    · have hg := digs_get hd (s.size - 1) (by omega)
      go_enter Tryd.func19, Tryd.ntmps19
      go_wp2_with (go_at_call 11; refine (specDigits_any _ _ (by unfold maxLen; omega)).mono ?_; rintro e w1 ⟨rfl, rfl⟩)
      have e1 : IntKind.i64.wrap ((s.size : Int) - 1) = (s.size : Int) - 1 := IntWalk.i64_in _ (by omega)
      have e2 : ((s.size : Int) - 1).toNat = s.size - 1 := by omega
      have e3 : 0 ≤ (s.size : Int) - 1 := by omega
      have e4 : 1 ≤ (s.size : Int) := by omega
      have e5 : IntKind.i64.wrap (s[s.size - 1].toNat : Int) = (s[s.size - 1].toNat : Int) := IntWalk.i64_in _ (by omega)
      have e6 : IntKind.i64.wrap ((s[s.size - 1].toNat : Int) - 48) = (s[s.size - 1].toNat : Int) - 48 := IntWalk.i64_in _ (by omega)
      have e7 : IntKind.u8.wrap ((s[s.size - 1].toNat : Int) - 48) = (s[s.size - 1].toNat : Int) - 48 := IntWalk.u8_in _ (by omega)
      go_region_with ((go_at_call 21; refine (specLuhn_any _ _ (by simp <;> omega)).mono ?_; rintro e w' ⟨rfl, rfl⟩))
      all_goals
        go_wp2
        go_ret
        exact ⟨ret_bool (luOk_eq s hd h2).symm, (Below.refl _ _).drew⟩

set_option maxRecDepth 100000 in
set_option maxHeartbeats 800000 in
theorem implLuhnOk_any (s : ByteArray) (w : World) (hs : s.size ≤ 1048576) :
    Calls Tryd.prog 43 #[.string s] w fun e w' => e = .returned (.bool (luOk s)) ∧ Below w.heap.size w w' := by
  by_cases h2 : s.size < 2
  · go_enter Tryd.func43, Tryd.ntmps43
    go_wp2_with (go_at_call 44; refine (implDigits_any _ _ (by unfold maxLen; omega)).mono ?_; rintro e w1 ⟨rfl, hb⟩)
    go_ret
    exact ⟨ret_bool (by simp [luOk]; omega), Below.refl _ _⟩
  · cases hd : digs s
    · go_enter Tryd.func43, Tryd.ntmps43
      go_wp2_with (go_at_call 44; refine (implDigits_any _ _ (by unfold maxLen; omega)).mono ?_; rintro e w1 ⟨rfl, hb⟩)
      go_ret
      exact ⟨ret_bool (by simp [luOk, hd]), hb⟩
    · have hg := digs_get hd (s.size - 1) (by omega)
      go_enter Tryd.func43, Tryd.ntmps43
      go_wp2_with (go_at_call 44; refine (implDigits_any _ _ (by unfold maxLen; omega)).mono ?_; rintro e w1 ⟨rfl, hb⟩)
      have e1 : IntKind.i64.wrap ((s.size : Int) - 1) = (s.size : Int) - 1 := IntWalk.i64_in _ (by omega)
      have e2 : ((s.size : Int) - 1).toNat = s.size - 1 := by omega
      have e3 : 0 ≤ (s.size : Int) - 1 := by omega
      have e4 : 1 ≤ (s.size : Int) := by omega
      have e5 : IntKind.i64.wrap (s[s.size - 1].toNat : Int) = (s[s.size - 1].toNat : Int) := IntWalk.i64_in _ (by omega)
      have e6 : IntKind.i64.wrap ((s[s.size - 1].toNat : Int) - 48) = (s[s.size - 1].toNat : Int) - 48 := IntWalk.i64_in _ (by omega)
      have e7 : IntKind.u8.wrap ((s[s.size - 1].toNat : Int) - 48) = (s[s.size - 1].toNat : Int) - 48 := IntWalk.u8_in _ (by omega)
      go_region_with ((go_at_call 45; refine (implLuhn_any _ _ (by simp <;> omega)).mono ?_; rintro e w' ⟨rfl, hb2⟩))
      all_goals
        go_wp2
        go_ret
        exact ⟨ret_bool (((luOk_eq s hd h2).trans (bool_beq_comm _ _)).symm), hb.drew.trans (hb2.mono (by simp; exact hb.size))⟩
end Go.Proofs.YtmojpiofdfmdgabDoor
set_option linter.unusedVariables false
namespace Go.Proofs.YtmojpiofdfmdgabDoor
open Go.ChangeShapes Go.WideShapes Go.ChangeAt Go.RowKit

def acctIdB (s : ByteArray) : Bool := decide (s.size ≤ 19) && luOk s
set_option maxRecDepth 100000 in
theorem specAcctIdOk_any (s : ByteArray) (w : World) (hs : s.size ≤ maxLen) :
    Calls Tryd.prog 10 #[.string s] w fun e w' => e = .returned (.bool (acctIdB s)) ∧ Below w.heap.size w w' := by
  by_cases h : s.size ≤ 19
  · have HI : Hid (acctIdB s = luOk s) := Lib.hid (by unfold acctIdB; rw [decide_eq_true h]; rfl)
    have HL := Lib.hid (fun w => specLuhnOk_any s w (by omega))
    have h' : (s.size : Int) ≤ 19 := by omega
    rw [HI.out]
    generalize luOk s = b at HL
    go_enter Tryd.func10, Tryd.ntmps10
    go_wp2_with fail
    refine (HL.out _).mono ?_
    rintro e w1 ⟨rfl, hb⟩
    go_wp2
    go_ret
    exact ⟨rfl, hb⟩
  · have HI : Hid (acctIdB s = false) := Lib.hid (by unfold acctIdB; rw [decide_eq_false h]; rfl)
    have h' : ¬ (s.size : Int) ≤ 19 := by omega
    rw [HI.out]
    go_enter Tryd.func10, Tryd.ntmps10
    go_wp2
    go_ret
    exact ⟨rfl, Below.refl _ _⟩
end Go.Proofs.YtmojpiofdfmdgabDoor
set_option linter.unusedVariables false
namespace Go.Proofs.YtmojpiofdfmdgabDoor
open Go.ChangeShapes Go.WideShapes Go.ChangeAt Go.RowKit

/-- block b holds the strings of a list -/
def strRow (w : World) (b : Nat) (l : List (List UInt8)) : Prop := ∀ (j : Nat) (x : List UInt8), l[j]? = some x → w.cell? ⟨b, j, none⟩ = some (.string ⟨x.toArray⟩)
/-- .. and may be written -/
def strFree (w : World) (b n : Nat) : Prop := ∀ j : Nat, j < n → w.frozen? ⟨b, j, none⟩ = false
set_option maxRecDepth 100000 in
theorem strRow.below {w w' : World} {b B : Nat} {l : List (List UInt8)} (h : strRow w b l) (hb : Below B w w') (hlt : b < B) : strRow w' b l := fun j x hx => (hb.cell (p := ⟨b, j, none⟩) hlt).trans (h j x hx)
set_option maxRecDepth 100000 in
theorem strFree.below {w w' : World} {b B n : Nat} (h : strFree w b n) (hb : Below B w w') (hlt : b < B) : strFree w' b n := fun j hj => (hb.frozen (p := ⟨b, j, none⟩) hlt).trans (h j hj)

/-- the text of a mark -/
def markOf (k : Int) : List UInt8 := 109 :: Lib.decDigits k.toNat
/-- of what was there block b alone may have turned -/
structure wrote (b : Nat) (w w' : World) : Prop where
  os : w'.os = w.os
  tape : w'.tape = w.tape
  output : w'.output = w.output
  size : w.heap.size ≤ w'.heap.size
  block : ∀ k, k < w.heap.size → k ≠ b → w'.heap[k]? = w.heap[k]?
set_option maxRecDepth 100000 in
theorem wrote.refl (b : Nat) (w : World) : wrote b w w := ⟨rfl, rfl, rfl, Nat.le_refl _, fun _ _ _ => rfl⟩
set_option maxRecDepth 100000 in
theorem wrote.then {b : Nat} {u v w : World} (h : wrote b u v) (g : Below v.heap.size v w) : wrote b u w :=
  ⟨g.os.trans h.os, g.tape.trans h.tape, g.output.trans h.output, Nat.le_trans h.size g.size, fun k hk hne => (g.block k (Nat.lt_of_lt_of_le hk h.size)).trans (h.block k hk hne)⟩
set_option maxRecDepth 100000 in
theorem wrote.set {b : Nat} {u v : World} (h : wrote b u v) (o : Nat) (x : Value) : wrote b u (v.setCell ⟨b, o, none⟩ x) :=
  ⟨h.os, h.tape, h.output, by simpa [World.setCell] using h.size, fun k hk hne => (Below.heap_setCell _ _ _ _ hne).trans (h.block k hk hne)⟩
set_option maxRecDepth 100000 in
theorem wrote.below {b B : Nat} {u v : World} (h : wrote b u v) (hB : B ≤ b) (hs : B ≤ u.heap.size) : Below B u v := ⟨h.os, h.tape, h.output, h.size, fun k hk => h.block k (by omega) (by omega)⟩
set_option maxRecDepth 100000 in
theorem wrote.row {b c : Nat} {u v : World} {l : List (List UInt8)} (h : wrote b u v) (hc : c < u.heap.size) (hne : c ≠ b) (hr : strRow u c l) : strRow v c l := fun j x hx =>
  (World.cell?_of_block (h.block c hc hne)).trans (hr j x hx)

/-- the first i places hold marks, all places can be written -/
def marked (w : World) (b : Nat) (k : Int) (i n : Nat) : Prop := ∀ j : Nat, j < n → w.frozen? ⟨b, j, none⟩ = false ∧ (∃ v, w.cell? ⟨b, j, none⟩ = some v) ∧ (j < i → w.cell? ⟨b, j, none⟩ = some (.string ⟨(markOf (k + j)).toArray⟩))
set_option maxRecDepth 100000 in
theorem marked.below {w w' : World} {b : Nat} {k : Int} {i n : Nat} (h : marked w b k i n) (hb : Below w.heap.size w w') (hlt : b < w.heap.size) : marked w' b k i n := fun j hj =>
  ⟨(hb.frozen (p := ⟨b, j, none⟩) hlt).trans (h j hj).1, by obtain ⟨v, hv⟩ := (h j hj).2.1; exact ⟨v, (hb.cell (p := ⟨b, j, none⟩) hlt).trans hv⟩, fun hi => (hb.cell (p := ⟨b, j, none⟩) hlt).trans ((h j hj).2.2 hi)⟩
set_option maxRecDepth 100000 in
theorem marked.set {w : World} {b : Nat} {k : Int} {i n : Nat} (h : marked w b k i n) (hi : i < n) : marked (w.setCell ⟨b, i, none⟩ (.string ⟨(markOf (k + i)).toArray⟩)) b k (i + 1) n := by
  intro j hj
  have hf : ∀ a, (w.setCell ⟨b, i, none⟩ (.string ⟨(markOf (k + i)).toArray⟩)).frozen? a = w.frozen? a := fun a => by simp
  refine ⟨(hf _).trans (h j hj).1, ?_⟩
  by_cases e : i = j
  · subst e
    obtain ⟨v, hv⟩ := (h i hj).2.1
    have := World.cell?_setCell_same w ⟨b, i, none⟩ (.string ⟨(markOf (k + i)).toArray⟩) hv
    exact ⟨⟨_, this⟩, fun _ => this⟩
  · have hne : ∀ x, (w.setCell ⟨b, i, none⟩ x).cell? ⟨b, j, none⟩ = w.cell? ⟨b, j, none⟩ := fun x => World.cell?_setCell_other _ _ _ _ (fun he => e (by simpa using congrArg Addr.off he))
    obtain ⟨v, hv⟩ := (h j hj).2.1
    exact ⟨⟨v, (hne _).trans hv⟩, fun hlt => (hne _).trans ((h j hj).2.2 (by omega))⟩

end Go.Proofs.YtmojpiofdfmdgabDoor
set_option linter.unusedVariables false
namespace Go.Proofs.YtmojpiofdfmdgabDoor
open Go.ChangeShapes Go.WideShapes Go.ChangeAt Go.RowKit

end Go.Proofs.YtmojpiofdfmdgabDoor
set_option linter.unusedVariables false
namespace Go.Proofs.YtmojpiofdfmdgabDoor
open Go.ChangeShapes Go.WideShapes Go.ChangeAt Go.RowKit

end Go.Proofs.YtmojpiofdfmdgabDoor
set_option linter.unusedVariables false
namespace Go.Proofs.YtmojpiofdfmdgabDoor
open Go.ChangeShapes Go.WideShapes Go.ChangeAt Go.RowKit

end Go.Proofs.YtmojpiofdfmdgabDoor
set_option linter.unusedVariables false
namespace Go.Proofs.YtmojpiofdfmdgabDoor
open Go.ChangeShapes Go.WideShapes Go.ChangeAt Go.RowKit

def inB (n lo hi : Int) : Bool := decide (lo ≤ n ∧ n ≤ hi)
set_option maxRecDepth 100000 in
theorem inB_any (n lo hi : Int) (w : World) : Calls Tryd.prog 15 #[.int .i64 n, .int .i64 lo, .int .i64 hi] w fun e w' => e = .returned (.bool (inB n lo hi)) ∧ w = w' := by
  by_cases h0 : lo ≤ n
  all_goals
    go_enter Tryd.func15, Tryd.ntmps15
    go_wp2
    go_ret
    exact ⟨by simp [inB]; omega, rfl⟩
end Go.Proofs.YtmojpiofdfmdgabDoor
set_option linter.unusedVariables false
namespace Go.Proofs.YtmojpiofdfmdgabDoor
open Go.ChangeShapes Go.WideShapes Go.ChangeAt Go.RowKit

end Go.Proofs.YtmojpiofdfmdgabDoor
set_option linter.unusedVariables false
namespace Go.Proofs.YtmojpiofdfmdgabDoor
open Go.ChangeShapes Go.WideShapes Go.ChangeAt Go.RowKit

end Go.Proofs.YtmojpiofdfmdgabDoor
set_option linter.unusedVariables false
namespace Go.Proofs.YtmojpiofdfmdgabDoor
open Go.ChangeShapes Go.WideShapes Go.ChangeAt Go.RowKit

/-- a digit or a small letter -/
def idCh (c : UInt8) : Bool := decide (48 ≤ c.toNat ∧ c.toNat ≤ 57 ∨ 97 ≤ c.toNat ∧ c.toNat ≤ 122)
def idOk (s : ByteArray) : Bool := s.data.toList.all idCh && inB (s.size : Int) 1 6
set_option maxRecDepth 100000 in
theorem all_step {s : ByteArray} {k : Nat} {p : UInt8 → Bool} (hlt : k < s.size) (h : (s.data.toList.take k).all p = true) (hp : p s[k] = true) : (s.data.toList.take (k + 1)).all p = true := by
  have hl : k < s.data.toList.length := by simpa using hlt
  have hp' : p s.data.toList[k] = true := hp
  rw [List.take_succ_eq_append_getElem hl, List.all_append, h]
  simpa using hp'
set_option maxRecDepth 100000 in
theorem all_not {s : ByteArray} {k : Nat} {p : UInt8 → Bool} (hlt : k < s.size) (hp : p s[k] = false) : s.data.toList.all p = false := by
  rw [List.all_eq_false]
  have hl : k < s.data.toList.length := by simpa using hlt
  exact ⟨s.data.toList[k], List.getElem_mem hl, by rw [Bool.not_eq_true]; exact hp⟩
set_option maxRecDepth 100000 in
theorem all_whole {s : ByteArray} {p : UInt8 → Bool} (h : (s.data.toList.take s.size).all p = true) : s.data.toList.all p = true := by
  have e : s.size = s.data.toList.length := by simp
  rw [e, List.take_length] at h
  exact h
set_option maxRecDepth 100000 in
theorem idOk_not {s : ByteArray} (h : s.data.toList.all idCh = false) : idOk s = false := by unfold idOk; rw [h]; rfl
set_option maxRecDepth 100000 in
theorem idOk_yes {s : ByteArray} (h : s.data.toList.all idCh = true) : idOk s = inB (s.size : Int) 1 6 := by unfold idOk; rw [h]; rfl
end Go.Proofs.YtmojpiofdfmdgabDoor
set_option linter.unusedVariables false
namespace Go.Proofs.YtmojpiofdfmdgabDoor
open Go.ChangeShapes Go.WideShapes Go.ChangeAt Go.RowKit

/-- a row of structs of the call's own, from block B on; it may be appended to -/
def owE {α : Type} (T : TypeId) (k : Nat) (enc : α → List Value) (B : Nat) (w : World) (v : Value) (l : List α) : Prop := w.ownsRow B T k v l.length (l.flatMap enc)
section
variable {α : Type} {T : TypeId} {k B B' : Nat} {enc : α → List Value} {w w' : World} {v : Value} {l : List α}
set_option maxRecDepth 100000 in
theorem owE.lt (h : owE T k enc B w v l) : ∀ g, v.ownBlock = some g → B ≤ g ∧ g < w.heap.size := World.ownsRow.lt h
set_option maxRecDepth 100000 in
theorem owE.keep (h : owE T k enc B w v l) (hk : ∀ g, v.ownBlock = some g → w'.heap[g]? = w.heap[g]?) : owE T k enc B w' v l := by
  refine ⟨h.1, ?_⟩
  rcases h.2 with hn | ⟨g, cap, cur, rfl, hB, hg, rest⟩
  · exact .inl hn
  · exact .inr ⟨g, cap, cur, rfl, hB, (hk g rfl).trans hg, rest⟩
set_option maxRecDepth 100000 in
theorem owE.below {C : Nat} (h : owE T k enc B w v l) (hb : Below C w w') (hC : w.heap.size ≤ C) : owE T k enc B w' v l := h.keep fun g hg => hb.block g (by have := (h.lt g hg).2; omega)
set_option maxRecDepth 100000 in
theorem owE.alloc (h : owE T k enc B w v l) (o : Obj) : owE T k enc B (w.alloc o) v l := World.ownsRow.alloc h o
set_option maxRecDepth 100000 in
theorem owE.set (h : owE T k enc B w v l) {b : Nat} (hb : v.ownBlock ≠ some b) (o : Nat) (x : Value) : owE T k enc B (w.setCell ⟨b, o, none⟩ x) v l := h.keep fun g hg => Below.heap_setCell _ _ _ _ (show g ≠ b from fun e => hb (by rw [hg, e]))
set_option maxRecDepth 100000 in
theorem owE.mono (h : owE T k enc B w v l) (hB : B' ≤ B) : owE T k enc B' w v l := World.ownsRow.mono h hB
set_option maxRecDepth 100000 in
theorem flat_at (hk : ∀ x, (enc x).length = k) : ∀ (l : List α) (j : Nat) (x : α), l[j]? = some x → ∀ t u, (enc x)[t]? = some u → (l.flatMap enc)[j * k + t]? = some u := by
  intro l
  induction l with
  | nil => intro j x h; simp at h
  | cons y l ih =>
    intro j x h t u hu
    rw [List.flatMap_cons]
    cases j with
    | zero =>
      simp only [List.getElem?_cons_zero, Option.some.injEq] at h
      subst h
      rw [Nat.zero_mul, Nat.zero_add, List.getElem?_append_left (List.getElem?_eq_some_iff.1 hu).1]
      exact hu
    | succ j =>
      have := ih j x (by simpa using h) t u hu
      rw [List.getElem?_append_right (by rw [hk, Nat.add_mul]; omega), hk, Nat.add_mul]
      rwa [show j * k + 1 * k + t - k = j * k + t by omega]
set_option maxRecDepth 100000 in
/-- the row's elements lie in one block that may be written -/
theorem owE.filled (h : owE T k enc B w v l) (hk : ∀ x, (enc x).length = k) (d : α) : (l = [] ∧ ∃ A c, v = .slice A 0 c) ∨ ∃ b c, v = .slice (some ⟨b, 0, none⟩) l.length c ∧ l.length ≤ c ∧ B ≤ b ∧ b < w.heap.size ∧ Proofs.YtmojpiofdfmdgabDoor.filled w b 0 k l.length l.length fun j => enc (l.getD j d) := by
  have hlen := h.1
  rcases h.2 with ⟨rfl, h0⟩ | ⟨g, cap, cur, rfl, hB, hg, h1, h2, h3, h4⟩
  · exact .inl ⟨List.eq_nil_of_length_eq_zero h0, none, 0, rfl⟩
  · refine .inr ⟨g, cap, rfl, h1, hB, (Array.getElem?_eq_some_iff.1 hg).1, ?_⟩
    have hh : w.ownsRow B T k (.slice (some ⟨g, 0, none⟩) l.length cap) l.length (l.flatMap enc) := h
    refine ⟨fun t ht => ?_, fun j hj t u hu => ?_⟩
    · rw [Nat.zero_add]
      refine ⟨?_, hh.frozenAt t⟩
      rw [hh.cellAt t ht]
      exact ⟨_, List.getElem?_eq_getElem (by rw [hlen]; exact ht)⟩
    · have hx : l[j]? = some l[j] := List.getElem?_eq_getElem hj
      have hd : l.getD j d = l[j] := by rw [List.getD_eq_getElem?_getD, hx]; rfl
      simp only [hd] at hu
      have htk : t < k := by rw [← hk l[j]]; exact (List.getElem?_eq_some_iff.1 hu).1
      have hjk := mul_step (k := k) hj
      rw [Nat.zero_add, hh.cellAt (j * k + t) (by omega)]
      exact flat_at hk l j _ hx t u hu
end
set_option maxRecDepth 100000 in
theorem ow.from {T : TypeId} {K : IntKind} {B : Nat} {w : World} {v : Value} {L : List Int} (h : ow T K B w v L) : ∀ g, v.ownBlock = some g → B ≤ g := fun g hg => (World.ownsRow.lt h g hg).1
set_option maxRecDepth 100000 in
theorem rd.at {K : IntKind} {hi : Nat} {w : World} {A : Option Addr} {n c : Nat} {l : List Int} (h : rd K hi w (.slice A n c) l) {j : Nat} {x : Int} (hx : l[j]? = some x) : ∃ b off : Nat, A = some ⟨b, off, none⟩ ∧ b < hi ∧ w.cell? ⟨b, off + j, none⟩ = some (.int K x) := by
  obtain ⟨A', c', hv, hc, hj⟩ := h
  obtain ⟨b, off, e, hb, hcell⟩ := hj j (List.getElem?_eq_some_iff.1 hx).1
  simp only [Value.slice.injEq] at hv
  rw [List.getD_eq_getElem?_getD, hx] at hcell
  exact ⟨b, off, by rw [hv.1]; exact e, hb, hcell⟩
/-- numbers as such rows -/
def iCells (z : Int) : List Value := [.int .i64 z]
set_option maxRecDepth 100000 in
theorem flat_map {α β : Type} (f : α → β) (l : List α) : (l.flatMap fun x => [f x]) = l.map f := by
  induction l with
  | nil => rfl
  | cons x l ih => rw [List.flatMap_cons, ih]; rfl
set_option maxRecDepth 100000 in
theorem owE.ints {T : TypeId} {B : Nat} {w : World} {v : Value} {l : List Int} (h : owE T 1 iCells B w v l) : ow T .i64 B w v l := by
  unfold owE at h
  rw [show l.flatMap iCells = l.map (Value.int .i64) from flat_map _ _] at h
  exact h
end Go.Proofs.YtmojpiofdfmdgabDoor
set_option linter.unusedVariables false
namespace Go.Proofs.YtmojpiofdfmdgabDoor
open Go.ChangeShapes Go.WideShapes Go.ChangeAt Go.RowKit

set_option maxRecDepth 100000 in
theorem bk.cells3 {w : World} {g : Nat} {t : TypeId} {a b c : Value} (h : bk w g t [a, b, c]) : w.cell? ⟨g, 0, none⟩ = some a ∧ w.cell? ⟨g, 1, none⟩ = some b ∧ w.cell? ⟨g, 2, none⟩ = some c := ⟨h.cell 0, h.cell 1, h.cell 2⟩
end Go.Proofs.YtmojpiofdfmdgabDoor
set_option linter.unusedVariables false
namespace Go.Proofs.YtmojpiofdfmdgabDoor
open Go.ChangeShapes Go.WideShapes Go.ChangeAt Go.RowKit

set_option maxRecDepth 100000 in
set_option maxHeartbeats 1600000 in
theorem specHoldIdOk_any (s : ByteArray) (w : World) (hs : s.size ≤ maxLen) :
    Calls Tryd.prog 13 #[.string s] w fun e w' => e = .returned (.bool (idOk s)) ∧ w = w' := by
  unfold maxLen at hs
  have HI := Lib.hid (fun w => inB_any (s.size : Int) 1 6 w)
  go_enter Tryd.func13, Tryd.ntmps13
  go_wp2
  go_loop [3] (fun i => ∃ k : Nat, k ≤ s.size ∧ i = .int .i64 k ∧ (s.data.toList.take k).all idCh = true) (fun i => s.size - (intOf i).toNat)
  case atStart => exact ⟨0, Nat.zero_le _, rfl, rfl⟩
  case round =>
    obtain ⟨k, hk, rfl, ha0⟩ := hrel
    have ha := Lib.hid ha0
    clear ha0
    by_cases hlt : k < s.size
    · go_wp2
      · go_ret
        exact ⟨ret_bool (idOk_not (all_not (p := idCh) hlt (decide_eq_false (by omega)))).symm, rfl⟩
      · go_round
        case rel => exact ⟨k + 1, by omega, by go_num, all_step hlt ha.out (decide_eq_true (by omega))⟩
        case measure => simp [intOf] <;> omega
      · go_ret
        exact ⟨ret_bool (idOk_not (all_not (p := idCh) hlt (decide_eq_false (by omega)))).symm, rfl⟩
      · go_round
        case rel => exact ⟨k + 1, by omega, by go_num, all_step hlt ha.out (decide_eq_true (by omega))⟩
        case measure => simp [intOf] <;> omega
      · go_ret
        exact ⟨ret_bool (idOk_not (all_not (p := idCh) hlt (decide_eq_false (by omega)))).symm, rfl⟩
    · obtain rfl : k = s.size := by omega
      have HV := Lib.hid (idOk_yes (all_whole ha.out))
      go_wp2_with fail
      refine (HI.out _).mono ?_
      rintro e w1 ⟨rfl, rfl⟩
      go_wp2
      go_ret
      exact ⟨ret_bool HV.out.symm, rfl⟩
end Go.Proofs.YtmojpiofdfmdgabDoor
set_option linter.unusedVariables false
namespace Go.Proofs.YtmojpiofdfmdgabDoor
open Go.ChangeShapes Go.WideShapes Go.ChangeAt Go.RowKit

/-- W is w0 and more: all blocks of w0 hold what they held. -/
def Ext (w0 W : World) : Prop := Below w0.heap.size w0 W
set_option maxRecDepth 100000 in
theorem Ext.refl (w0 : World) : Ext w0 w0 := Below.refl _ _
set_option maxRecDepth 100000 in
theorem Ext.drew {w0 W : World} (h : Ext w0 W) : Ext w0 W.drew := Below.drew h
set_option maxRecDepth 100000 in
theorem Ext.below {w0 W : World} (h : Ext w0 W) : Below w0.heap.size w0 W := h
set_option maxRecDepth 100000 in
theorem Ext.step {w0 W W' : World} (h : Ext w0 W) (hb : Below W.heap.size W W') : Ext w0 W' := Below.trans h (hb.mono (Below.size h))
set_option maxRecDepth 100000 in
theorem Ext.cell {w0 W : World} (h : Ext w0 W) {b off : Nat} {v : Value} (hc : w0.cell? ⟨b, off, none⟩ = some v) (hb : b < w0.heap.size) : W.cell? ⟨b, off, none⟩ = some v := (Below.cell h hb).trans hc
set_option maxRecDepth 100000 in
theorem quiet_region {P : Program} {C : World → Prop} {id : Nat} {Q : Exit → Act → World → Prop} {a : Act} {w : World} {l : List Oper} (hm : P.follows .mixedOrders = true) (hB : Region.lexB .any l.toArray = true) (hC : C w.drew)
    (h : wpQuiet P l.toArray C (fun a' => ∀ w', C w' → Q .normal a' w') l a) : (Code.region id l.toArray true).wp P Q a w :=
  wp_region_quiet (C := C) hm hB hC (by simpa using h)
end Go.Proofs.YtmojpiofdfmdgabDoor
set_option linter.unusedVariables false
namespace Go.Proofs.YtmojpiofdfmdgabDoor
open Go.ChangeShapes Go.WideShapes Go.ChangeAt Go.RowKit

set_option maxRecDepth 100000 in
set_option maxHeartbeats 8000000 in
theorem specReqOk_early (op : Int) (acct other hold trace mti om : ByteArray) (amount ttl : Int) (w : World) (hs1 : acct.size ≤ maxLen) (hs2 : other.size ≤ maxLen) (hs3 : hold.size ≤ maxLen) (hs4 : trace.size ≤ maxLen) (hom : opTxt 0 op = om) (hno : ¬ (isOp op = true ∧ mti = om ∧ acctIdB acct = true ∧ digs trace = true ∧ trace.size = 6)) :
    Calls Tryd.prog 5 #[.agg #[.int .i64 op, .string acct, .string other, .string hold, .string trace, .string mti, .int .i64 amount, .int .i64 ttl]] w fun e w' => e = .returned (.bool false) ∧ Below w.heap.size w w' := by
  have HOP := Lib.hid (l11Op_any op)
  have HMT := Lib.hid (hom ▸ specOpMti_any op)
  have HAC := Lib.hid (fun V => specAcctIdOk_any acct V hs1)
  have HDG := Lib.hid (fun V => specDigits_any trace V hs4)
  generalize isOp op = b1 at HOP hno
  generalize acctIdB acct = b2 at HAC hno
  generalize digs trace = b3 at HDG hno
  clear hom hs1 hs2 hs3 hs4
  cases b1
  · clear hno
    go_enter Tryd.func5, Tryd.ntmps5
    go_upto_region 1 with fail
    obtain ⟨W, hW⟩ : ∃ W, W = w.alloc (.cells #[.int .i64 op, .string acct, .string other, .string hold, .string trace, .string mti, .int .i64 amount, .int .i64 ttl] 26) := ⟨_, rfl⟩
    have bb : bk W w.heap.size 26 [.int .i64 op, .string acct, .string other, .string hold, .string trace, .string mti, .int .i64 amount, .int .i64 ttl] := by rw [hW]; exact bk.new w _ _
    have HBW : Hid (Below w.heap.size w W) := Lib.hid (by rw [hW]; exact (Below.refl _ _).alloc (Nat.le_refl _) _)
    rw [← hW]
    clear hW
    have z0 := bb.lt
    have B0 := Lib.hid bb
    obtain ⟨⟨p0, p1, p2, p3, p4, p5, p6, p7⟩, -⟩ := bb.eight
    have P0 := Lib.hid p0
    have P1 := Lib.hid p1
    have P4 := Lib.hid p4
    have P5 := Lib.hid p5
    clear bb p0 p1 p2 p3 p4 p5 p6 p7
    have HX : Hid (Ext W W.drew) := Lib.hid (Ext.refl W).drew
    refine quiet_region (C := Ext W) (by kernel_rfl) (by kernel_rfl) HX.out ?_
    repeat (first
      | go_big_quiet_skip
      | (go_big_quiet_want; go_big_quiet_op; go_big_quiet_on)
      | (go_big_quiet_want; go_big_quiet_op; apply Exists.intro; refine ⟨fun _ _ => rfl, ?_⟩; go_big_quiet_on)
      | (go_big_quiet_want
         apply Exists.intro
         refine ⟨fun V hV => ?_, ?_⟩
         (have p0 := hV.cell P0.out (by omega)
          have p1 := hV.cell P1.out (by omega)
          have p4 := hV.cell P4.out (by omega)
          have p5 := hV.cell P5.out (by omega)
          unfold Oper.quietAt
          go_simp
          rfl)
         simp only [Act.put, List.setIfInBounds_toArray, List.set_cons_zero, List.set_cons_succ]
         go_big_quiet_on)
      | (go_big_quiet_want
         apply Exists.intro
         refine ⟨fun V hV => ?_, ?_⟩
         (unfold Oper.quietAt
          go_simp
          go_at_call 8
          refine (HOP.out V).mono ?_
          rintro e w4 ⟨rfl, rfl⟩
          exact ⟨rfl, hV⟩)
         simp only [Act.put, List.setIfInBounds_toArray, List.set_cons_zero, List.set_cons_succ]
         go_big_quiet_on)
      | (go_big_quiet_want
         apply Exists.intro
         refine ⟨fun V hV => ?_, ?_⟩
         (unfold Oper.quietAt
          go_simp
          go_at_call 9
          refine (HMT.out V).mono ?_
          rintro e w4 ⟨rfl, hb⟩
          exact ⟨rfl, hV.step hb⟩)
         simp only [Act.put, List.setIfInBounds_toArray, List.set_cons_zero, List.set_cons_succ]
         go_big_quiet_on)
      | (go_big_quiet_want
         apply Exists.intro
         refine ⟨fun V hV => ?_, ?_⟩
         (unfold Oper.quietAt
          go_simp
          go_at_call 10
          refine (HAC.out V).mono ?_
          rintro e w4 ⟨rfl, hb⟩
          exact ⟨rfl, hV.step hb⟩)
         simp only [Act.put, List.setIfInBounds_toArray, List.set_cons_zero, List.set_cons_succ]
         go_big_quiet_on)
      | (go_big_quiet_want
         apply Exists.intro
         refine ⟨fun V hV => ?_, ?_⟩
         (unfold Oper.quietAt
          go_simp
          go_at_call 11
          refine (HDG.out V).mono ?_
          rintro e w4 ⟨rfl, rfl⟩
          exact ⟨rfl, hV⟩)
         simp only [Act.put, List.setIfInBounds_toArray, List.set_cons_zero, List.set_cons_succ]
         go_big_quiet_on)
      | fail)
    refine wpQuiet_nil ?_
    intro w2 hw2
    have z2 : W.heap.size ≤ w2.heap.size := hw2.below.size
    have HB : Hid (Below w.heap.size w w2) := Lib.hid (HBW.out.trans (hw2.below.mono (by omega)))
    go_wp2
    go_ret
    exact ⟨rfl, HB.out⟩
  by_cases hm : mti = om
  rotate_left
  · have hm' : (mti.toList == om.toList) = false := str_no hm
    clear hno hm
    go_enter Tryd.func5, Tryd.ntmps5
    go_upto_region 1 with fail
    obtain ⟨W, hW⟩ : ∃ W, W = w.alloc (.cells #[.int .i64 op, .string acct, .string other, .string hold, .string trace, .string mti, .int .i64 amount, .int .i64 ttl] 26) := ⟨_, rfl⟩
    have bb : bk W w.heap.size 26 [.int .i64 op, .string acct, .string other, .string hold, .string trace, .string mti, .int .i64 amount, .int .i64 ttl] := by rw [hW]; exact bk.new w _ _
    have HBW : Hid (Below w.heap.size w W) := Lib.hid (by rw [hW]; exact (Below.refl _ _).alloc (Nat.le_refl _) _)
    rw [← hW]
    clear hW
    have z0 := bb.lt
    have B0 := Lib.hid bb
    obtain ⟨⟨p0, p1, p2, p3, p4, p5, p6, p7⟩, -⟩ := bb.eight
    have P0 := Lib.hid p0
    have P1 := Lib.hid p1
    have P4 := Lib.hid p4
    have P5 := Lib.hid p5
    clear bb p0 p1 p2 p3 p4 p5 p6 p7
    have HX : Hid (Ext W W.drew) := Lib.hid (Ext.refl W).drew
    refine quiet_region (C := Ext W) (by kernel_rfl) (by kernel_rfl) HX.out ?_
    repeat (first
      | go_big_quiet_skip
      | (go_big_quiet_want; go_big_quiet_op; go_big_quiet_on)
      | (go_big_quiet_want; go_big_quiet_op; apply Exists.intro; refine ⟨fun _ _ => rfl, ?_⟩; go_big_quiet_on)
      | (go_big_quiet_want
         apply Exists.intro
         refine ⟨fun V hV => ?_, ?_⟩
         (have p0 := hV.cell P0.out (by omega)
          have p1 := hV.cell P1.out (by omega)
          have p4 := hV.cell P4.out (by omega)
          have p5 := hV.cell P5.out (by omega)
          unfold Oper.quietAt
          go_simp
          rfl)
         simp only [Act.put, List.setIfInBounds_toArray, List.set_cons_zero, List.set_cons_succ]
         go_big_quiet_on)
      | (go_big_quiet_want
         apply Exists.intro
         refine ⟨fun V hV => ?_, ?_⟩
         (unfold Oper.quietAt
          go_simp
          go_at_call 8
          refine (HOP.out V).mono ?_
          rintro e w4 ⟨rfl, rfl⟩
          exact ⟨rfl, hV⟩)
         simp only [Act.put, List.setIfInBounds_toArray, List.set_cons_zero, List.set_cons_succ]
         go_big_quiet_on)
      | (go_big_quiet_want
         apply Exists.intro
         refine ⟨fun V hV => ?_, ?_⟩
         (unfold Oper.quietAt
          go_simp
          go_at_call 9
          refine (HMT.out V).mono ?_
          rintro e w4 ⟨rfl, hb⟩
          exact ⟨rfl, hV.step hb⟩)
         simp only [Act.put, List.setIfInBounds_toArray, List.set_cons_zero, List.set_cons_succ]
         go_big_quiet_on)
      | (go_big_quiet_want
         apply Exists.intro
         refine ⟨fun V hV => ?_, ?_⟩
         (unfold Oper.quietAt
          go_simp
          go_at_call 10
          refine (HAC.out V).mono ?_
          rintro e w4 ⟨rfl, hb⟩
          exact ⟨rfl, hV.step hb⟩)
         simp only [Act.put, List.setIfInBounds_toArray, List.set_cons_zero, List.set_cons_succ]
         go_big_quiet_on)
      | (go_big_quiet_want
         apply Exists.intro
         refine ⟨fun V hV => ?_, ?_⟩
         (unfold Oper.quietAt
          go_simp
          go_at_call 11
          refine (HDG.out V).mono ?_
          rintro e w4 ⟨rfl, rfl⟩
          exact ⟨rfl, hV⟩)
         simp only [Act.put, List.setIfInBounds_toArray, List.set_cons_zero, List.set_cons_succ]
         go_big_quiet_on)
      | fail)
    refine wpQuiet_nil ?_
    intro w2 hw2
    have z2 : W.heap.size ≤ w2.heap.size := hw2.below.size
    have HB : Hid (Below w.heap.size w w2) := Lib.hid (HBW.out.trans (hw2.below.mono (by omega)))
    go_wp2
    go_ret
    exact ⟨rfl, HB.out⟩
  subst hm
  cases b2
  · clear hno
    go_enter Tryd.func5, Tryd.ntmps5
    go_upto_region 1 with fail
    obtain ⟨W, hW⟩ : ∃ W, W = w.alloc (.cells #[.int .i64 op, .string acct, .string other, .string hold, .string trace, .string mti, .int .i64 amount, .int .i64 ttl] 26) := ⟨_, rfl⟩
    have bb : bk W w.heap.size 26 [.int .i64 op, .string acct, .string other, .string hold, .string trace, .string mti, .int .i64 amount, .int .i64 ttl] := by rw [hW]; exact bk.new w _ _
    have HBW : Hid (Below w.heap.size w W) := Lib.hid (by rw [hW]; exact (Below.refl _ _).alloc (Nat.le_refl _) _)
    rw [← hW]
    clear hW
    have z0 := bb.lt
    have B0 := Lib.hid bb
    obtain ⟨⟨p0, p1, p2, p3, p4, p5, p6, p7⟩, -⟩ := bb.eight
    have P0 := Lib.hid p0
    have P1 := Lib.hid p1
    have P4 := Lib.hid p4
    have P5 := Lib.hid p5
    clear bb p0 p1 p2 p3 p4 p5 p6 p7
    have HX : Hid (Ext W W.drew) := Lib.hid (Ext.refl W).drew
    refine quiet_region (C := Ext W) (by kernel_rfl) (by kernel_rfl) HX.out ?_
    repeat (first
      | go_big_quiet_skip
      | (go_big_quiet_want; go_big_quiet_op; go_big_quiet_on)
      | (go_big_quiet_want; go_big_quiet_op; apply Exists.intro; refine ⟨fun _ _ => rfl, ?_⟩; go_big_quiet_on)
      | (go_big_quiet_want
         apply Exists.intro
         refine ⟨fun V hV => ?_, ?_⟩
         (have p0 := hV.cell P0.out (by omega)
          have p1 := hV.cell P1.out (by omega)
          have p4 := hV.cell P4.out (by omega)
          have p5 := hV.cell P5.out (by omega)
          unfold Oper.quietAt
          go_simp
          rfl)
         simp only [Act.put, List.setIfInBounds_toArray, List.set_cons_zero, List.set_cons_succ]
         go_big_quiet_on)
      | (go_big_quiet_want
         apply Exists.intro
         refine ⟨fun V hV => ?_, ?_⟩
         (unfold Oper.quietAt
          go_simp
          go_at_call 8
          refine (HOP.out V).mono ?_
          rintro e w4 ⟨rfl, rfl⟩
          exact ⟨rfl, hV⟩)
         simp only [Act.put, List.setIfInBounds_toArray, List.set_cons_zero, List.set_cons_succ]
         go_big_quiet_on)
      | (go_big_quiet_want
         apply Exists.intro
         refine ⟨fun V hV => ?_, ?_⟩
         (unfold Oper.quietAt
          go_simp
          go_at_call 9
          refine (HMT.out V).mono ?_
          rintro e w4 ⟨rfl, hb⟩
          exact ⟨rfl, hV.step hb⟩)
         simp only [Act.put, List.setIfInBounds_toArray, List.set_cons_zero, List.set_cons_succ]
         go_big_quiet_on)
      | (go_big_quiet_want
         apply Exists.intro
         refine ⟨fun V hV => ?_, ?_⟩
         (unfold Oper.quietAt
          go_simp
          go_at_call 10
          refine (HAC.out V).mono ?_
          rintro e w4 ⟨rfl, hb⟩
          exact ⟨rfl, hV.step hb⟩)
         simp only [Act.put, List.setIfInBounds_toArray, List.set_cons_zero, List.set_cons_succ]
         go_big_quiet_on)
      | (go_big_quiet_want
         apply Exists.intro
         refine ⟨fun V hV => ?_, ?_⟩
         (unfold Oper.quietAt
          go_simp
          go_at_call 11
          refine (HDG.out V).mono ?_
          rintro e w4 ⟨rfl, rfl⟩
          exact ⟨rfl, hV⟩)
         simp only [Act.put, List.setIfInBounds_toArray, List.set_cons_zero, List.set_cons_succ]
         go_big_quiet_on)
      | fail)
    refine wpQuiet_nil ?_
    intro w2 hw2
    have z2 : W.heap.size ≤ w2.heap.size := hw2.below.size
    have HB : Hid (Below w.heap.size w w2) := Lib.hid (HBW.out.trans (hw2.below.mono (by omega)))
    go_wp2
    go_ret
    exact ⟨rfl, HB.out⟩
  cases b3
  · clear hno
    go_enter Tryd.func5, Tryd.ntmps5
    go_upto_region 1 with fail
    obtain ⟨W, hW⟩ : ∃ W, W = w.alloc (.cells #[.int .i64 op, .string acct, .string other, .string hold, .string trace, .string mti, .int .i64 amount, .int .i64 ttl] 26) := ⟨_, rfl⟩
    have bb : bk W w.heap.size 26 [.int .i64 op, .string acct, .string other, .string hold, .string trace, .string mti, .int .i64 amount, .int .i64 ttl] := by rw [hW]; exact bk.new w _ _
    have HBW : Hid (Below w.heap.size w W) := Lib.hid (by rw [hW]; exact (Below.refl _ _).alloc (Nat.le_refl _) _)
    rw [← hW]
    clear hW
    have z0 := bb.lt
    have B0 := Lib.hid bb
    obtain ⟨⟨p0, p1, p2, p3, p4, p5, p6, p7⟩, -⟩ := bb.eight
    have P0 := Lib.hid p0
    have P1 := Lib.hid p1
    have P4 := Lib.hid p4
    have P5 := Lib.hid p5
    clear bb p0 p1 p2 p3 p4 p5 p6 p7
    have HX : Hid (Ext W W.drew) := Lib.hid (Ext.refl W).drew
    refine quiet_region (C := Ext W) (by kernel_rfl) (by kernel_rfl) HX.out ?_
    repeat (first
      | go_big_quiet_skip
      | (go_big_quiet_want; go_big_quiet_op; go_big_quiet_on)
      | (go_big_quiet_want; go_big_quiet_op; apply Exists.intro; refine ⟨fun _ _ => rfl, ?_⟩; go_big_quiet_on)
      | (go_big_quiet_want
         apply Exists.intro
         refine ⟨fun V hV => ?_, ?_⟩
         (have p0 := hV.cell P0.out (by omega)
          have p1 := hV.cell P1.out (by omega)
          have p4 := hV.cell P4.out (by omega)
          have p5 := hV.cell P5.out (by omega)
          unfold Oper.quietAt
          go_simp
          rfl)
         simp only [Act.put, List.setIfInBounds_toArray, List.set_cons_zero, List.set_cons_succ]
         go_big_quiet_on)
      | (go_big_quiet_want
         apply Exists.intro
         refine ⟨fun V hV => ?_, ?_⟩
         (unfold Oper.quietAt
          go_simp
          go_at_call 8
          refine (HOP.out V).mono ?_
          rintro e w4 ⟨rfl, rfl⟩
          exact ⟨rfl, hV⟩)
         simp only [Act.put, List.setIfInBounds_toArray, List.set_cons_zero, List.set_cons_succ]
         go_big_quiet_on)
      | (go_big_quiet_want
         apply Exists.intro
         refine ⟨fun V hV => ?_, ?_⟩
         (unfold Oper.quietAt
          go_simp
          go_at_call 9
          refine (HMT.out V).mono ?_
          rintro e w4 ⟨rfl, hb⟩
          exact ⟨rfl, hV.step hb⟩)
         simp only [Act.put, List.setIfInBounds_toArray, List.set_cons_zero, List.set_cons_succ]
         go_big_quiet_on)
      | (go_big_quiet_want
         apply Exists.intro
         refine ⟨fun V hV => ?_, ?_⟩
         (unfold Oper.quietAt
          go_simp
          go_at_call 10
          refine (HAC.out V).mono ?_
          rintro e w4 ⟨rfl, hb⟩
          exact ⟨rfl, hV.step hb⟩)
         simp only [Act.put, List.setIfInBounds_toArray, List.set_cons_zero, List.set_cons_succ]
         go_big_quiet_on)
      | (go_big_quiet_want
         apply Exists.intro
         refine ⟨fun V hV => ?_, ?_⟩
         (unfold Oper.quietAt
          go_simp
          go_at_call 11
          refine (HDG.out V).mono ?_
          rintro e w4 ⟨rfl, rfl⟩
          exact ⟨rfl, hV⟩)
         simp only [Act.put, List.setIfInBounds_toArray, List.set_cons_zero, List.set_cons_succ]
         go_big_quiet_on)
      | fail)
    refine wpQuiet_nil ?_
    intro w2 hw2
    have z2 : W.heap.size ≤ w2.heap.size := hw2.below.size
    have HB : Hid (Below w.heap.size w w2) := Lib.hid (HBW.out.trans (hw2.below.mono (by omega)))
    go_wp2
    go_ret
    exact ⟨rfl, HB.out⟩
  have h6 : ((trace.size : Int) == 6) = false := by simp at hno ⊢; omega
  clear hno
  go_enter Tryd.func5, Tryd.ntmps5
  go_upto_region 1 with fail
  obtain ⟨W, hW⟩ : ∃ W, W = w.alloc (.cells #[.int .i64 op, .string acct, .string other, .string hold, .string trace, .string mti, .int .i64 amount, .int .i64 ttl] 26) := ⟨_, rfl⟩
  have bb : bk W w.heap.size 26 [.int .i64 op, .string acct, .string other, .string hold, .string trace, .string mti, .int .i64 amount, .int .i64 ttl] := by rw [hW]; exact bk.new w _ _
  have HBW : Hid (Below w.heap.size w W) := Lib.hid (by rw [hW]; exact (Below.refl _ _).alloc (Nat.le_refl _) _)
  rw [← hW]
  clear hW
  have z0 := bb.lt
  have B0 := Lib.hid bb
  obtain ⟨⟨p0, p1, p2, p3, p4, p5, p6, p7⟩, -⟩ := bb.eight
  have P0 := Lib.hid p0
  have P1 := Lib.hid p1
  have P4 := Lib.hid p4
  have P5 := Lib.hid p5
  clear bb p0 p1 p2 p3 p4 p5 p6 p7
  have HX : Hid (Ext W W.drew) := Lib.hid (Ext.refl W).drew
  refine quiet_region (C := Ext W) (by kernel_rfl) (by kernel_rfl) HX.out ?_
  repeat (first
    | go_big_quiet_skip
    | (go_big_quiet_want; go_big_quiet_op; go_big_quiet_on)
    | (go_big_quiet_want; go_big_quiet_op; apply Exists.intro; refine ⟨fun _ _ => rfl, ?_⟩; go_big_quiet_on)
    | (go_big_quiet_want
       apply Exists.intro
       refine ⟨fun V hV => ?_, ?_⟩
       (have p0 := hV.cell P0.out (by omega)
        have p1 := hV.cell P1.out (by omega)
        have p4 := hV.cell P4.out (by omega)
        have p5 := hV.cell P5.out (by omega)
        unfold Oper.quietAt
        go_simp
        rfl)
       simp only [Act.put, List.setIfInBounds_toArray, List.set_cons_zero, List.set_cons_succ]
       go_big_quiet_on)
    | (go_big_quiet_want
       apply Exists.intro
       refine ⟨fun V hV => ?_, ?_⟩
       (unfold Oper.quietAt
        go_simp
        go_at_call 8
        refine (HOP.out V).mono ?_
        rintro e w4 ⟨rfl, rfl⟩
        exact ⟨rfl, hV⟩)
       simp only [Act.put, List.setIfInBounds_toArray, List.set_cons_zero, List.set_cons_succ]
       go_big_quiet_on)
    | (go_big_quiet_want
       apply Exists.intro
       refine ⟨fun V hV => ?_, ?_⟩
       (unfold Oper.quietAt
        go_simp
        go_at_call 9
        refine (HMT.out V).mono ?_
        rintro e w4 ⟨rfl, hb⟩
        exact ⟨rfl, hV.step hb⟩)
       simp only [Act.put, List.setIfInBounds_toArray, List.set_cons_zero, List.set_cons_succ]
       go_big_quiet_on)
    | (go_big_quiet_want
       apply Exists.intro
       refine ⟨fun V hV => ?_, ?_⟩
       (unfold Oper.quietAt
        go_simp
        go_at_call 10
        refine (HAC.out V).mono ?_
        rintro e w4 ⟨rfl, hb⟩
        exact ⟨rfl, hV.step hb⟩)
       simp only [Act.put, List.setIfInBounds_toArray, List.set_cons_zero, List.set_cons_succ]
       go_big_quiet_on)
    | (go_big_quiet_want
       apply Exists.intro
       refine ⟨fun V hV => ?_, ?_⟩
       (unfold Oper.quietAt
        go_simp
        go_at_call 11
        refine (HDG.out V).mono ?_
        rintro e w4 ⟨rfl, rfl⟩
        exact ⟨rfl, hV⟩)
       simp only [Act.put, List.setIfInBounds_toArray, List.set_cons_zero, List.set_cons_succ]
       go_big_quiet_on)
    | fail)
  refine wpQuiet_nil ?_
  intro w2 hw2
  have z2 : W.heap.size ≤ w2.heap.size := hw2.below.size
  have HB : Hid (Below w.heap.size w w2) := Lib.hid (HBW.out.trans (hw2.below.mono (by omega)))
  go_wp2
  go_ret
  exact ⟨rfl, HB.out⟩

end Go.Proofs.YtmojpiofdfmdgabDoor
