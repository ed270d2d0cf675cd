/- Rows of the call's own that are appended to, of elements with memory of their own; no conditions. -/
import Derived.Test.YthnimmagaocipaaGreatDoorMrp2
import Derived.Test.YthnimmagaocipaaGreatDoorMrp3
import Derived.Deep.Cut
import Derived.Test.YthnimmagaocipaaGreatDoorMrp1
import Derived.Deep.RegionLaw
import Derived.Deep.DeepCutAuto
import Derived.Deep.RegionHeld3
import Derived.Laws.StructEq
import Derived.DeepKeys4
import Derived.Maps.Own
import Derived.Maps.Views
import Derived.Maps.OwnOps
import Derived.Carry
import Derived.Lib.SliceRun
import Derived.Lib.AppendZeros
set_option linter.unusedVariables false
namespace Go.Proofs.YthnimmagaocipaaGreatDoor
open Go.ChangeShapes Go.WideShapes Go.ChangeAt Go.RowKit

section
variable {α V : Type} {R : Rep α}
/-- the elements' memory: one after the other, none of it the row's -/
structure parts (D : Ivl R) (enc : V → List Value) (dat : V → α) (w : World) (row : Option Nat) (B : Nat) (ps : List V) (p q : Nat → Nat) : Prop where
  one : ∀ j x, ps[j]? = some x → D.I (p j) (q j) w (enc x) (dat x)
  ord : ∀ i j, i < j → j < ps.length → q i ≤ p j
  in_ : ∀ j, j < ps.length → B ≤ p j ∧ q j ≤ w.heap.size
  row : ∀ j, j < ps.length → ∀ g, row = some g → g < p j ∨ q j ≤ g
variable {D : Ivl R} {enc : V → List Value} {dat : V → α} {w w' : World} {row row' : Option Nat} {B P Q : Nat} {ps : List V} {p q : Nat → Nat} {x : V} {T : TypeId} {v : Value}
set_option maxRecDepth 100000 in
theorem parts.nil (D : Ivl R) (enc : V → List Value) (dat : V → α) (w : World) (row : Option Nat) (B : Nat) : parts D enc dat w row B [] (fun _ => 0) (fun _ => 0) := ⟨fun j x h => by simp at h, fun i j _ h => by simp at h, fun j h => by simp at h, fun j h => by simp at h⟩
set_option maxRecDepth 100000 in
theorem parts.below (h : parts D enc dat w row B ps p q) (hb : Below w.heap.size w w') : parts D enc dat w' row B ps p q :=
  ⟨fun j x hx => D.below (h.one j x hx) hb (h.in_ j (List.getElem?_eq_some_iff.1 hx).1).2, h.ord, fun j hj => ⟨(h.in_ j hj).1, Nat.le_trans (h.in_ j hj).2 hb.size⟩, h.row⟩
set_option maxRecDepth 100000 in
theorem parts.grown (h : parts D enc dat w row B ps p q) (hg : w.grownBy w' row) (hr : row' = row ∨ ∃ g, row' = some g ∧ w.heap.size ≤ g) : parts D enc dat w' row' B ps p q := by
  refine ⟨fun j x hx => ?_, h.ord, fun j hj => ⟨(h.in_ j hj).1, Nat.le_trans (h.in_ j hj).2 hg.size⟩, fun j hj g hg' => ?_⟩
  · have hj := (List.getElem?_eq_some_iff.1 hx).1
    refine D.keep (h.one j x hx) fun b h1 h2 => hg.block b (by have := (h.in_ j hj).2; omega) (fun e => ?_)
    have h3 := h.row j hj b e.symm
    omega
  · rcases hr with hr | ⟨g', hr, hg2⟩
    · exact h.row j hj g (by rw [← hr]; exact hg')
    · rw [hr] at hg'
      cases hg'
      have := (h.in_ j hj).2
      exact .inr (by omega)
set_option maxRecDepth 100000 in
theorem parts.snoc (h : parts D enc dat w row B ps p q) (hx : D.I P Q w (enc x) (dat x)) (h1 : ∀ j, j < ps.length → q j ≤ P) (h2 : B ≤ P) (h3 : Q ≤ w.heap.size) (h4 : ∀ g, row = some g → g < P ∨ Q ≤ g) :
    parts D enc dat w row B (ps ++ [x]) (fun j => if j = ps.length then P else p j) (fun j => if j = ps.length then Q else q j) := by
  have hlen : (ps ++ [x]).length = ps.length + 1 := by simp
  refine ⟨fun j y hy => ?_, fun i j hij hj => ?_, fun j hj => ?_, fun j hj g hg => ?_⟩
  · by_cases e : j = ps.length
    · subst e
      simp only [if_true]
      have : y = x := by simpa using hy.symm
      subst this
      exact hx
    · have hj : j < ps.length := by have := (List.getElem?_eq_some_iff.1 hy).1; rw [hlen] at this; omega
      rw [List.getElem?_append_left hj] at hy
      show D.I (if j = ps.length then P else p j) (if j = ps.length then Q else q j) w (enc y) (dat y)
      rw [if_neg e, if_neg e]
      exact h.one j y hy
  · rw [hlen] at hj
    show (if i = ps.length then Q else q i) ≤ (if j = ps.length then P else p j)
    rw [if_neg (by omega)]
    by_cases e : j = ps.length
    · rw [if_pos e]; exact h1 i (by omega)
    · rw [if_neg e]; exact h.ord i j hij (by omega)
  · rw [hlen] at hj
    show B ≤ (if j = ps.length then P else p j) ∧ (if j = ps.length then Q else q j) ≤ w.heap.size
    by_cases e : j = ps.length
    · rw [if_pos e, if_pos e]; exact ⟨h2, h3⟩
    · rw [if_neg e, if_neg e]; exact h.in_ j (by omega)
  · rw [hlen] at hj
    show g < (if j = ps.length then P else p j) ∨ (if j = ps.length then Q else q j) ≤ g
    by_cases e : j = ps.length
    · rw [if_pos e, if_pos e]; exact h4 g hg
    · rw [if_neg e, if_neg e]; exact h.row j (by omega) g hg
set_option maxRecDepth 100000 in
/-- such a row is a slice whose elements lie in intervals -/
theorem parts.slice (ho : owE T R.k enc B w v ps) (h : parts D enc dat w v.ownBlock B ps p q) (hk : ∀ x, (enc x).length = R.k) (d : V) : SliceI D B w.heap.size w [v] (ps.map dat) := by
  have hl : (ps.map dat).length = ps.length := List.length_map ..
  rcases ho.filled hk d with ⟨rfl, A, c, rfl⟩ | ⟨b, c, rfl, hc, h1, h2, hf⟩
  · exact ⟨A, c, rfl, Nat.zero_le _, .inl rfl⟩
  · have hob : (Value.slice (some ⟨b, 0, none⟩) ps.length c).ownBlock = some b := rfl
    refine ⟨some ⟨b, 0, none⟩, c, by rw [hl], by rw [hl]; exact hc, .inr ⟨b, 0, ps.map fun x => (enc x, dat x), p, q, rfl, by rw [List.map_map]; rfl, ⟨fun j y hy => ?_, fun j hj t ht => ?_, fun j y hy => ?_, fun i j hi hj hne => ?_, fun j hj => ?_, h1, h2⟩⟩⟩
    · rw [List.getElem?_map] at hy
      obtain ⟨z, hz, rfl⟩ := Option.map_eq_some_iff.1 hy
      have := hf.at_ j (List.getElem?_eq_some_iff.1 hz).1
      have hg : ps.getD j d = z := by rw [List.getD_eq_getElem?_getD, hz]; rfl
      rw [hg] at this
      exact ⟨hk z, this⟩
    · rw [List.length_map] at hj
      exact (hf.cells hj t ht).2
    · rw [List.getElem?_map] at hy
      obtain ⟨z, hz, rfl⟩ := Option.map_eq_some_iff.1 hy
      exact h.one j z hz
    · rw [List.length_map] at hi hj
      rcases Nat.lt_or_gt_of_ne hne with e | e
      · exact .inl (h.ord i j e hj)
      · exact .inr (h.ord j i e hi)
    · rw [List.length_map] at hj
      have := h.in_ j hj
      have := h.row j hj b hob
      omega
set_option maxRecDepth 100000 in
theorem parts.keep (h : parts D enc dat w row B ps p q) (hk : ∀ b, B ≤ b → b < w.heap.size → w'.heap[b]? = w.heap[b]?) (hs : w.heap.size ≤ w'.heap.size) : parts D enc dat w' row B ps p q :=
  ⟨fun j x hx => D.keep (h.one j x hx) fun b h1 h2 => by
    have hj := (List.getElem?_eq_some_iff.1 hx).1
    have := h.in_ j hj
    exact hk b (by omega) (by omega), h.ord, fun j hj => ⟨(h.in_ j hj).1, Nat.le_trans (h.in_ j hj).2 hs⟩, h.row⟩
set_option maxRecDepth 100000 in
/-- one more element: made by a call, put into a block of one, appended -/
theorem grow_step {k : Nat} {w5 w9 : World} {A A9 : Option Addr} {c c9 : Nat} {y : V} {o : Obj} (ho : owE T k enc B w (.slice A ps.length c) ps) (hp : parts D enc dat w (Value.slice A ps.length c).ownBlock B ps p q) (hB : B ≤ w.heap.size) (hb : Below w.heap.size w w5) (hI : D.I P w5.heap.size w5 (enc y) (dat y)) (hP : w.heap.size ≤ P) (hg : (w5.alloc o).grownBy w9 (Value.slice A ps.length c).ownBlock) (hl : (Value.slice A9 (ps.length + 1) c9).ownBlock = (Value.slice A ps.length c).ownBlock ∨ (Value.slice A9 (ps.length + 1) c9).ownBlock = some (w5.heap.size + 1)) :
    ∃ p' q', parts D enc dat w9 (Value.slice A9 (ps ++ [y]).length c9).ownBlock B (ps ++ [y]) p' q' := by
  have hlt := ho.lt
  have h1 := (hp.below hb).snoc hI (fun j hj => by have := (hp.in_ j hj).2; omega) (by omega) (Nat.le_refl _) (fun g hg => .inl (by have := hlt g hg; omega))
  have h2 := (h1.below ((Below.refl _ _).alloc (Nat.le_refl _) o)).grown hg (row' := (Value.slice A9 (ps.length + 1) c9).ownBlock) (hl.imp id (fun e => ⟨_, e, by simp⟩))
  have e : (ps ++ [y]).length = ps.length + 1 := by simp
  rw [e]
  exact ⟨_, _, h2⟩
end
end Go.Proofs.YthnimmagaocipaaGreatDoor
set_option linter.unusedVariables false
namespace Go.Proofs.YthnimmagaocipaaGreatDoor
open Go.ChangeShapes Go.WideShapes Go.ChangeAt Go.RowKit

abbrev AcctV := AcctD × (Option Addr × Nat) × (Option Addr × Nat) × (Option Addr × Nat) × (Option Addr × Nat)
def aEnc (x : AcctV) : List Value := aCells x.1 (.slice x.2.1.1 (aH x.1).length x.2.1.2) (.slice x.2.2.1.1 (aR x.1).2.2.1.length x.2.2.1.2) (.slice x.2.2.2.1.1 (aR x.1).2.2.2.length x.2.2.2.1.2) (.slice x.2.2.2.2.1 (aS x.1).length x.2.2.2.2.2)
def aDat (x : AcctV) : AcctD := x.1
set_option maxRecDepth 100000 in
theorem aEnc_one (x : AcctV) : ∀ u ∈ aEnc x, u.oneCell' = true := by
  intro u hu
  simp only [aEnc, aCells, List.mem_cons, List.not_mem_nil, or_false] at hu
  rcases hu with rfl | rfl | rfl | rfl | rfl | rfl | rfl | rfl | rfl | rfl | rfl <;> rfl
abbrev noAcctV : AcctV := ((⟨#[]⟩, 0, 0, 0, 0, [], (0, 0, [], []), []), (none, 0), (none, 0), (none, 0), (none, 0))
/-- a layout's memory of one's own, in no form -/
def Ivl.any {α : Type} (R : Rep α) : Ivl R where
  I := R.mine
  keep := fun h hk => h.keep hk
  mono := fun h h1 h2 => h.mono h1 h2
  mine := fun h => h
/-- accounts of one's own, in a row that may be appended to -/
structure bookRow (D : Ivl AcctR) (B : Nat) (w : World) (A : Option Addr) (n c : Nat) (l : BookD) : Prop where
  ex : ∃ ps p q, n = ps.length ∧ ps.map aDat = l ∧ owE 50 11 aEnc B w (.slice A ps.length c) ps ∧ parts D aEnc aDat w (Value.slice A ps.length c).ownBlock B ps p q
set_option maxRecDepth 100000 in
theorem bookRow.slice {D : Ivl AcctR} {B n c : Nat} {w : World} {A : Option Addr} {l : BookD} (h : bookRow D B w A n c l) : SliceI D B w.heap.size w [.slice A n c] l := by
  obtain ⟨ps, p, q, rfl, rfl, ho, hp⟩ := h.ex
  exact hp.slice ho (fun x => rfl) noAcctV
/-- a book as it is given back, each account's memory in an interval -/
def bookOneA (l : BookD) (w : World) (e : Ending) (w' : World) : Prop := ∃ v, e = .returned (.agg #[v]) ∧ SliceI (Ivl.any AcctR) w.heap.size w'.heap.size w' [v] l ∧ Below w.heap.size w w'
set_option maxRecDepth 100000 in
theorem bookOneA.one {l : BookD} {w : World} {e : Ending} {w' : World} (h : bookOneA l w e w') : bookOne l w e w' := by
  obtain ⟨v, he, hm, hb⟩ := h
  exact ⟨v, he, (Ivl.any AcctR).slice.mine hm, hb⟩
set_option maxRecDepth 100000 in
/-- account k of a row takes another's place: its cells are written, its memory lies apart -/
theorem row_put11 {D : Ivl AcctR} {lo hi b off k P : Nat} {w w1 : World} {xs : List (List Value × AcctD)} {p q : Nat → Nat} {y : AcctD} {vh vc vs vl : Value} (h : RowI D lo hi w b off xs p q) (hk : k < xs.length) (hb : Below w.heap.size w w1) (hI : D.I P w1.heap.size w1 (aCells y vh vc vs vl) y) (hP : w.heap.size ≤ P) (hlo : lo ≤ P) (hs : hi ≤ w.heap.size) :
    ∃ p' q', RowI D lo w1.heap.size (put11 w1 b (off + k * 11) (.string (aId y)) (.int .i64 (aLim y)) (.int .i64 (aPos y)) (.int .i64 (aMost y)) (.int .i64 (aSum y)) vh (.int .i64 (aR y).1) (.int .i64 (aR y).2.1) vc vs vl) b off (xs.set k (aCells y vh vc vs vl, y)) p' q' := by
  rw [← sets11]
  show ∃ p' q', RowI D lo w1.heap.size (setsAt w1 b (off + k * 11) (aCells y vh vc vs vl)) b off (xs.set k (aCells y vh vc vs vl, y)) p' q'
  obtain ⟨b1, b2⟩ := h.blk
  have hz := hb.size
  have hT := setsAt_turned (aCells y vh vc vs vl) w1 b (off + k * 11) (Turned.refl b (b + 1) w1) (Nat.le_refl _) (by omega)
  have he : Edit b (off + k * AcctR.k) AcctR.k (p k) (q k) w (setsAt w1 b (off + k * 11) (aCells y vh vc vs vl)) := by
    rw [show AcctR.k = 11 from rfl]
    exact ((Edit.refl b (off + k * 11) 11 (p k) (q k) w).below hb (Nat.le_refl _) (by omega)).sets _ _ _ (Nat.le_refl _) (Nat.le_refl _)
  have hroom : roomL w1 b (off + k * 11) 11 := fun t ht => by
    have hx := (h.at_ k _ (List.getElem?_eq_getElem hk))
    have hf := h.free k hk t (by rw [show AcctR.k = 11 from rfl]; exact ht)
    rw [show AcctR.k = 11 from rfl] at hf hx
    have hbk := hb.block b (by omega)
    exact ⟨⟨_, (cell_keep hbk).trans (hx.2 t _ (List.getElem?_eq_getElem (by rw [hx.1]; exact ht)))⟩, (frozen_keep hbk).trans hf⟩
  refine ⟨_, _, h.put hk he rfl (by rw [show AcctR.k = 11 from rfl]; exact setsAt_at _ _ _ _ hroom) (D.turned hI hT (.inr (by omega)) (Nat.le_refl _)) (fun i hi _ => .inl (by have := (h.in_ i hi).2.1; omega)) ⟨hlo, Nat.le_refl _, .inl (by omega)⟩ (by omega) hs⟩
set_option maxRecDepth 100000 in
/-- the place of an account in such a row: cells that may be written -/
theorem row_room {D : Ivl AcctR} {lo hi b off k : Nat} {w w1 : World} {xs : List (List Value × AcctD)} {p q : Nat → Nat} (h : RowI D lo hi w b off xs p q) (hk : k < xs.length) (hb : w1.heap[b]? = w.heap[b]?) : roomL w1 b (off + k * 11) 11 := fun t ht => by
  have hx := (h.at_ k _ (List.getElem?_eq_getElem hk))
  have hf := h.free k hk t (by rw [show AcctR.k = 11 from rfl]; exact ht)
  rw [show AcctR.k = 11 from rfl] at hf hx
  exact ⟨⟨_, (cell_keep hb).trans (hx.2 t _ (List.getElem?_eq_getElem (by rw [hx.1]; exact ht)))⟩, (frozen_keep hb).trans hf⟩
set_option maxRecDepth 100000 in
theorem bk.put11 {V : World} {g b o : Nat} {t : TypeId} {cs : List Value} {a0 a1 a2 a3 a4 a5 a6 a7 a8 a9 a10 : Value} (h : bk V g t cs) (hb : g ≠ b) : bk (Proofs.YthnimmagaocipaaGreatDoor.put11 V b o a0 a1 a2 a3 a4 a5 a6 a7 a8 a9 a10) g t cs := (((((((((((h.far (p := ⟨b, _, none⟩) hb _).far (p := ⟨b, _, none⟩) hb _).far (p := ⟨b, _, none⟩) hb _).far (p := ⟨b, _, none⟩) hb _).far (p := ⟨b, _, none⟩) hb _).far (p := ⟨b, _, none⟩) hb _).far (p := ⟨b, _, none⟩) hb _).far (p := ⟨b, _, none⟩) hb _).far (p := ⟨b, _, none⟩) hb _).far (p := ⟨b, _, none⟩) hb _).far (p := ⟨b, _, none⟩) hb _)
end Go.Proofs.YthnimmagaocipaaGreatDoor
set_option linter.unusedVariables false
namespace Go.Proofs.YthnimmagaocipaaGreatDoor
open Go.ChangeShapes Go.WideShapes Go.ChangeAt Go.RowKit

set_option maxRecDepth 100000 in
theorem ow_void (T : TypeId) (K : IntKind) (w : World) : ow T K w.heap.size (w.alloc (.cells #[] T)) (.slice (some ⟨w.heap.size, 0, none⟩) 0 0) [] := by
  refine ⟨rfl, Or.inr ⟨w.heap.size, 0, #[], rfl, Nat.le_refl _, ?_, Nat.le_refl _, Nat.zero_le _, rfl, rfl⟩⟩
  show (w.heap.push _)[w.heap.size]? = _
  simp
set_option maxRecDepth 100000 in
set_option maxHeartbeats 1600000 in
theorem specCopy_any (hi : Nat) (vc vs : Value) (r : RingD) (w : World) (h1 : rd .i64 hi w vc r.2.2.1) (h2 : rd .i64 hi w vs r.2.2.2) (hh : hi ≤ w.heap.size) (hc : r.2.2.1.length ≤ 1048576) (hs : r.2.2.2.length ≤ 1048576) :
    Calls Tryz.prog 74 #[.agg #[.int .i64 r.1, .int .i64 r.2.1, vc, vs]] w (ringOne r w) := by
  obtain ⟨sp, hd, cs, ss⟩ := r
  simp only at h1 h2 hc hs ⊢
  obtain ⟨A1, c1, rfl, -⟩ := h1.form
  obtain ⟨A2, c2, rfl, -⟩ := h2.form
  have HC := Lib.hid h1
  have HS := Lib.hid h2
  clear h1 h2
  go_enter Tryz.func74, Tryz.ntmps74
  go_upto_region 1 with fail
  obtain ⟨W, hW⟩ : ∃ W, W = (w.alloc (.cells #[.int .i64 sp, .int .i64 hd, .slice A1 cs.length c1, .slice A2 ss.length c2] 47)).alloc (.cells #[.int .i64 0, .int .i64 0, .slice none 0 0, .slice none 0 0] 47) := ⟨_, rfl⟩
  have b0 : bk W w.heap.size 47 [.int .i64 sp, .int .i64 hd, .slice A1 cs.length c1, .slice A2 ss.length c2] := by rw [hW]; exact (bk.new w _ _).alloc _
  have b1 : bk W (w.heap.size + 1) 47 [.int .i64 0, .int .i64 0, .slice none 0 0, .slice none 0 0] := by rw [hW]; simpa using bk.new (w.alloc _) _ _
  have HB0 : Hid (Below w.heap.size w W) := Lib.hid (by rw [hW]; exact ((Below.refl _ _).alloc (Nat.le_refl _) _).alloc (by simp) _)
  have z0 : w.heap.size + 2 ≤ W.heap.size := by rw [hW]; simp
  rw [← hW]
  clear hW
  obtain ⟨⟨p0, p1, p2, p3⟩, q0, q1, q2, q3⟩ := b0.cells
  have B0 := Lib.hid b0
  have B1 := Lib.hid b1
  clear b0 b1
  have y0 : w.heap.size < W.heap.size := by omega
  go_wp2_with (at_builtin; refine app_all (W.alloc (.cells #[] 3)) rfl _ _ 37 rfl W.heap.size 3 .i64 8 Tryz.underlying37 infoI64 _ [] rfl (ow_void _ _ W) hi _ cs (by rfl) (HC.out.below (HB0.out.alloc (by omega) _) hh) (by unfold maxLen; simp; omega) (by simp; omega) (by simp) ?_)
  intro v1 w1 hv1 hg1 hb1
  have hn1 := hv1.nums
  obtain ⟨AU, cU, rfl, -⟩ := hn1.form
  have z1 : W.heap.size + 1 ≤ w1.heap.size := by have := hg1.size; simpa using this
  have hb1' : Below W.heap.size W w1 := ((Below.refl _ _).alloc (Nat.le_refl _) _).trans hb1
  have b0 := B0.out.below hb1' (by omega)
  have b1 := B1.out.below hb1' (by omega)
  have HB1 : Hid (Below w.heap.size w w1) := Lib.hid (HB0.out.trans (hb1'.mono (by omega)))
  have HU1 := Lib.hid hn1
  clear hv1 hg1 hb1 hb1' hn1 p0 p1 p2 p3 q0 q1 q2 q3 HB0 B0 B1
  obtain ⟨⟨p0, p1, p2, p3⟩, q0, q1, q2, q3⟩ := b0.cells
  have B0 := Lib.hid b0
  have B1 := Lib.hid b1
  clear b0 b1
  go_upto_region 2 with fail
  obtain ⟨W2, hW2⟩ : ∃ W2, W2 = w1.setCell ⟨w.heap.size, 2, none⟩ (.slice AU cs.length cU) := ⟨_, rfl⟩
  rw [← hW2]
  have b0 := B0.out.set 2 (.slice AU cs.length cU)
  have b1 := B1.out.far (p := ⟨w.heap.size, 2, none⟩) (show w.heap.size + 1 ≠ w.heap.size by omega) (.slice AU cs.length cU)
  rw [← hW2] at b0 b1
  have HU2 : Hid (nums .i64 W.heap.size w1.heap.size W2 (.slice AU cs.length cU) cs) := Lib.hid (by rw [hW2]; exact HU1.out.far _ (fun h => by have := HU1.out.blk _ h; omega))
  have HB2 : Hid (Below w.heap.size w W2) := Lib.hid (by rw [hW2]; exact HB1.out.setCell (p := ⟨_, _, none⟩) (Nat.le_refl _) _)
  have z2 : w1.heap.size ≤ W2.heap.size := by rw [hW2]; simp
  clear hW2 p0 p1 p2 p3 q0 q1 q2 q3 HU1 HB1 B0 B1
  obtain ⟨⟨p0, p1, p2, p3⟩, q0, q1, q2, q3⟩ := b0.cells
  have B0 := Lib.hid b0
  have B1 := Lib.hid b1
  clear b0 b1
  have y2 : w.heap.size < W2.heap.size := by omega
  go_wp2_with (at_builtin; refine app_all (W2.alloc (.cells #[] 3)) rfl _ _ 37 rfl W2.heap.size 3 .i64 8 Tryz.underlying37 infoI64 _ [] rfl (ow_void _ _ W2) hi _ ss (by rfl) (HS.out.below (HB2.out.alloc (by omega) _) hh) (by unfold maxLen; simp; omega) (by simp; omega) (by simp) ?_)
  intro v3 w3 hv3 hg3 hb3
  have hn3 := hv3.nums
  obtain ⟨AV, cV, rfl, -⟩ := hn3.form
  have z3 : W2.heap.size + 1 ≤ w3.heap.size := by have := hg3.size; simpa using this
  have hb3' : Below W2.heap.size W2 w3 := ((Below.refl _ _).alloc (Nat.le_refl _) _).trans hb3
  have b0 := B0.out.below hb3' (by omega)
  have b1 := B1.out.below hb3' (by omega)
  have HB3 : Hid (Below w.heap.size w w3) := Lib.hid (HB2.out.trans (hb3'.mono (by omega)))
  have HU3 := Lib.hid (HU2.out.below hb3' (by omega))
  have HV3 := Lib.hid hn3
  clear hv3 hg3 hb3 hb3' hn3 p0 p1 p2 p3 q0 q1 q2 q3 HB2 B0 B1 HU2
  obtain ⟨⟨p0, p1, p2, p3⟩, q0, q1, q2, q3⟩ := b0.cells
  obtain ⟨⟨r0, r1, r2, r3⟩, f0, f1, f2, f3⟩ := b1.cells
  clear b0 b1
  go_wp2
  refine bodyPost_ret (v := .agg #[.int .i64 sp, .int .i64 hd, .slice AU cs.length cU, .slice AV ss.length cV]) (by simp [results, Tryz.results74, go_sem, r0, r1, r2, r3]) rfl ?_
  have ht := (((((Turned.refl w.heap.size (w.heap.size + 2) w3).set (b := w.heap.size) 3 (.slice AV ss.length cV) (by omega) (by omega)).set (b := w.heap.size + 1) 0 (.int .i64 sp) (by omega) (by omega)).set (b := w.heap.size + 1) 1 (.int .i64 hd) (by omega) (by omega)).set (b := w.heap.size + 1) 2 (.slice AU cs.length cU) (by omega) (by omega)).set (b := w.heap.size + 1) 3 (.slice AV ss.length cV) (by omega) (by omega)
  have hsz := ht.size
  exact ⟨_, _, rfl, ring_mine_of ((HU3.out.turned ht (.inr (by omega)) (by omega)).mono (by omega) (by omega)) ((HV3.out.turned ht (.inr (by omega)) (by omega)).mono (by omega) (by omega)) (fun b h h' => by have h5 := HU3.out.blk b h; have h6 := HV3.out.blk b h'; omega), HB3.out.trans (ht.below (Nat.le_refl _) (by omega))⟩
end Go.Proofs.YthnimmagaocipaaGreatDoor
set_option linter.unusedVariables false
namespace Go.Proofs.YthnimmagaocipaaGreatDoor
open Go.ChangeShapes Go.WideShapes Go.ChangeAt Go.RowKit

/-- a slot with the slice that its reply lies in -/
abbrev SlotV := SlotD × (Option Addr × Nat)
def sv (x : SlotV) : Value := .slice x.2.1 x.1.2.2.length x.2.2
def sCells (x : SlotV) : List Value := [.string x.1.1, .string x.1.2.1, .slice x.2.1 x.1.2.2.length x.2.2]
/-- the replies' memory: one after the other, none of it the row's -/
structure replies (w : World) (row : Option Nat) (B : Nat) (ps : List SlotV) (p q : Nat → Nat) : Prop where
  own : ∀ j x, ps[j]? = some x → nums .u8 (p j) (q j) w (sv x) x.1.2.2
  ord : ∀ i j, i < j → j < ps.length → q i ≤ p j
  in_ : ∀ j, j < ps.length → B ≤ p j ∧ q j ≤ w.heap.size
  row : ∀ j, j < ps.length → ∀ g, row = some g → g < p j ∨ q j ≤ g
set_option maxRecDepth 100000 in
theorem replies.nil (w : World) (row : Option Nat) (B : Nat) : replies w row B [] (fun _ => 0) (fun _ => 0) := ⟨fun j x h => by simp at h, fun i j _ h => by simp at h, fun j h => by simp at h, fun j h => by simp at h⟩
set_option maxRecDepth 100000 in
theorem replies.below {w w' : World} {row : Option Nat} {B : Nat} {ps : List SlotV} {p q : Nat → Nat} (h : replies w row B ps p q) (hb : Below w.heap.size w w') : replies w' row B ps p q :=
  ⟨fun j x hx => (h.own j x hx).below hb (h.in_ j (List.getElem?_eq_some_iff.1 hx).1).2, h.ord, fun j hj => ⟨(h.in_ j hj).1, Nat.le_trans (h.in_ j hj).2 hb.size⟩, h.row⟩
set_option maxRecDepth 100000 in
theorem replies.grown {w w' : World} {row row' : Option Nat} {B : Nat} {ps : List SlotV} {p q : Nat → Nat} (h : replies w row B ps p q) (hg : w.grownBy w' row) (hr : row' = row ∨ ∃ g, row' = some g ∧ w.heap.size ≤ g) : replies w' row' B ps p q := by
  refine ⟨fun j x hx => ?_, h.ord, fun j hj => ⟨(h.in_ j hj).1, Nat.le_trans (h.in_ j hj).2 hg.size⟩, fun j hj g hg' => ?_⟩
  · have hj := (List.getElem?_eq_some_iff.1 hx).1
    refine (h.own j x hx).apart hg (h.in_ j hj).2 fun b hb e => ?_
    have h1 := (h.own j x hx).blk b hb
    have h2 := h.row j hj b e
    omega
  · rcases hr with hr | ⟨g', hr, hg2⟩
    · exact h.row j hj g (by rw [← hr]; exact hg')
    · rw [hr] at hg'
      cases hg'
      have := (h.in_ j hj).2
      exact .inr (by omega)
set_option maxRecDepth 100000 in
theorem replies.snoc {w : World} {row : Option Nat} {B P Q : Nat} {ps : List SlotV} {p q : Nat → Nat} {x : SlotV} (h : replies w row B ps p q) (hx : nums .u8 P Q w (sv x) x.1.2.2) (h1 : ∀ j, j < ps.length → q j ≤ P) (h2 : B ≤ P) (h3 : Q ≤ w.heap.size) (h4 : ∀ g, row = some g → g < P ∨ Q ≤ g) :
    replies w row B (ps ++ [x]) (fun j => if j = ps.length then P else p j) (fun j => if j = ps.length then Q else q j) := by
  have hlen : (ps ++ [x]).length = ps.length + 1 := by simp
  refine ⟨fun j y hy => ?_, fun i j hij hj => ?_, fun j hj => ?_, fun j hj g hg => ?_⟩
  · by_cases e : j = ps.length
    · subst e
      simp only [if_true]
      have : y = x := by simpa using hy.symm
      subst this
      exact hx
    · have hj : j < ps.length := by have := (List.getElem?_eq_some_iff.1 hy).1; rw [hlen] at this; omega
      rw [List.getElem?_append_left hj] at hy
      show nums .u8 (if j = ps.length then P else p j) (if j = ps.length then Q else q j) w (sv y) y.1.2.2
      rw [if_neg e, if_neg e]
      exact h.own j y hy
  · rw [hlen] at hj
    show (if i = ps.length then Q else q i) ≤ (if j = ps.length then P else p j)
    rw [if_neg (by omega)]
    by_cases e : j = ps.length
    · rw [if_pos e]; exact h1 i (by omega)
    · rw [if_neg e]; exact h.ord i j hij (by omega)
  · rw [hlen] at hj
    show B ≤ (if j = ps.length then P else p j) ∧ (if j = ps.length then Q else q j) ≤ w.heap.size
    by_cases e : j = ps.length
    · rw [if_pos e, if_pos e]; exact ⟨h2, h3⟩
    · rw [if_neg e, if_neg e]; exact h.in_ j (by omega)
  · rw [hlen] at hj
    show g < (if j = ps.length then P else p j) ∨ (if j = ps.length then Q else q j) ≤ g
    by_cases e : j = ps.length
    · rw [if_pos e, if_pos e]; exact h4 g hg
    · rw [if_neg e, if_neg e]; exact h.row j (by omega) g hg
set_option maxRecDepth 100000 in
/-- such a row is slots of one's own -/
theorem replies.slots {w : World} {T : TypeId} {B : Nat} {v : Value} {ps : List SlotV} {p q : Nat → Nat} (ho : owE T 3 sCells B w v ps) (h : replies w v.ownBlock B ps p q) : SlotsR.mine B w.heap.size w [v] (ps.map (·.1)) := by
  have hl : (ps.map (·.1)).length = ps.length := List.length_map ..
  rcases ho.filled (fun _ => rfl) ((⟨#[]⟩, ⟨#[]⟩, []), (none, 0)) with ⟨rfl, A, c, rfl⟩ | ⟨b, c, rfl, hc, h1, h2, hf⟩
  · exact ⟨[], ⟨A, c, rfl, Nat.zero_le _, .inl ⟨rfl, rfl⟩⟩, List.nodup_nil, by simp⟩
  · cases hps : ps with
    | nil => exact ⟨[], ⟨_, c, rfl, Nat.zero_le _, .inl ⟨rfl, rfl⟩⟩, List.nodup_nil, by simp⟩
    | cons y ys =>
      rw [← hps]
      have hne : 0 < ps.length := by rw [hps]; simp
      have hob : (Value.slice (some ⟨b, 0, none⟩) ps.length c).ownBlock = some b := rfl
      refine rows_mine2 (R := SlotR) (p := p) (q := q) hl.symm hc h1 h2 h.ord (fun j hj => h.row j hj b hob) (fun j hj => h.in_ j hj) hf fun j x hx => ?_
      rw [List.getElem?_map] at hx
      obtain ⟨z, hz, rfl⟩ := Option.map_eq_some_iff.1 hx
      have hg : ps.getD j ((⟨#[]⟩, ⟨#[]⟩, []), (none, 0)) = z := by rw [List.getD_eq_getElem?_getD, hz]; rfl
      rw [hg]
      exact slot_mine_of (h.own j z hz)
set_option maxRecDepth 100000 in
theorem sCells_one (x : SlotV) : ∀ u ∈ sCells x, u.oneCell' = true := by
  intro u hu
  simp only [sCells, List.mem_cons, List.not_mem_nil, or_false] at hu
  rcases hu with rfl | rfl | rfl <;> rfl
/-- slots of one's own, in a row that may be appended to -/
def slotsOwn (l : List SlotD) (w : World) (e : Ending) (w' : World) : Prop := ∃ (A : Option Addr) (c : Nat) (ps : List SlotV) (p q : Nat → Nat), e = .returned (.slice A ps.length c) ∧ ps.map (·.1) = l ∧ owE 107 3 sCells w.heap.size w' (.slice A ps.length c) ps ∧ replies w' (Value.slice A ps.length c).ownBlock w.heap.size ps p q ∧ Below w.heap.size w w'
def slotsOne (l : List SlotD) (w : World) (e : Ending) (w' : World) : Prop := ∃ u, e = .returned u ∧ SlotsR.mine w.heap.size w'.heap.size w' [u] l ∧ Below w.heap.size w w'
set_option maxRecDepth 100000 in
set_option maxHeartbeats 3200000 in
theorem specCopySlotsO_any (hi : Nat) (v : Value) (l : List SlotD) (w : World) (hn : l.length ≤ 2000000) (hs : ∀ x ∈ l, x.2.2.length ≤ 1048576) (h : SlotsR.rd hi w [v] l) (hh : hi ≤ w.heap.size) :
    Calls Tryz.prog 75 #[v] w (slotsOwn l w) := by
  obtain ⟨A, c, rfl, hc, h⟩ := slots_rd h
  have HR := Lib.hid h
  have HS := Lib.hid hs
  clear h hs
  go_enter Tryz.func75, Tryz.ntmps75
  go_upto_region 2 with fail
  obtain ⟨W2, hW2⟩ : ∃ W2, W2 = w.alloc (.cells #[] 107) := ⟨_, rfl⟩
  have HO2 : Hid (owE 107 3 sCells w.heap.size W2 (.slice (some ⟨w.heap.size, 0, none⟩) 0 0) []) := Lib.hid (by rw [hW2]; exact owE_empty _ _ _ _ _ (Nat.le_refl _))
  have HB2 : Hid (Below w.heap.size w W2) := Lib.hid (by rw [hW2]; exact (Below.refl _ _).alloc (Nat.le_refl _) _)
  have z2 : w.heap.size < W2.heap.size := by rw [hW2]; simp
  rw [← hW2]
  clear hW2
  go_wp2
  go_loopw [3, 9] (fun ov iv wr => ∃ (i : Nat) (A' : Option Addr) (c' : Nat) (ps : List SlotV) (p q : Nat → Nat), i ≤ l.length ∧ iv = .int .i64 i ∧ ov = .slice A' ps.length c' ∧ ps.length ≤ i ∧ Hid (ps.map (·.1) = l.take i) ∧ Hid (owE 107 3 sCells w.heap.size wr (.slice A' ps.length c') ps) ∧ Hid (replies wr (Value.slice A' ps.length c').ownBlock w.heap.size ps p q) ∧ Hid (Below w.heap.size w wr) ∧ w.heap.size < wr.heap.size) (fun _ iv _ => l.length - (intOf iv).toNat)
  case atStart => exact ⟨0, _, _, [], _, _, Nat.zero_le _, rfl, rfl, Nat.zero_le _, Lib.hid rfl, HO2, Lib.hid (replies.nil _ _ _), HB2, z2⟩
  case round =>
    obtain ⟨i, A', c', ps, p, q, hi', rfl, rfl, hsl, HI, HO, HRP, HB, hz⟩ := hrel
    by_cases hin : i < l.length
    · obtain ⟨x, hx⟩ : ∃ x, l[i]? = some x := ⟨_, List.getElem?_eq_getElem hin⟩
      obtain ⟨b, off, A1, c1, rfl, hbl, d0, d1, d2, hrd⟩ := HR.out i x hx
      have hxs := HS.out x (List.mem_of_getElem? hx)
      have d0 := (HB.out.cell (p := ⟨b, off + i * 3, none⟩) (show b < w.heap.size by omega)).trans d0
      have d1 := (HB.out.cell (p := ⟨b, off + i * 3 + 1, none⟩) (show b < w.heap.size by omega)).trans d1
      have d2 := (HB.out.cell (p := ⟨b, off + i * 3 + 2, none⟩) (show b < w.heap.size by omega)).trans d2
      have HRD := Lib.hid (hrd.below HB.out hh)
      clear hrd
      have g1 : (i : Int) < (l.length : Int) := by omega
      have g2 : 0 ≤ (i : Int) := by omega
      have HIN : Hid (l.take (i + 1) = l.take i ++ [x]) := Lib.hid (by
        obtain ⟨h1, h2⟩ := List.getElem?_eq_some_iff.1 hx
        rw [List.take_succ_eq_append_getElem h1, h2])
      clear hx
      go_upto_region 5 with fail
      obtain ⟨W3, hW3⟩ : ∃ W3, W3 = wr.alloc (.cells #[.string x.1, .string x.2.1, .slice A1 x.2.2.length c1] 107) := ⟨_, rfl⟩
      have b3 : bk W3 wr.heap.size 107 [.string x.1, .string x.2.1, .slice A1 x.2.2.length c1] := by rw [hW3]; exact bk.new wr _ _
      have hb3 : Below wr.heap.size wr W3 := by rw [hW3]; exact (Below.refl _ _).alloc (Nat.le_refl _) _
      rw [← hW3]
      clear hW3
      have z3 := b3.lt
      have HRD3 := Lib.hid (HRD.out.below hb3 (by omega))
      have HB3 := Lib.hid hb3
      have HX3 := Lib.hid b3
      obtain ⟨q0, q1, q2⟩ := b3.cells3
      clear HRD d0 d1 d2 hb3 b3
      go_wp2_with (at_builtin; refine app_all (W3.alloc (.cells #[] 5)) rfl _ _ 99 rfl W3.heap.size 5 .u8 1 Tryz.underlying99 infoU8 _ [] rfl (ow_made _ _ W3) hi _ x.2.2 (by rfl) (HRD3.out.below ((Below.refl _ _).alloc (Nat.le_refl _) _) (by omega)) (by unfold maxLen; simp; omega) (by simp; omega) (by simp) ?_)
      intro v1 w5 hv1 hg1 hb5
      have hn1 := hv1.nums
      have z5 : W3.heap.size + 1 ≤ w5.heap.size := by have := hg1.size; simpa using this
      obtain ⟨AU, cU, rfl, -⟩ := hn1.form
      have hb35 : Below W3.heap.size W3 w5 := ((Below.refl _ _).alloc (Nat.le_refl _) _).trans hb5
      have hx5 := HX3.out.below hb35 z3
      have HX5 := Lib.hid hx5
      have HU := Lib.hid hn1
      have HB5 : Hid (Below wr.heap.size wr w5) := Lib.hid (HB3.out.trans (hb35.mono (by omega)))
      clear hv1 hg1 hb5 hn1 hb35 q0 q1 q2
      obtain ⟨q0, q1, q2⟩ := hx5.cells3
      have f2 := hx5.frozen 2
      clear hx5
      go_upto_region 6 with fail
      obtain ⟨W6, hW6⟩ : ∃ W6, W6 = w5.setCell ⟨wr.heap.size, 2, none⟩ (.slice AU x.2.2.length cU) := ⟨_, rfl⟩
      have hx6 := HX5.out.set 2 (.slice AU x.2.2.length cU)
      have ht6 := (Turned.refl wr.heap.size (wr.heap.size + 1) w5).set (b := wr.heap.size) 2 (.slice AU x.2.2.length cU) (by omega) (by omega)
      have hb6 := HB5.out.setCell (p := ⟨wr.heap.size, 2, none⟩) (Nat.le_refl _) (.slice AU x.2.2.length cU)
      rw [← hW6] at hx6 ht6 hb6 ⊢
      clear hW6
      have z6 := ht6.size
      have HU6 := Lib.hid (HU.out.turned ht6 (.inr (by omega)) (by omega))
      have HO6 := Lib.hid (HO.out.below hb6 (Nat.le_refl _))
      have HAP : Hid (∀ g, (Value.slice A' ps.length c').ownBlock = some g → w.heap.size ≤ g ∧ g < wr.heap.size) := Lib.hid HO.out.lt
      have HRP6 := Lib.hid ((HRP.out.below hb6).snoc (x := (x, (AU, cU))) HU6.out (fun j hj => by have := (HRP.out.in_ j hj).2; omega) (by omega) z6 (fun g hg => .inl (by have := HAP.out g hg; omega)))
      have HB6 : Hid (Below w.heap.size w W6) := Lib.hid (HB.out.trans (hb6.mono (by omega)))
      clear hb6 ht6 HO HRP HX5 HX3 HU q0 q1 q2 f2
      obtain ⟨q0, q1, q2⟩ := hx6.cells3
      clear hx6
      go_wp2_with (at_builtin; refine app_elem sCells 3 (fun _ => rfl) (by decide) sCells_one 48 107 #[.string ⟨#[]⟩, .string ⟨#[]⟩, .slice none 0 0] 56 Tryz.underlying48 infoSlot rfl _ _ rfl (by rfl) w.heap.size W6 _ ps ((x, (AU, cU)) : SlotV) _ _ (by rfl) (by rfl) (by rfl) (by simp) HO6.out (by unfold maxLen; omega) (by omega) (by first | omega | (simp; omega)) ?_)
      intro A9 c9 w9 hown9 hc9 hg9 hlies9
      have z9 : W6.heap.size + 1 ≤ w9.heap.size := by have := hg9.size; simpa using this
      have HB9 : Hid (Below w.heap.size w w9) := Lib.hid ((HB6.out.alloc (by omega) _).grown hg9 (by simp; omega) (fun g hg' => (HAP.out g hg').1))
      have HRP9 := Lib.hid ((HRP6.out.below ((Below.refl _ _).alloc (Nat.le_refl _) (.cells #[.string x.1, .string x.2.1, .slice AU x.2.2.length cU] 107))).grown hg9 (row' := (Value.slice A9 (ps.length + 1) c9).ownBlock) (hlies9.imp id (fun e => ⟨_, e, by simp⟩)))
      have HO9 := Lib.hid hown9
      clear hown9 hg9 hlies9
      go_wp2
      go_roundw
      case rel => exact ⟨i + 1, A9, c9, ps ++ [(x, (AU, cU))], _, _, by omega, by go_num, by simp, by simp; omega, Lib.hid (by rw [HIN.out, ← HI.out]; simp), Lib.hid (by simpa using HO9.out), Lib.hid (by have h9 := HRP9.out; rw [show (Value.slice A9 (ps ++ [((x, (AU, cU)) : SlotV)]).length c9).ownBlock = (Value.slice A9 (ps.length + 1) c9).ownBlock from by simp]; exact h9), HB9, by omega⟩
      case measure => simp [intOf] <;> omega
    · obtain rfl : i = l.length := by omega
      have HV : Hid (ps.map (·.1) = l) := Lib.hid (by have := HI.out; rwa [List.take_length] at this)
      go_wp2
      refine bodyPost_ret (v := .slice A' ps.length c') (by simp [results, Tryz.results75, go_sem]) rfl ?_
      exact ⟨A', c', ps, p, q, rfl, HV.out, HO.out, HRP.out, HB.out⟩
set_option maxRecDepth 100000 in
theorem specCopySlots_any (hi : Nat) (v : Value) (l : List SlotD) (w : World) (hn : l.length ≤ 2000000) (hs : ∀ x ∈ l, x.2.2.length ≤ 1048576) (h : SlotsR.rd hi w [v] l) (hh : hi ≤ w.heap.size) :
    Calls Tryz.prog 75 #[v] w (slotsOne l w) := by
  refine (specCopySlotsO_any hi v l w hn hs h hh).mono ?_
  rintro e w' ⟨A, c, ps, p, q, rfl, hm, ho, hr, hb⟩
  have := replies.slots ho hr
  rw [hm] at this
  exact ⟨_, rfl, this, hb⟩
end Go.Proofs.YthnimmagaocipaaGreatDoor
set_option linter.unusedVariables false
namespace Go.Proofs.YthnimmagaocipaaGreatDoor
open Go.ChangeShapes Go.WideShapes Go.ChangeAt Go.RowKit

set_option maxRecDepth 100000 in
set_option maxHeartbeats 4000000 in
theorem specAcctCopy_any (hi : Nat) (vh vc vs vl : Value) (a : AcctD) (w : World) (hz : acctSmall 1048576 a) (h : AcctR.rd hi w (aCells a vh vc vs vl) a) (hh : hi ≤ w.heap.size) :
    Calls Tryz.prog 37 #[.agg #[.string (aId a), .int .i64 (aLim a), .int .i64 (aPos a), .int .i64 (aMost a), .int .i64 (aSum a), vh, .int .i64 (aR a).1, .int .i64 (aR a).2.1, vc, vs, vl]] w (acctOne a w) := by
  obtain ⟨vh', vc', vs', vl', hcs, r1, r2, r3, r4⟩ := acct_rd h
  simp only [aCells, List.cons.injEq, and_true, true_and] at hcs
  obtain ⟨rfl, rfl, rfl, rfl⟩ := hcs
  clear h
  obtain ⟨z1, z2, z3, z4, z5⟩ := hz
  obtain ⟨id, lim, pos, most, sum, hs, ⟨sp, hd, cs, ss⟩, sl⟩ := a
  simp only [aId, aLim, aPos, aMost, aSum, aH, aS] at r1 r2 r3 r4 z1 z2 z3 z4 z5 ⊢
  obtain ⟨AH, cH, hv0, -, hr1⟩ := holds_rd r1
  subst hv0
  obtain ⟨AC, cC, rfl, -⟩ := r2.form
  obtain ⟨AS, cS, rfl, -⟩ := r3.form
  obtain ⟨AL, cL, rfl, -⟩ := Rep.slice_form r4
  have HSR : Hid (∀ V, Below w.heap.size w V → ∀ (j : Nat) (y : HoldD), hs[j]? = some y → ∃ b off, AH = some ⟨b, off, none⟩ ∧ atL V b (off + j * 3) (hCells y)) := Lib.hid fun V hV j y hy => by
    obtain ⟨b, off, e, hb, q0, q1, q2⟩ := hr1 j y hy
    refine ⟨b, off, e, fun t u hu => ?_⟩
    rw [hV.cell (p := ⟨b, _, none⟩) (show b < w.heap.size by omega)]
    match t, hu with
    | 0, hu => cases hu; exact q0
    | 1, hu => cases hu; exact q1
    | 2, hu => cases hu; exact q2
    | n + 3, hu => simp [hCells] at hu
  have HT2 := Lib.hid (fun W (hW : Below w.heap.size w W) => specCopy_any hi _ _ (sp, hd, cs, ss) W (r2.below hW hh) (r3.below hW hh) (Nat.le_trans hh hW.size) z2 z3)
  have HT3 := Lib.hid (fun W (hW : Below w.heap.size w W) => specCopySlots_any hi _ sl W (by omega) z5 (Rep.below (R := SlotsR) r4 hW hh) (Nat.le_trans hh hW.size))
  clear r1 hr1 r2 r3 r4 z5
  go_enter Tryz.func37, Tryz.ntmps37
  go_upto_region 1 with fail
  obtain ⟨W, hW⟩ : ∃ W, W = (w.alloc (.cells #[.string id, .int .i64 lim, .int .i64 pos, .int .i64 most, .int .i64 sum, .slice AH hs.length cH, .int .i64 sp, .int .i64 hd, .slice AC cs.length cC, .slice AS ss.length cS, .slice AL sl.length cL] 50)).alloc (.cells #[.string ⟨#[]⟩, .int .i64 0, .int .i64 0, .int .i64 0, .int .i64 0, .slice none 0 0, .int .i64 0, .int .i64 0, .slice none 0 0, .slice none 0 0, .slice none 0 0] 50) := ⟨_, rfl⟩
  have b0 : bk W w.heap.size 50 [.string id, .int .i64 lim, .int .i64 pos, .int .i64 most, .int .i64 sum, .slice AH hs.length cH, .int .i64 sp, .int .i64 hd, .slice AC cs.length cC, .slice AS ss.length cS, .slice AL sl.length cL] := by rw [hW]; exact (bk.new w _ _).alloc _
  have b1 : bk W (w.heap.size + 1) 50 [.string ⟨#[]⟩, .int .i64 0, .int .i64 0, .int .i64 0, .int .i64 0, .slice none 0 0, .int .i64 0, .int .i64 0, .slice none 0 0, .slice none 0 0, .slice none 0 0] := by rw [hW]; simpa using bk.new (w.alloc _) 50 [.string ⟨#[]⟩, .int .i64 0, .int .i64 0, .int .i64 0, .int .i64 0, .slice none 0 0, .int .i64 0, .int .i64 0, .slice none 0 0, .slice none 0 0, .slice none 0 0]
  have HB0 : Hid (Below w.heap.size w W) := Lib.hid (by rw [hW]; exact ((Below.refl _ _).alloc (Nat.le_refl _) _).alloc (by simp) _)
  have y0 : w.heap.size + 2 ≤ W.heap.size := by rw [hW]; simp
  rw [← hW]
  clear hW
  have y1 : w.heap.size < W.heap.size := by omega
  obtain ⟨⟨p0, p1, p2, p3, p4, p5, p6, p7, p8, p9, p10⟩, -⟩ := b0.eleven
  have B0 := Lib.hid b0
  have B1 := Lib.hid b1
  clear b0 b1
  go_wp2_with (at_builtin; refine app_rows hCells 3 (fun _ => rfl) (by decide) hCells_one 46 104 #[.string ⟨#[]⟩, .int .i64 0, .int .i64 0] 32 Tryz.underlying46 infoHold rfl _ _ rfl rfl W.heap.size (W.alloc (.cells #[] 104)) _ [] hs AH cH (by rfl) (by rfl) (owE_empty _ _ _ _ W (Nat.le_refl _)) (HSR.out _ (HB0.out.alloc (by omega) _)) (by unfold maxLen; simp; omega) (by simp; omega) (by simp) ?_)
  intro A1 c1 w1 ho1 hg1 hb1
  have z10 : W.heap.size + 1 ≤ w1.heap.size := by have := hg1.size; simpa using this
  have hb1' : Below W.heap.size W w1 := ((Below.refl W.heap.size W).alloc (Nat.le_refl _) _).trans hb1
  have C0 := Lib.hid (B0.out.below hb1' (by omega))
  have C1 := Lib.hid (B1.out.below hb1' (by omega))
  have HH1 : Hid (HoldsR.mine W.heap.size w1.heap.size w1 [.slice A1 hs.length c1] hs) := Lib.hid (owE_holds ho1)
  have HB1 : Hid (Below w.heap.size w w1) := Lib.hid (HB0.out.trans (hb1'.mono (by omega)))
  clear ho1 hg1 hb1 hb1' HB0 B0 B1 p0 p1 p2 p3 p4 p5 p6 p7 p8 p9 p10
  obtain ⟨⟨p0, p1, p2, p3, p4, p5, p6, p7, p8, p9, p10⟩, f0, f1, f2, f3, f4, f5, f6, f7, f8, f9, f10⟩ := C0.out.eleven
  go_wp2_with fail
  obtain ⟨W2, hW2⟩ : ∃ W2, W2 = w1.setCell ⟨w.heap.size, 5, none⟩ (.slice A1 hs.length c1) := ⟨_, rfl⟩
  have ht2 := (Turned.refl w.heap.size (w.heap.size + 1) w1).set (b := w.heap.size) 5 (.slice A1 hs.length c1) (by omega) (by omega)
  have b0 : bk (w1.setCell ⟨w.heap.size, 5, none⟩ (.slice A1 hs.length c1)) (w.heap.size) 50 [.string id, .int .i64 lim, .int .i64 pos, .int .i64 most, .int .i64 sum, .slice A1 hs.length c1, .int .i64 sp, .int .i64 hd, .slice AC cs.length cC, .slice AS ss.length cS, .slice AL sl.length cL] := C0.out.set 5 (.slice A1 hs.length c1)
  have b1 := C1.out.under ht2 (by omega)
  rw [← hW2] at ht2 b0 b1 ⊢
  have z2 := ht2.size
  have HH2 := Lib.hid (HH1.out.turned ht2 (.inr (by omega)) (Nat.le_refl _))
  have HB2 := Lib.hid (HB1.out.trans (ht2.below (B := w.heap.size) (by omega) (by omega)))
  clear hW2 ht2 HH1 HB1 p0 p1 p2 p3 p4 p5 p6 p7 p8 p9 p10 f0 f1 f2 f3 f4 f5 f6 f7 f8 f9 f10
  refine (HT2.out W2 HB2.out).mono ?_
  rintro e w3 ⟨v3, v4, rfl, hu3, hb3⟩
  obtain ⟨A3, c3, rfl, -⟩ := (ring2 hu3.rd).1.form
  obtain ⟨A4, c4, rfl, -⟩ := (ring2 hu3.rd).2.form
  have z3 := hb3.size
  have HH3 := Lib.hid (HH2.out.below hb3 (by omega))
  have HV3 := Lib.hid hu3
  have HB3 : Hid (Below w.heap.size w w3) := Lib.hid (HB2.out.trans (hb3.mono (by omega)))
  replace b0 := b0.below hb3 (by omega)
  replace b1 := b1.below hb3 (by omega)
  clear hu3 hb3 HH2 HB2 HT2 C0 C1
  obtain ⟨⟨p0, p1, p2, p3, p4, p5, p6, p7, p8, p9, p10⟩, f0, f1, f2, f3, f4, f5, f6, f7, f8, f9, f10⟩ := b0.eleven
  have C0 := Lib.hid b0
  have C1 := Lib.hid b1
  clear b0 b1
  go_wp2_with fail
  obtain ⟨W4, hW4⟩ : ∃ W4, W4 = (((w3.setCell ⟨w.heap.size, 6, none⟩ (.int .i64 sp)).setCell ⟨w.heap.size, 7, none⟩ (.int .i64 hd)).setCell ⟨w.heap.size, 8, none⟩ (.slice A3 cs.length c3)).setCell ⟨w.heap.size, 9, none⟩ (.slice A4 ss.length c4) := ⟨_, rfl⟩
  have ht4 := ((((Turned.refl w.heap.size (w.heap.size + 1) w3).set (b := w.heap.size) 6 (.int .i64 sp) (by omega) (by omega)).set (b := w.heap.size) 7 (.int .i64 hd) (by omega) (by omega)).set (b := w.heap.size) 8 (.slice A3 cs.length c3) (by omega) (by omega)).set (b := w.heap.size) 9 (.slice A4 ss.length c4) (by omega) (by omega)
  have b0 : bk ((((w3.setCell ⟨w.heap.size, 6, none⟩ (.int .i64 sp)).setCell ⟨w.heap.size, 7, none⟩ (.int .i64 hd)).setCell ⟨w.heap.size, 8, none⟩ (.slice A3 cs.length c3)).setCell ⟨w.heap.size, 9, none⟩ (.slice A4 ss.length c4)) (w.heap.size) 50 [.string id, .int .i64 lim, .int .i64 pos, .int .i64 most, .int .i64 sum, .slice A1 hs.length c1, .int .i64 sp, .int .i64 hd, .slice A3 cs.length c3, .slice A4 ss.length c4, .slice AL sl.length cL] := (((C0.out.set 6 (.int .i64 sp)).set 7 (.int .i64 hd)).set 8 (.slice A3 cs.length c3)).set 9 (.slice A4 ss.length c4)
  have b1 := C1.out.under ht4 (by omega)
  rw [← hW4] at ht4 b0 b1 ⊢
  have z4 := ht4.size
  have HH4 := Lib.hid (HH3.out.turned ht4 (.inr (by omega)) (by omega))
  have HV4 := Lib.hid (HV3.out.turned ht4 (.inr (by omega)) (Nat.le_refl _))
  have HB4 := Lib.hid (HB3.out.trans (ht4.below (B := w.heap.size) (by omega) (by omega)))
  clear hW4 ht4 HH3 HV3 HB3 C0 C1 p0 p1 p2 p3 p4 p5 p6 p7 p8 p9 p10 f0 f1 f2 f3 f4 f5 f6 f7 f8 f9 f10
  refine (HT3.out W4 HB4.out).mono ?_
  rintro e w5 ⟨u6, rfl, hu5, hb5⟩
  obtain ⟨A6, c6, rfl, -⟩ := Rep.slice_form hu5.rd
  have z5 := hb5.size
  have HH5 := Lib.hid (HH4.out.below hb5 (by omega))
  have HV5 := Lib.hid (HV4.out.below hb5 (by omega))
  have HS5 := Lib.hid hu5
  have HB5 : Hid (Below w.heap.size w w5) := Lib.hid (HB4.out.trans (hb5.mono (by omega)))
  replace b0 := b0.below hb5 (by omega)
  replace b1 := b1.below hb5 (by omega)
  clear hu5 hb5 HH4 HV4 HB4 HT3
  obtain ⟨⟨p0, p1, p2, p3, p4, p5, p6, p7, p8, p9, p10⟩, f0, f1, f2, f3, f4, f5, f6, f7, f8, f9, f10⟩ := b0.eleven
  obtain ⟨⟨r0, r1, r2, r3, r4, r5, r6, r7, r8, r9, r10⟩, g0, g1, g2, g3, g4, g5, g6, g7, g8, g9, g10⟩ := b1.eleven
  clear b0 b1
  go_wp2
  refine bodyPost_ret (v := .agg #[.string id, .int .i64 lim, .int .i64 pos, .int .i64 most, .int .i64 sum, .slice A1 hs.length c1, .int .i64 sp, .int .i64 hd, .slice A3 cs.length c3, .slice A4 ss.length c4, .slice A6 sl.length c6]) (by simp [results, Tryz.results37, go_sem, r0, r1, r2, r3, r4, r5, r6, r7, r8, r9, r10]) rfl ?_
  have ht := ((((((((((((Turned.refl w.heap.size (w.heap.size + 2) w5).set (b := w.heap.size) 10 (.slice A6 sl.length c6) (by omega) (by omega)).set (b := w.heap.size + 1) 0 (.string id) (by omega) (by omega)).set (b := w.heap.size + 1) 1 (.int .i64 lim) (by omega) (by omega)).set (b := w.heap.size + 1) 2 (.int .i64 pos) (by omega) (by omega)).set (b := w.heap.size + 1) 3 (.int .i64 most) (by omega) (by omega)).set (b := w.heap.size + 1) 4 (.int .i64 sum) (by omega) (by omega)).set (b := w.heap.size + 1) 5 (.slice A1 hs.length c1) (by omega) (by omega)).set (b := w.heap.size + 1) 6 (.int .i64 sp) (by omega) (by omega)).set (b := w.heap.size + 1) 7 (.int .i64 hd) (by omega) (by omega)).set (b := w.heap.size + 1) 8 (.slice A3 cs.length c3) (by omega) (by omega)).set (b := w.heap.size + 1) 9 (.slice A4 ss.length c4) (by omega) (by omega)).set (b := w.heap.size + 1) 10 (.slice A6 sl.length c6) (by omega) (by omega)
  have hsz := ht.size
  exact ⟨_, _, _, _, rfl, acct_mine_ivl (p1 := W2.heap.size) (p2 := W4.heap.size) ((HH5.out.turned ht (.inr (by omega)) (by omega)).mono (by omega) (by omega)) ((HV5.out.turned ht (.inr (by omega)) (by omega)).mono (by omega) (by omega)) ((HS5.out.turned ht (.inr (by omega)) (by omega)).mono (by omega) (by omega)) (by omega) (by omega) (by omega), HB5.out.trans (ht.below (by omega) (by omega))⟩
end Go.Proofs.YthnimmagaocipaaGreatDoor
set_option linter.unusedVariables false
namespace Go.Proofs.YthnimmagaocipaaGreatDoor
open Go.ChangeShapes Go.WideShapes Go.ChangeAt Go.RowKit

set_option maxRecDepth 100000 in
set_option maxHeartbeats 16000000 in
theorem specBookCopyM_any (hi : Nat) (v : Value) (l : BookD) (w : World) (hs : bookSmall 1048576 l) (h : AcctsR.rd hi w [v] l) (hh : hi ≤ w.heap.size) :
    Calls Tryz.prog 36 #[.agg #[v]] w (bookOneA ((l.map fun x => x)) w) := by
  obtain ⟨A0, c0, rfl, hc0, hrd⟩ := accts_rd h
  obtain ⟨hn, hs⟩ := hs
  have HR := Lib.hid hrd
  have HS := Lib.hid hs
  have HRX : Hid (∀ V u, Below w.heap.size w V → SliceI (Ivl.any AcctR) (w.heap.size + 3) V.heap.size V [u] ((l.map fun x => x)) → bookOneA ((l.map fun x => x)) w (.returned (.agg #[u])) V) := Lib.hid fun V u hV hm => ⟨u, rfl, (Ivl.any AcctR).slice.mono hm (by omega) (Nat.le_refl _), hV⟩
  have HTL : Hid (∀ i, l.length ≤ i → ((l.map fun x => x)).take i = (l.map fun x => x)) := Lib.hid fun i hi => List.take_of_length_le (by simpa using hi)
  have HTN : Hid (∀ i x, l[i]? = some x → ((l.map fun x => x)).take (i + 1) = ((l.map fun x => x)).take i ++ [x]) := Lib.hid fun i x hx => by
    have hi := (List.getElem?_eq_some_iff.1 hx).1
    have hx' := (List.getElem?_eq_some_iff.1 hx).2
    rw [List.take_succ_eq_append_getElem (by simpa using hi)]
    congr 2
    all_goals simp [hx']
  generalize (l.map fun x => x) = R at HRX HTL HTN ⊢
  clear hrd hs h
  go_enter Tryz.func36, Tryz.ntmps36
  go_upto_region 2 with fail
  obtain ⟨W, hW⟩ : ∃ W, W = ((w.alloc (.cells #[.slice A0 l.length c0] 29)).alloc (.cells #[.slice none 0 0] 29)).alloc (.cells #[.slice none 0 0] 29) := ⟨_, rfl⟩
  have b0 : bk W w.heap.size 29 [.slice A0 l.length c0] := by rw [hW]; exact ((bk.new w _ _).alloc _).alloc _
  have b1 : bk W (w.heap.size + 1) 29 [.slice none 0 0] := by rw [hW]; exact (by simpa using bk.new (w.alloc _) _ _ : bk _ (w.heap.size + 1) _ _).alloc _
  have b2 : bk W (w.heap.size + 1 + 1) 29 [.slice none 0 0] := by rw [hW]; simpa using bk.new ((w.alloc _).alloc _) _ _
  have HB0 : Hid (Below w.heap.size w W) := Lib.hid (by rw [hW]; exact (((Below.refl _ _).alloc (Nat.le_refl _) _).alloc (by simp) _).alloc (by simp; omega) _)
  have z0 : W.heap.size = w.heap.size + 3 := by rw [hW]; simp
  rw [← hW]
  clear hW
  have q0 := b0.cell 0
  simp only [List.getElem?_cons_zero] at q0
  have B1 := Lib.hid b1
  have B2 := Lib.hid b2
  clear b0 b1 b2
  go_wp2
  go_loopw [10] (fun iv wr => ∃ (i : Nat) (A : Option Addr) (c : Nat) (ps : List AcctV) (p q : Nat → Nat), i ≤ l.length ∧ iv = .int .i64 i ∧ ps.length ≤ i ∧ Hid (ps.map aDat = R.take i) ∧ Hid (bk wr (w.heap.size + 1) 29 [.slice none 0 0]) ∧ Hid (bk wr (w.heap.size + 1 + 1) 29 [.slice A ps.length c]) ∧ Hid (owE 50 11 aEnc (w.heap.size + 3) wr (.slice A ps.length c) ps) ∧ Hid (parts (Ivl.any AcctR) aEnc aDat wr (Value.slice A ps.length c).ownBlock (w.heap.size + 3) ps p q) ∧ Hid (Below w.heap.size w wr) ∧ w.heap.size + 3 ≤ wr.heap.size) (fun iv _ => l.length - (intOf iv).toNat)
  case atStart => exact ⟨0, none, 0, [], _, _, Nat.zero_le _, rfl, Nat.zero_le _, Lib.hid rfl, B1, B2, Lib.hid (owE_none _ _ _ _ _), Lib.hid (parts.nil _ _ _ _ _ _), HB0, by omega⟩
  case round =>
    obtain ⟨i, A, c, ps, p, q, hil, rfl, hpl, HPS, HK1, HK2, HO, HP, HB, hz⟩ := hrel
    by_cases hin : i < l.length
    · obtain ⟨x, hx⟩ : ∃ x, l[i]? = some x := ⟨_, List.getElem?_eq_getElem hin⟩
      obtain ⟨b, off, AH, cH, AC, cC, AS, cS, AL, cL, rfl, hbl, hat, hrd⟩ := HR.out i x hx
      have hxs := HS.out x (List.mem_of_getElem? hx)
      have HPN : Hid (R.take (i + 1) = R.take i ++ [x]) := Lib.hid (HTN.out i x hx)
      have hat := hat.below HB.out (show b < w.heap.size by omega)
      obtain ⟨d0, d1, d2, d3, d4, d5, d6, d7, d8, d9, d10⟩ := hat.eleven
      have HCP := Lib.hid (fun V (hV : Below wr.heap.size wr V) => specAcctCopy_any hi _ _ _ _ x V (HS.out x (List.mem_of_getElem? hx)) (Rep.below (R := AcctR) hrd (HB.out.trans (hV.mono (by omega))) hh) (by have := hV.size; omega))
      clear hrd hat hx hxs
      have g1 : (i : Int) < (l.length : Int) := by omega
      have g2 : 0 ≤ (i : Int) := by omega
      go_upto_region 5 with fail
      obtain ⟨W3, hW3⟩ : ∃ W3, W3 = wr.alloc (.cells #[.string (aId x), .int .i64 (aLim x), .int .i64 (aPos x), .int .i64 (aMost x), .int .i64 (aSum x), .slice AH (aH x).length cH, .int .i64 (aR x).1, .int .i64 (aR x).2.1, .slice AC (aR x).2.2.1.length cC, .slice AS (aR x).2.2.2.length cS, .slice AL (aS x).length cL] 50) := ⟨_, rfl⟩
      have b3 : bk W3 wr.heap.size 50 [.string (aId x), .int .i64 (aLim x), .int .i64 (aPos x), .int .i64 (aMost x), .int .i64 (aSum x), .slice AH (aH x).length cH, .int .i64 (aR x).1, .int .i64 (aR x).2.1, .slice AC (aR x).2.2.1.length cC, .slice AS (aR x).2.2.2.length cS, .slice AL (aS x).length cL] := by rw [hW3]; exact bk.new wr _ _
      have hb3 : Below wr.heap.size wr W3 := by rw [hW3]; exact (Below.refl _ _).alloc (Nat.le_refl _) _
      rw [← hW3]
      clear hW3 d0 d1 d2 d3 d4 d5 d6 d7 d8 d9 d10
      have z3 := b3.lt
      have HB3 := Lib.hid hb3
      have HX3 := Lib.hid (fun V (hV : Below wr.heap.size wr V) (hV3 : ∀ k, k < W3.heap.size → V.heap[k]? = W3.heap[k]?) => And.intro ((HK2.out.below hV (by omega)).cell 0) ((bk.eleven (show bk V wr.heap.size _ _ from (hV3 _ z3).trans b3)).1))
      have hD : Below W3.heap.size W3 W3.drew := below_drew _ _
      have f2 : ∀ V : World, Below wr.heap.size wr V → V.frozen? ⟨w.heap.size + 1 + 1, 0, none⟩ = false := fun V hV => (HK2.out.below hV (by omega)).frozen 0
      obtain ⟨e2, e0⟩ := HX3.out _ HB3.out (fun k _ => rfl)
      simp only [List.getElem?_cons_zero] at e2
      obtain ⟨p0, p1, p2, p3, p4, p5, p6, p7, p8, p9, p10⟩ := e0
      have ff := f2 _ HB3.out
      clear b3
      have hne : ¬ wr.heap.size = w.heap.size + 1 + 1 := by omega
      have hne2 : ¬ w.heap.size + 1 + 1 = wr.heap.size := by omega
      go_region_law (first
        | (go_simp; go_at_call 37; (with_reducible refine (HCP.out _ (HB3.out.trans (hD.mono (by omega)))).mono ?_); rintro e w5 ⟨vh5, vc5, vs5, vl5, rfl, hm5, hb5⟩; obtain ⟨BH, dH, BC, dC, BS, dS, BL, dL, hf5⟩ := acct_forms hm5.rd; simp only [aCells, List.cons.injEq, and_true, true_and] at hf5; obtain ⟨rfl, rfl, rfl, rfl⟩ := hf5; have hb35 : Below W3.heap.size W3 w5 := hD.trans hb5; obtain ⟨e2, e0⟩ := HX3.out _ (HB3.out.trans (hb35.mono (by omega))) (fun k hk => hb35.block k hk); simp only [List.getElem?_cons_zero] at e2; obtain ⟨p0, p1, p2, p3, p4, p5, p6, p7, p8, p9, p10⟩ := e0; have ff5 := f2 _ (HB3.out.trans (hb35.mono (by omega))); have HB5 := Lib.hid hb35; have HM5 := Lib.hid hm5; have hlt5 : w.heap.size + 1 + 1 < w5.heap.size := (by have := hb35.size; omega); have hlt6 : wr.heap.size < w5.heap.size := (by have := hb35.size; omega); clear hm5 hb5 hb35)
        | (refine app_elem_step aEnc 11 (fun _ => rfl) (by decide) aEnc_one 27 50 #[.string ⟨#[]⟩, .int .i64 0, .int .i64 0, .int .i64 0, .int .i64 0, .slice none 0 0, .int .i64 0, .int .i64 0, .slice none 0 0, .slice none 0 0, .slice none 0 0] 160 Tryz.underlying27 infoAcct rfl _ _ (by rfl) (by rfl) (w.heap.size + 3) w5 _ ps ((x, (BH, dH), (BC, dC), (BS, dS), (BL, dL)) : AcctV) _ _ (by rfl) (by rfl) (by rfl) rfl (HO.out.below (HB3.out.trans (HB5.out.mono (by omega))) (Nat.le_refl _)) (by unfold maxLen; omega) (by omega) (by have := HB5.out.size; omega) ?_; intro A9 c9 w9 hown9 hc9 hg9 hl9; have hk9 : ∀ k, k < w5.heap.size → (k < w.heap.size + 3 ∨ wr.heap.size ≤ k) → w9.heap[k]? = w5.heap[k]? := (fun k hk hh => (hg9.block k (by simp; omega) (fun e => by have := HO.out.lt k e.symm; omega)).trans (Below.heap_alloc w5 _ k hk)); have z5 := HB5.out.size; have e9 := (cell_keep (o := 0) (hk9 (w.heap.size + 1 + 1) (by omega) (.inl (by omega)))).trans e2; have ff9 := (frozen_keep (o := 0) (hk9 (w.heap.size + 1 + 1) (by omega) (.inl (by omega)))).trans ff5; have hx9 := hk9 wr.heap.size (by omega) (.inr (Nat.le_refl _)); have p0 := (cell_keep (o := 0) hx9).trans p0; have p1 := (cell_keep (o := 1) hx9).trans p1; have p2 := (cell_keep (o := 2) hx9).trans p2; have p3 := (cell_keep (o := 3) hx9).trans p3; have p4 := (cell_keep (o := 4) hx9).trans p4; have p5 := (cell_keep (o := 5) hx9).trans p5; have p6 := (cell_keep (o := 6) hx9).trans p6; have p7 := (cell_keep (o := 7) hx9).trans p7; have p8 := (cell_keep (o := 8) hx9).trans p8; have p9 := (cell_keep (o := 9) hx9).trans p9; have p10 := (cell_keep (o := 10) hx9).trans p10)
        | fail)
      all_goals
        obtain ⟨pp9, qq9, hp9⟩ := grow_step (y := ((x, (BH, dH), (BC, dC), (BS, dS), (BL, dL)) : AcctV)) HO.out HP.out (by omega) (HB3.out.trans (HB5.out.mono (by omega))) HM5.out (show wr.heap.size ≤ W3.drew.heap.size from Nat.le_of_lt z3) hg9 hl9
        have hlt9 : w5.heap.size + 1 ≤ w9.heap.size := by have := hg9.size; simpa using this
        have HP9 := Lib.hid hp9
        have HO9 := Lib.hid hown9
        have HPR : Hid ((ps ++ [((x, (BH, dH), (BC, dC), (BS, dS), (BL, dL)) : AcctV)]).map aDat = R.take (i + 1)) := Lib.hid (by rw [HPN.out, ← HPS.out, List.map_append]; rfl)
        have HK19 : Hid (bk w9 (w.heap.size + 1) 29 [.slice none 0 0]) := Lib.hid ((hk9 (w.heap.size + 1) (by omega) (.inl (by omega))).trans (HK1.out.below (HB3.out.trans (HB5.out.mono (by omega))) (by omega)))
        have HK29 : Hid (bk w9 (w.heap.size + 1 + 1) 29 [.slice A ps.length c]) := Lib.hid ((hk9 (w.heap.size + 1 + 1) (by omega) (.inl (by omega))).trans (HK2.out.below (HB3.out.trans (HB5.out.mono (by omega))) (by omega)))
        have HB9 : Hid (Below w.heap.size w w9) := Lib.hid (((HB.out.trans ((HB3.out.trans (HB5.out.mono (by omega))).mono (by omega))).alloc (by omega) _).grown hg9 (by simp; omega) (fun g hg' => by have := (HO.out.lt g hg').1; omega))
        have HLT := Lib.hid HO.out.lt
        clear hown9 hg9 hl9 hp9 hk9 e9 ff9 hx9 p0 p1 p2 p3 p4 p5 p6 p7 p8 p10 HM5 HB5
        go_wp2
        go_roundw
        case rel => exact ⟨i + 1, A9, c9, ps ++ [((x, (BH, dH), (BC, dC), (BS, dS), (BL, dL)) : AcctV)], pp9, qq9, by omega, by go_num, by simp; omega, HPR, Lib.hid (HK19.out.far (p := ⟨_, _, none⟩) (by simp) _), Lib.hid (by have := HK29.out.set 0 (.slice A9 (ps.length + 1) c9); simpa using this), Lib.hid (by have := HO9.out.set (b := w.heap.size + 1 + 1) (fun e => by have := (HO9.out.lt _ e).1; omega) 0 (.slice A9 (ps.length + 1) c9); simpa using this), Lib.hid (HP9.out.keep (fun b h1 h2 => Below.heap_setCell _ _ _ _ (by simp; omega)) (by simp [World.setCell])), Lib.hid (HB9.out.setCell (p := ⟨w.heap.size + 1 + 1, 0, none⟩) (by simp; omega) _), by simp [World.setCell]; omega⟩
        case measure => simp [intOf] <;> omega
    · obtain rfl : i = l.length := by omega
      have HPR : Hid (ps.map aDat = R) := Lib.hid (by rw [← HTL.out l.length (Nat.le_refl _)]; exact HPS.out)
      have q1 := HK1.out.frozen 0
      have q2 := HK1.out.cell 0
      have q3 := HK2.out.cell 0
      simp only [List.getElem?_cons_zero] at q2 q3
      go_wp2
      refine bodyPost_ret (v := .agg #[.slice A ps.length c]) (by simp [results, Tryz.results36, go_sem, q2]) rfl ?_
      have ht := (Turned.refl w.heap.size (w.heap.size + 3) wr).set (b := w.heap.size + 1) 0 (.slice A ps.length c) (by omega) (by omega)
      have hm := HP.out.slice HO.out (fun _ => rfl) noAcctV
      rw [HPR.out] at hm
      exact HRX.out _ _ (HB.out.trans (ht.below (by omega) (by omega))) ((Ivl.any AcctR).slice.mono ((Ivl.any AcctR).slice.turned hm ht (.inr (by omega)) (Nat.le_refl _)) (Nat.le_refl _) ht.size)
set_option maxRecDepth 100000 in
theorem specBookCopy_any (hi : Nat) (v : Value) (l : BookD) (w : World) (hs : bookSmall 1048576 l) (h : AcctsR.rd hi w [v] l) (hh : hi ≤ w.heap.size) :
    Calls Tryz.prog 36 #[.agg #[v]] w (bookOneA l w) := by
  have := specBookCopyM_any hi v l w hs h hh
  rwa [List.map_id'] at this
end Go.Proofs.YthnimmagaocipaaGreatDoor
set_option linter.unusedVariables false
namespace Go.Proofs.YthnimmagaocipaaGreatDoor
open Go.ChangeShapes Go.WideShapes Go.ChangeAt Go.RowKit

def putAt (l : BookD) (k : Int) (a : AcctD) : BookD := l.set k.toNat a
def putBook (l : BookD) (a : AcctD) : BookD × Bool := if (bookOk l && (acctOk a && decide (0 ≤ findA l (aId a)))) = true then (putAt l (findA l (aId a)) a, true) else ([], false)
/-- a book and whether it was, as they are given back -/
def bookResB (l : BookD) (ok : Bool) (w : World) (e : Ending) (w' : World) : Prop := ∃ v, e = .returned (.tuple #[.agg #[v], .bool ok]) ∧ AcctsR.mine w.heap.size w'.heap.size w' [v] l ∧ Below w.heap.size w w'
def bookResBI (l : BookD) (ok : Bool) (w : World) (e : Ending) (w' : World) : Prop := ∃ v, e = .returned (.tuple #[.agg #[v], .bool ok]) ∧ AcctsIv.I w.heap.size w'.heap.size w' [v] l ∧ Below w.heap.size w w'
set_option maxRecDepth 100000 in
theorem bookResBI.res {l : BookD} {ok : Bool} {w : World} {e : Ending} {w' : World} (h : bookResBI l ok w e w') : bookResB l ok w e w' := by
  obtain ⟨v, he, hm, hb⟩ := h
  exact ⟨v, he, AcctsIv.mine hm, hb⟩
set_option maxRecDepth 100000 in
theorem findA_neg {l : BookD} {id : ByteArray} : findA l id < 0 ∨ ∃ k : Nat, findA l id = (k : Int) ∧ k < l.length := by
  rcases findA_cases l id with ⟨h1, -⟩ | ⟨i, x, hx, h1, -⟩
  · exact .inl (by omega)
  · exact .inr ⟨i, h1, (List.getElem?_eq_some_iff.1 hx).1⟩
set_option maxRecDepth 100000 in
set_option maxHeartbeats 16000000 in
theorem specBookPut_any (hi hj : Nat) (v vh vc vs vl : Value) (l : BookD) (a : AcctD) (w : World) (hs : bookSmall 1048576 l) (hbig : ∀ x ∈ l, acctBig x) (hza : acctSmall 1048576 a) (hba : acctBig a) (h : AcctsR.rd hi w [v] l) (hh : hi ≤ w.heap.size) (ha : AcctR.rd hj w (aCells a vh vc vs vl) a) (hhj : hj ≤ w.heap.size) :
    Calls Tryz.prog 16 #[.agg #[v], .agg #[.string (aId a), .int .i64 (aLim a), .int .i64 (aPos a), .int .i64 (aMost a), .int .i64 (aSum a), vh, .int .i64 (aR a).1, .int .i64 (aR a).2.1, vc, vs, vl]] w (bookResB (putBook l a).1 (putBook l a).2 w) := by
  obtain ⟨A, c, rfl, hc⟩ := Rep.slice_form h
  obtain ⟨AH, cH, AC, cC, AS, cS, AL, cL, hf⟩ := acct_forms ha
  simp only [aCells, List.cons.injEq, and_true, true_and] at hf
  obtain ⟨rfl, rfl, rfl, rfl⟩ := hf
  have HAT := Lib.hid (fun W (hW : Below w.heap.size w W) => specBookAt_any hi _ l (aId a) W hs.1 (Rep.below (R := AcctsR) h hW hh) (Nat.le_trans hh hW.size))
  have HOB := Lib.hid (fun W (hW : Below w.heap.size w W) => specBookOk_any hi _ l W hs hbig (Rep.below (R := AcctsR) h hW hh) (Nat.le_trans hh hW.size))
  have HOA := Lib.hid (fun W (hW : Below w.heap.size w W) => specAcctOk_any hj _ _ _ _ a W hza hba (Rep.below (R := AcctR) ha hW hhj) (Nat.le_trans hhj hW.size))
  have HCB := Lib.hid (fun W (hW : Below w.heap.size w W) => specBookCopy_any hi _ l W hs (Rep.below (R := AcctsR) h hW hh) (Nat.le_trans hh hW.size))
  have HCA := Lib.hid (fun W (hW : Below w.heap.size w W) => specAcctCopy_any hj _ _ _ _ a W hza (Rep.below (R := AcctR) ha hW hhj) (Nat.le_trans hhj hW.size))
  have HNO : Hid (putBook l a = ([], false) → ∀ V, Below w.heap.size w V → bookResB (putBook l a).1 (putBook l a).2 w (.returned (.tuple #[.agg #[.slice none 0 0], .bool false])) V) := Lib.hid (fun he V hV => by
    rw [he]
    exact ⟨_, rfl, ⟨[], ⟨none, 0, rfl, Nat.le_refl _, .inl ⟨rfl, rfl⟩⟩, List.nodup_nil, by simp⟩, hV⟩)
  have HYES : Hid (∀ k : Nat, findA l (aId a) = (k : Int) → bookOk l = true → acctOk a = true → ∀ V u, Below w.heap.size w V → SliceI (Ivl.any AcctR) w.heap.size V.heap.size V [u] (l.set k a) → bookResB (putBook l a).1 (putBook l a).2 w (.returned (.tuple #[.agg #[u], .bool true])) V) := Lib.hid (fun k hk h1 h2 V u hV hm => by
    have he : putBook l a = (l.set k a, true) := by
      unfold putBook putAt
      rw [h1, h2, hk, if_pos (by simp), Int.toNat_natCast]
    rw [he]
    exact ⟨u, rfl, (Ivl.any AcctR).slice.mine hm, hV⟩)
  clear h ha hs hbig hza hba
  obtain ⟨W, hW⟩ : ∃ W, W = ((w.alloc (.cells #[.slice A l.length c] 29)).alloc (.cells #[.string (aId a), .int .i64 (aLim a), .int .i64 (aPos a), .int .i64 (aMost a), .int .i64 (aSum a), .slice AH (aH a).length cH, .int .i64 (aR a).1, .int .i64 (aR a).2.1, .slice AC (aR a).2.2.1.length cC, .slice AS (aR a).2.2.2.length cS, .slice AL (aS a).length cL] 50)).alloc (.cells #[.slice none 0 0] 29) := ⟨_, rfl⟩
  have b0 : bk W w.heap.size 29 [.slice A l.length c] := by rw [hW]; exact ((bk.new w _ _).alloc _).alloc _
  have b1 : bk W (w.heap.size + 1) 50 [.string (aId a), .int .i64 (aLim a), .int .i64 (aPos a), .int .i64 (aMost a), .int .i64 (aSum a), .slice AH (aH a).length cH, .int .i64 (aR a).1, .int .i64 (aR a).2.1, .slice AC (aR a).2.2.1.length cC, .slice AS (aR a).2.2.2.length cS, .slice AL (aS a).length cL] := by rw [hW]; exact (by simpa using bk.new (w.alloc _) 50 [.string (aId a), .int .i64 (aLim a), .int .i64 (aPos a), .int .i64 (aMost a), .int .i64 (aSum a), .slice AH (aH a).length cH, .int .i64 (aR a).1, .int .i64 (aR a).2.1, .slice AC (aR a).2.2.1.length cC, .slice AS (aR a).2.2.2.length cS, .slice AL (aS a).length cL] : bk _ (w.heap.size + 1) _ _).alloc _
  have b2 : bk W (w.heap.size + 1 + 1) 29 [.slice none 0 0] := by rw [hW]; simpa using bk.new ((w.alloc _).alloc _) 29 [.slice none 0 0]
  have HB0 : Hid (Below w.heap.size w W) := Lib.hid (by rw [hW]; exact (((Below.refl _ _).alloc (Nat.le_refl _) _).alloc (by simp) _).alloc (by simp; omega) _)
  have z0 : W.heap.size = w.heap.size + 3 := by rw [hW]; simp
  have hkc := @findA_neg l (aId a)
  go_enter Tryz.func16, Tryz.ntmps16
  go_upto_region 1 with fail
  rw [← hW]
  clear hW
  have B00 := Lib.hid b0
  have B10 := Lib.hid b1
  have B20 := Lib.hid b2
  clear b0 b1 b2
  obtain ⟨⟨p0, p1, p2, p3, p4, p5, p6, p7, p8, p9, p10⟩, -⟩ := B10.out.eleven
  have b0c := B00.out.cell 0
  have b2c := B20.out.cell 0
  have b2f := B20.out.frozen 0
  simp only [List.getElem?_cons_zero] at b0c b2c
  go_wp2_with fail
  refine (HAT.out W HB0.out).mono ?_
  rintro e w1 ⟨rfl, hb1⟩
  have z1 := hb1.size
  have B01 := Lib.hid (B00.out.below hb1 (by omega))
  have B11 := Lib.hid (B10.out.below hb1 (by omega))
  have B21 := Lib.hid (B20.out.below hb1 (by omega))
  have HB1 : Hid (Below w.heap.size w w1) := Lib.hid (HB0.out.trans (hb1.mono (by omega)))
  clear p0 p1 p2 p3 p4 p5 p6 p7 p8 p9 p10 b0c b2c b2f
  clear hb1
  obtain ⟨⟨p0, p1, p2, p3, p4, p5, p6, p7, p8, p9, p10⟩, -⟩ := B11.out.eleven
  have b0c := B01.out.cell 0
  have b2c := B21.out.cell 0
  have b2f := B21.out.frozen 0
  simp only [List.getElem?_cons_zero] at b0c b2c
  generalize hbo : bookOk l = bo at HOB
  generalize hao : acctOk a = ao at HOA
  have HBO := Lib.hid hbo
  have HAO := Lib.hid hao
  clear hbo hao
  go_wp2_with fail
  refine (HOB.out w1 HB1.out).mono ?_
  rintro e w2 ⟨rfl, hb2⟩
  have z2 := hb2.size
  have B02 := Lib.hid (B01.out.below hb2 (by omega))
  have B12 := Lib.hid (B11.out.below hb2 (by omega))
  have B22 := Lib.hid (B21.out.below hb2 (by omega))
  have HB2 : Hid (Below w.heap.size w w2) := Lib.hid (HB1.out.trans (hb2.mono (by omega)))
  clear p0 p1 p2 p3 p4 p5 p6 p7 p8 p9 p10 b0c b2c b2f
  clear hb2
  obtain ⟨⟨p0, p1, p2, p3, p4, p5, p6, p7, p8, p9, p10⟩, -⟩ := B12.out.eleven
  have b0c := B02.out.cell 0
  have b2c := B22.out.cell 0
  have b2f := B22.out.frozen 0
  simp only [List.getElem?_cons_zero] at b0c b2c
  cases bo
  · have HV : Hid (putBook l a = ([], false)) := Lib.hid (by unfold putBook; rw [if_neg (by rw [HBO.out]; simp)])
    go_wp2
    refine bodyPost_ret (v := .tuple #[.agg #[.slice none 0 0], .bool false]) (by simp [results, Tryz.results16, go_sem, b2c]) rfl ?_
    have ht := (Turned.refl w.heap.size (w.heap.size + 3) w2).set (b := w.heap.size + 1 + 1) 0 (.slice none 0 0) (by omega) (by omega)
    exact HNO.out HV.out _ (HB2.out.trans (ht.below (by omega) (by omega)))
  go_wp2_with fail
  refine (HOA.out w2 HB2.out).mono ?_
  rintro e w3 ⟨rfl, hb3⟩
  have z3 := hb3.size
  have B03 := Lib.hid (B02.out.below hb3 (by omega))
  have B13 := Lib.hid (B12.out.below hb3 (by omega))
  have B23 := Lib.hid (B22.out.below hb3 (by omega))
  have HB3 : Hid (Below w.heap.size w w3) := Lib.hid (HB2.out.trans (hb3.mono (by omega)))
  clear p0 p1 p2 p3 p4 p5 p6 p7 p8 p9 p10 b0c b2c b2f
  clear hb3
  obtain ⟨⟨p0, p1, p2, p3, p4, p5, p6, p7, p8, p9, p10⟩, -⟩ := B13.out.eleven
  have b0c := B03.out.cell 0
  have b2c := B23.out.cell 0
  have b2f := B23.out.frozen 0
  simp only [List.getElem?_cons_zero] at b0c b2c
  cases ao
  · have HV : Hid (putBook l a = ([], false)) := Lib.hid (by unfold putBook; rw [if_neg (by rw [HAO.out]; simp)])
    go_wp2
    refine bodyPost_ret (v := .tuple #[.agg #[.slice none 0 0], .bool false]) (by simp [results, Tryz.results16, go_sem, b2c]) rfl ?_
    have ht := (Turned.refl w.heap.size (w.heap.size + 3) w3).set (b := w.heap.size + 1 + 1) 0 (.slice none 0 0) (by omega) (by omega)
    exact HNO.out HV.out _ (HB3.out.trans (ht.below (by omega) (by omega)))
  rcases hkc with hkc | ⟨k, hk, hkl⟩
  · have HV : Hid (putBook l a = ([], false)) := Lib.hid (by unfold putBook; rw [if_neg (by simp only [Bool.and_eq_true, decide_eq_true_eq]; omega)])
    go_wp2
    refine bodyPost_ret (v := .tuple #[.agg #[.slice none 0 0], .bool false]) (by simp [results, Tryz.results16, go_sem, b2c]) rfl ?_
    have ht := (Turned.refl w.heap.size (w.heap.size + 3) w3).set (b := w.heap.size + 1 + 1) 0 (.slice none 0 0) (by omega) (by omega)
    exact HNO.out HV.out _ (HB3.out.trans (ht.below (by omega) (by omega)))
  have HK := Lib.hid hk
  rw [hk]
  clear hk
  have k0 : 0 ≤ (k : Int) := by omega
  have k1 : (k : Int) < (l.length : Int) := by omega
  go_wp2_with fail
  refine (HCB.out w3 HB3.out).mono ?_
  rintro e w4 ⟨u, rfl, hm4, hb4⟩
  obtain ⟨AR, cR, hue, hcR, hrow⟩ := hm4
  simp only [List.cons.injEq, and_true] at hue
  subst hue
  obtain ⟨rb, off, xs, p, q, rfl, hxl, hR⟩ : ∃ b off xs p q, AR = some ⟨b, off, none⟩ ∧ xs.map (·.2) = l ∧ RowI (Ivl.any AcctR) w3.heap.size w4.heap.size w4 b off xs p q := by
    rcases hrow with rfl | h
    · simp at hkl
    · exact h
  have hxn : k < xs.length := by rw [← hxl, List.length_map] at hkl; exact hkl
  have HXL := Lib.hid hxl
  have z4 := hb4.size
  have B04 := Lib.hid (B03.out.below hb4 (by omega))
  have B14 := Lib.hid (B13.out.below hb4 (by omega))
  have B24 := Lib.hid (B23.out.below hb4 (by omega))
  have HB4 : Hid (Below w.heap.size w w4) := Lib.hid (HB3.out.trans (hb4.mono (by omega)))
  have HR := Lib.hid hR
  clear p0 p1 p2 p3 p4 p5 p6 p7 p8 p9 p10 b0c b2c b2f
  clear hb4 hrow hR hxl
  go_upto_region 5 with fail
  obtain ⟨W4, hW4⟩ : ∃ W4, W4 = w4.alloc (.cells #[.slice (some ⟨rb, off, none⟩) l.length cR] 29) := ⟨_, rfl⟩
  have b4 : bk W4 w4.heap.size 29 [.slice (some ⟨rb, off, none⟩) l.length cR] := by rw [hW4]; exact bk.new w4 _ _
  have hb5 : Below w4.heap.size w4 W4 := by rw [hW4]; exact (Below.refl _ _).alloc (Nat.le_refl _) _
  rw [← hW4]
  clear hW4
  have z5 := b4.lt
  have B05 := Lib.hid (B04.out.below hb5 (by omega))
  have B15 := Lib.hid (B14.out.below hb5 (by omega))
  have B25 := Lib.hid (B24.out.below hb5 (by omega))
  have HB5 : Hid (Below w.heap.size w W4) := Lib.hid (HB4.out.trans (hb5.mono (by omega)))
  have HR5 := Lib.hid (HR.out.below hb5 (Nat.le_refl _))
  have HH5 := Lib.hid hb5
  have B45 := Lib.hid b4
  have hD : Below W4.heap.size W4 W4.drew := below_drew _ _
  have HX := Lib.hid (fun V (hV : Below W4.heap.size W4 V) => And.intro (B15.out.below hV (by omega)).eleven.1 ((B45.out.below hV z5).cell 0))
  obtain ⟨⟨p0, p1, p2, p3, p4, p5, p6, p7, p8, p9, p10⟩, b4c⟩ := HX.out W4 (Below.refl _ _)
  simp only [List.getElem?_cons_zero] at b4c
  obtain ⟨rlo, rhi⟩ := HR5.out.blk
  clear hb5 b4
  go_cut [] (fun wx => Hid (SliceI (Ivl.any AcctR) (w.heap.size + 3) wx.heap.size wx [.slice (some ⟨rb, off, none⟩) l.length cR] (l.set k a)) ∧ Hid (bk wx (w.heap.size + 1 + 1) 29 [.slice none 0 0]) ∧ Hid (bk wx w4.heap.size 29 [.slice (some ⟨rb, off, none⟩) l.length cR]) ∧ Hid (Below w.heap.size w wx) ∧ w4.heap.size < wx.heap.size)
  case first =>
    go_region_law (first
      | (go_simp; go_at_call 37; (with_reducible refine (HCA.out _ (HB5.out.trans (hD.mono (by omega)))).mono ?_); rintro e w5 ⟨vh5, vc5, vs5, vl5, rfl, hm5, hb5⟩; obtain ⟨BH, dH, BC, dC, BS, dS, BL, dL, hf5⟩ := acct_forms hm5.rd; simp only [aCells, List.cons.injEq, and_true, true_and] at hf5; obtain ⟨rfl, rfl, rfl, rfl⟩ := hf5; have hb35 : Below W4.heap.size W4 w5 := hD.trans hb5; obtain ⟨⟨p0, p1, p2, p3, p4, p5, p6, p7, p8, p9, p10⟩, b4c⟩ := HX.out _ hb35; simp only [List.getElem?_cons_zero] at b4c; have hroom := row_room HR5.out hxn (hb35.block rb (by omega)); have HRM := Lib.hid hroom; obtain ⟨⟨u0, e0⟩, f0⟩ := hroom 0 (by omega); obtain ⟨⟨u1, e1⟩, f1⟩ := hroom 1 (by omega); obtain ⟨⟨u2, e2⟩, f2⟩ := hroom 2 (by omega); obtain ⟨⟨u3, e3⟩, f3⟩ := hroom 3 (by omega); obtain ⟨⟨u4, e4⟩, f4⟩ := hroom 4 (by omega); obtain ⟨⟨u5, e5⟩, f5⟩ := hroom 5 (by omega); obtain ⟨⟨u6, e6⟩, f6⟩ := hroom 6 (by omega); obtain ⟨⟨u7, e7⟩, f7⟩ := hroom 7 (by omega); obtain ⟨⟨u8, e8⟩, f8⟩ := hroom 8 (by omega); obtain ⟨⟨u9, e9⟩, f9⟩ := hroom 9 (by omega); obtain ⟨⟨u10, e10⟩, f10⟩ := hroom 10 (by omega); simp only [Nat.add_zero] at e0 f0; have HB6 := Lib.hid hb35; have HM5 := Lib.hid hm5; clear hm5 hb5 hb35 hroom)
      | fail)
    all_goals
      have hz6 := HB6.out.size
      obtain ⟨p', q', hR6⟩ := row_put11 HR5.out hxn HB6.out (show (Ivl.any AcctR).I W4.heap.size w5.heap.size w5 _ _ from HM5.out) (Nat.le_refl _) (by omega) (by omega)
      have HR6 := Lib.hid hR6
      clear hR6 p0 p1 p2 p3 p4 p5 p6 p7 p8 p9 p10
      go_wp2
      go_meet
      refine ⟨Lib.hid ⟨_, _, by rw [List.length_set], by rw [List.length_set]; exact hcR, .inr ⟨rb, off, xs.set k (aCells a (.slice BH (aH a).length dH) (.slice BC (aR a).2.2.1.length dC) (.slice BS (aR a).2.2.2.length dS) (.slice BL (aS a).length dL), a), p', q', rfl, ?_, ?_⟩⟩, Lib.hid ?_, Lib.hid ?_, Lib.hid ?_, ?_⟩
      · rw [List.map_set, HXL.out]
      · exact HR6.out.mono (by omega) (by rw [put11_size]; exact Nat.le_refl _)
      · exact bk.put11 (B25.out.below HB6.out (by omega)) (by omega)
      · exact bk.put11 (B45.out.below HB6.out z5) (by omega)
      · exact put11_below (HB5.out.trans (HB6.out.mono (by omega))) (by omega)
      · rw [put11_size]; omega
  case rest =>
    obtain ⟨HS6, HK2, HK4, HB7, z7⟩ := hcut
    have q0 := HK4.out.cell 0
    have q1 := HK2.out.cell 0
    have q2 := HK2.out.frozen 0
    simp only [List.getElem?_cons_zero] at q0 q1
    go_wp2
    refine bodyPost_ret (v := .tuple #[.agg #[.slice (some ⟨rb, off, none⟩) l.length cR], .bool true]) (by simp [results, Tryz.results16, go_sem, q1]) rfl ?_
    have ht := (Turned.refl w.heap.size (w.heap.size + 3) wc).set (b := w.heap.size + 1 + 1) 0 (.slice (some ⟨rb, off, none⟩) l.length cR) (by omega) (by omega)
    have hI := (Ivl.any AcctR).slice.turned HS6.out ht (.inr (Nat.le_refl _)) (Nat.le_refl _)
    exact HYES.out k HK.out HBO.out HAO.out _ _ (HB7.out.trans (ht.below (by omega) (by omega))) ((Ivl.any AcctR).slice.mono (lo' := w.heap.size) hI (by omega) ht.size)
end Go.Proofs.YthnimmagaocipaaGreatDoor
set_option linter.unusedVariables false
namespace Go.Proofs.YthnimmagaocipaaGreatDoor
open Go.ChangeShapes Go.WideShapes Go.ChangeAt Go.RowKit

set_option maxRecDepth 100000 in
theorem opsEqlNil (A : Option Addr) (n c n' c' : Nat) (w : World) : (binOp .eql 37 (.slice A n c) (.slice none n' c')).run Tryz.prog w = .ok (.bool A.isNone) w := Lib.run_eql_slice_nil w _ _ A n c n' c' Tryz.underlying37
set_option maxRecDepth 100000 in
set_option maxHeartbeats 1600000 in
/-- slices.Clone of numbers -/
theorem implClone_any (hi : Nat) (v : Value) (l : List Int) (w : World) (h : rd .i64 hi w v l) (hh : hi ≤ w.heap.size) (hl : l.length ≤ 1048576) :
    Calls Tryz.prog 109 #[v] w fun e w' => ∃ v', e = .returned v' ∧ nums .i64 w.heap.size w'.heap.size w' v' l ∧ Below w.heap.size w w' := by
  obtain ⟨A, c, rfl, -⟩ := h.form
  have HC := Lib.hid h
  have hq := opsEqlNil
  cases A with
  | none =>
    have hz : l = [] := by
      cases l with
      | nil => rfl
      | cons x l =>
        obtain ⟨A', c', e, -, hj⟩ := h
        obtain ⟨b, off, rfl, -⟩ := hj 0 (by simp)
        cases e
    subst hz
    clear h
    go_enter Tryz.func109, Tryz.ntmps109
    go_wp2
    go_ret
    exact ⟨_, rfl, nums_none _ _ _ _, Below.refl _ _⟩
  | some a =>
    clear h
    go_enter Tryz.func109, Tryz.ntmps109
    have y0 : w.heap.size < w.heap.size + 1 := by omega
    go_wp2_with (at_builtin; refine app_all (w.alloc (.cells #[] 3)) rfl _ _ 37 rfl w.heap.size 3 .i64 8 Tryz.underlying37 infoI64 _ [] rfl (ow_void _ _ w) hi _ l (by rfl) (HC.out.below ((Below.refl w.heap.size w).alloc (by omega) _) hh) (by unfold maxLen; simp; omega) (by simp; omega) (by simp) ?_)
    intro v1 w1 hv1 hg1 hb1
    have hn1 := hv1.nums
    go_wp2
    go_ret
    exact ⟨_, rfl, hn1.mono (Nat.le_refl _) (Nat.le_refl _), ((Below.refl _ _).alloc (Nat.le_refl _) _).trans hb1⟩
/-- all up to block g is as in W; block g + 1, a ring of the call's own, may be written -/
structure Copying (g : Nat) (W V : World) : Prop where
  low : Below (g + 1) W V
  own : ∃ a b c d, bk V (g + 1) 47 [a, b, c, d]
set_option maxRecDepth 100000 in
theorem Copying.step {g : Nat} {W V V' : World} (h : Copying g W V) (hb : Below V.heap.size V V') : Copying g W V' := by
  obtain ⟨h1, a, b, c, d, h2⟩ := h
  exact ⟨h1.trans (hb.mono (by have := h2.lt; omega)), a, b, c, d, h2.below hb h2.lt⟩
set_option maxRecDepth 100000 in
theorem Copying.set {g : Nat} {W V : World} (h : Copying g W V) (i : Nat) (v : Value) : Copying g W (V.setCell ⟨g + 1, i, none⟩ v) := by
  obtain ⟨h1, a, b, c, d, h2⟩ := h
  refine ⟨h1.setCell (p := ⟨_, _, none⟩) (Nat.le_refl _) _, ?_⟩
  have h3 := h2.set i v
  match i with
  | 0 => exact ⟨_, _, _, _, h3⟩
  | 1 => exact ⟨_, _, _, _, h3⟩
  | 2 => exact ⟨_, _, _, _, h3⟩
  | 3 => exact ⟨_, _, _, _, h3⟩
  | n + 4 => exact ⟨_, _, _, _, h3⟩
set_option maxRecDepth 100000 in
theorem Copying.cells {g : Nat} {W V : World} {t : TypeId} {x y z u : Value} (h : Copying g W V) (hb : bk W g t [x, y, z, u]) : V.cell? ⟨g, 0, none⟩ = some x ∧ V.cell? ⟨g, 1, none⟩ = some y ∧ V.cell? ⟨g, 2, none⟩ = some z ∧ V.cell? ⟨g, 3, none⟩ = some u :=
  (hb.below h.low (Nat.lt_succ_self _)).cells.1
set_option maxRecDepth 100000 in
set_option maxHeartbeats 4000000 in
theorem implCopy_any (hi : Nat) (vc vs : Value) (r : RingD) (w : World) (h1 : rd .i64 hi w vc r.2.2.1) (h2 : rd .i64 hi w vs r.2.2.2) (hh : hi ≤ w.heap.size) (hc : r.2.2.1.length ≤ 1048576) (hs : r.2.2.2.length ≤ 1048576) :
    Calls Tryz.prog 82 #[.agg #[.int .i64 r.1, .int .i64 r.2.1, vc, vs]] w (ringOne r w) := by
  obtain ⟨sp, hd, cs, ss⟩ := r
  simp only at h1 h2 hc hs ⊢
  obtain ⟨A1, c1, rfl, -⟩ := h1.form
  obtain ⟨A2, c2, rfl, -⟩ := h2.form
  go_enter Tryz.func82, Tryz.ntmps82
  go_upto_region 1 with fail
  obtain ⟨W, hW⟩ : ∃ W, W = (w.alloc (.cells #[.int .i64 sp, .int .i64 hd, .slice A1 cs.length c1, .slice A2 ss.length c2] 47)).alloc (.cells #[.int .i64 0, .int .i64 0, .slice none 0 0, .slice none 0 0] 47) := ⟨_, rfl⟩
  have b0 : bk W w.heap.size 47 [.int .i64 sp, .int .i64 hd, .slice A1 cs.length c1, .slice A2 ss.length c2] := by rw [hW]; exact (bk.new w _ _).alloc _
  have b1 : bk W (w.heap.size + 1) 47 [.int .i64 0, .int .i64 0, .slice none 0 0, .slice none 0 0] := by rw [hW]; simpa using bk.new (w.alloc _) _ _
  have HB0 : Hid (Below w.heap.size w W) := Lib.hid (by rw [hW]; exact ((Below.refl _ _).alloc (Nat.le_refl _) _).alloc (by simp) _)
  have z0 : w.heap.size + 2 ≤ W.heap.size := by rw [hW]; simp
  rw [← hW]
  clear hW
  have hbx : ∀ V, Copying w.heap.size W V → Below w.heap.size w V := fun V hV => HB0.out.trans (hV.low.mono (by omega))
  have hbz : ∀ V, Copying w.heap.size W V → w.heap.size + 2 ≤ V.heap.size := fun V hV => Nat.le_trans z0 hV.low.size
  have HCC := Lib.hid (fun V (hV : Copying w.heap.size W V) => implClone_any hi _ cs V (h1.below (hbx V hV) hh) (Nat.le_trans hh (hbx V hV).size) hc)
  have HCS := Lib.hid (fun V (hV : Copying w.heap.size W V) => implClone_any hi _ ss V (h2.below (hbx V hV) hh) (Nat.le_trans hh (hbx V hV).size) hs)
  have HCL := Lib.hid (fun V (hV : Copying w.heap.size W V) => hV.cells b0)
  have HBX := Lib.hid hbx
  have HBZ := Lib.hid hbz
  have E0 : Copying w.heap.size W W.drew := ⟨(Below.refl _ _).drew, _, _, _, _, b1⟩
  obtain ⟨⟨p0, p1, p2, p3⟩, -⟩ := b0.cells
  clear h1 h2 b0 b1 hbx hbz
  go_region_held3 (fun V => V.cell? ⟨w.heap.size, 0, none⟩ = some (.int .i64 sp) ∧ V.cell? ⟨w.heap.size, 1, none⟩ = some (.int .i64 hd) ∧ V.cell? ⟨w.heap.size, 2, none⟩ = some (.slice A1 cs.length c1) ∧ V.cell? ⟨w.heap.size, 3, none⟩ = some (.slice A2 ss.length c2) ∧ Copying w.heap.size W V) (go_keep) (first | (go_at_call 109; refine (HCC.out _ (by assumption)).mono ?_; rintro e w2 ⟨v2, rfl, hm2, hb2⟩; have E2 : Copying w.heap.size W w2 := Copying.step (by assumption) hb2; obtain ⟨q0, q1, q2, q3⟩ := HCL.out w2 E2; obtain ⟨AU, cU, rfl, -⟩ := hm2.form; have HU := Lib.hid hm2; have HB2 := Lib.hid hb2; clear hm2 hb2) | (go_at_call 109; refine (HCS.out _ (by assumption)).mono ?_; rintro e w3 ⟨v3, rfl, hm3, hb3⟩; have E3 : Copying w.heap.size W w3 := Copying.step (by assumption) hb3; obtain ⟨r0, r1, r2, r3⟩ := HCL.out w3 E3; obtain ⟨AV, cV, rfl, -⟩ := hm3.form; obtain ⟨a, b, c, d, B1⟩ := E3.own; obtain ⟨⟨s0, s1, s2, s3⟩, f0, f1, f2, f3⟩ := B1.cells; have HB1 := Lib.hid B1; have HV := Lib.hid hm3; have HB3 := Lib.hid hb3; clear hm3 hb3 B1; have E4 := (((E3.set 0 (.int .i64 sp)).set 1 (.int .i64 hd)).set 2 (.slice AU cs.length cU)).set 3 (.slice AV ss.length cV)))
  rename_i hX
  have z1 : w.heap.size + 2 ≤ W.drew.heap.size := HBZ.out _ E0
  have z2 := HB2.out.size
  have z3 := HB3.out.size
  have HU3 := Lib.hid (HU.out.below HB3.out (Nat.le_refl _))
  have HB4 := Lib.hid (HBX.out w3 E3)
  clear hX E0 E2 E3 E4 p0 p1 p2 p3 q0 q1 q2 q3 r0 r1 r2 r3 HCC HCS HCL
  go_wp2
  refine bodyPost_ret (v := .agg #[.int .i64 sp, .int .i64 hd, .slice AU cs.length cU, .slice AV ss.length cV]) (by simp [results, Tryz.results82, go_sem, s0, s1, s2, s3]) rfl ?_
  have ht := ((((Turned.refl (w.heap.size + 1) (w.heap.size + 2) w3).set (b := w.heap.size + 1) 0 (.int .i64 sp) (by omega) (by omega)).set (b := w.heap.size + 1) 1 (.int .i64 hd) (by omega) (by omega)).set (b := w.heap.size + 1) 2 (.slice AU cs.length cU) (by omega) (by omega)).set (b := w.heap.size + 1) 3 (.slice AV ss.length cV) (by omega) (by omega)
  have hsz := ht.size
  exact ⟨_, _, rfl, ring_mine_of ((HU3.out.turned ht (.inr (by omega)) (by omega)).mono (by omega) (by omega)) ((HV.out.turned ht (.inr (by omega)) (by omega)).mono (by omega) (by omega)) (fun b h h' => by have h5 := HU3.out.blk b h; have h6 := HV.out.blk b h'; omega), HB4.out.trans (ht.below (by omega) (by omega))⟩
end Go.Proofs.YthnimmagaocipaaGreatDoor
set_option linter.unusedVariables false
namespace Go.Proofs.YthnimmagaocipaaGreatDoor
open Go.ChangeShapes Go.WideShapes Go.ChangeAt Go.RowKit

def mtiOk (s : ByteArray) : Bool := digs s && decide (s.size = 4)
set_option maxRecDepth 100000 in
theorem isMti_any (s : ByteArray) (w : World) (hs : s.size ≤ maxLen) :
    Calls Tryz.prog 136 #[.string s] w fun e w' => e = .returned (.bool (mtiOk s)) ∧ Below w.heap.size w w' := by
  by_cases h4 : s.size = 4
  · have HM : Hid (mtiOk s = digs s) := Lib.hid (by simp [mtiOk, h4])
    rw [HM.out]
    have h4' : ((s.size : Int) == 4) = true := by simp [h4]
    have HD := Lib.hid (fun w' => implDigits_any s w' hs)
    clear h4
    go_enter Tryz.func136, Tryz.ntmps136
    go_wp2_with fail
    refine (HD.out _).mono ?_
    rintro e w1 ⟨rfl, hb⟩
    go_wp2
    go_ret
    exact ⟨rfl, hb⟩
  · have HM : Hid (mtiOk s = false) := Lib.hid (by simp [mtiOk, h4])
    rw [HM.out]
    have h4' : ((s.size : Int) == 4) = false := by simp; omega
    clear h4
    go_enter Tryz.func136, Tryz.ntmps136
    go_wp2
    go_ret
    exact ⟨rfl, Below.refl _ _⟩
end Go.Proofs.YthnimmagaocipaaGreatDoor
set_option linter.unusedVariables false
namespace Go.Proofs.YthnimmagaocipaaGreatDoor
open Go.ChangeShapes Go.WideShapes Go.ChangeAt Go.RowKit

def traceOk (s : ByteArray) : Bool := digs s && decide (s.size = 6)
set_option maxRecDepth 100000 in
theorem isTrace_any (s : ByteArray) (w : World) (hs : s.size ≤ maxLen) :
    Calls Tryz.prog 135 #[.string s] w fun e w' => e = .returned (.bool (traceOk s)) ∧ Below w.heap.size w w' := by
  by_cases h4 : s.size = 6
  · have HM : Hid (traceOk s = digs s) := Lib.hid (by simp [traceOk, h4])
    rw [HM.out]
    have h4' : ((s.size : Int) == 6) = true := by simp [h4]
    have HD := Lib.hid (fun w' => implDigits_any s w' hs)
    clear h4
    go_enter Tryz.func135, Tryz.ntmps135
    go_wp2_with fail
    refine (HD.out _).mono ?_
    rintro e w1 ⟨rfl, hb⟩
    go_wp2
    go_ret
    exact ⟨rfl, hb⟩
  · have HM : Hid (traceOk s = false) := Lib.hid (by simp [traceOk, h4])
    rw [HM.out]
    have h4' : ((s.size : Int) == 6) = false := by simp; omega
    clear h4
    go_enter Tryz.func135, Tryz.ntmps135
    go_wp2
    go_ret
    exact ⟨rfl, Below.refl _ _⟩
set_option maxRecDepth 100000 in
theorem slotOk_parts (x : SlotD) : slotOk x = (traceOk x.1 && (mtiOk x.2.1 && inB (x.2.2.length : Int) 1 200)) := by
  unfold slotOk traceOk mtiOk
  simp only [Bool.and_assoc]
set_option maxRecDepth 100000 in
set_option maxHeartbeats 1600000 in
theorem implSlotOk_any (hi : Nat) (v : Value) (x : SlotD) (w : World) (hs1 : x.1.size ≤ maxLen) (hs2 : x.2.1.size ≤ maxLen) (h : rd .u8 hi w v x.2.2) :
    Calls Tryz.prog 124 #[.agg #[.string x.1, .string x.2.1, v]] w fun e w' => e = .returned (.bool (slotOk x)) ∧ Below w.heap.size w w' := by
  obtain ⟨A, c, rfl, -⟩ := h.form
  clear h
  have HT := Lib.hid (fun w => isTrace_any x.1 w hs1)
  have HM := Lib.hid (fun w => isMti_any x.2.1 w hs2)
  have HV := Lib.hid (slotOk_parts x)
  generalize traceOk x.1 = b1 at HT HV
  generalize mtiOk x.2.1 = b2 at HM HV
  rw [HV.out]
  clear hs1 hs2
  go_enter Tryz.func124, Tryz.ntmps124
  go_upto_region 1 with fail
  obtain ⟨W, hW⟩ : ∃ W, W = w.alloc (.cells #[.string x.1, .string x.2.1, .slice A x.2.2.length c] 107) := ⟨_, rfl⟩
  have b0 : bk W w.heap.size 107 [.string x.1, .string x.2.1, .slice A x.2.2.length c] := by rw [hW]; exact bk.new w _ _
  have HB0 : Hid (Below w.heap.size w W) := Lib.hid (by rw [hW]; exact (Below.refl _ _).alloc (Nat.le_refl _) _)
  have z0 := b0.lt
  rw [← hW]
  clear hW
  have B0 := Lib.hid b0
  obtain ⟨p0, p1, p2⟩ := b0.cells3
  clear b0
  go_wp2_with fail
  refine (HT.out W).mono ?_
  rintro e w1 ⟨rfl, hb1⟩
  have z1 := hb1.size
  have HB1 : Hid (Below w.heap.size w w1) := Lib.hid (HB0.out.trans (hb1.mono (by omega)))
  have B1 := Lib.hid (B0.out.below hb1 z0)
  clear hb1 p0 p1 p2 B0 HB0
  obtain ⟨p0, p1, p2⟩ := B1.out.cells3
  cases b1
  · go_wp2
    go_ret
    exact ⟨rfl, HB1.out⟩
  go_wp2_with fail
  refine (HM.out w1).mono ?_
  rintro e w2 ⟨rfl, hb2⟩
  have z2 := hb2.size
  have HB2 : Hid (Below w.heap.size w w2) := Lib.hid (HB1.out.trans (hb2.mono (by omega)))
  have B2 := Lib.hid (B1.out.below hb2 (by omega))
  clear hb2 p0 p1 p2 B1 HB1
  obtain ⟨p0, p1, p2⟩ := B2.out.cells3
  cases b2
  · go_wp2
    go_ret
    exact ⟨rfl, HB2.out⟩
  by_cases e1 : (1 : Int) ≤ (x.2.2.length : Int)
  · by_cases e2 : (x.2.2.length : Int) ≤ 200
    all_goals
      go_wp2
      go_ret
      exact ⟨by simp [inB]; omega, HB2.out⟩
  · go_wp2
    go_ret
    exact ⟨by simp [inB]; omega, HB2.out⟩
end Go.Proofs.YthnimmagaocipaaGreatDoor
set_option linter.unusedVariables false
namespace Go.Proofs.YthnimmagaocipaaGreatDoor
open Go.ChangeShapes Go.WideShapes Go.ChangeAt Go.RowKit
open Go.Maps (Keyed IsMap)

set_option maxRecDepth 100000 in
theorem keyFields : (Tryz.prog.fieldsOf 131).toList.map (fun f => (f.type, f.offset, decide (f.name ≠ "_"))) = [(9, 0, true), (9, 1, true)] := by kernel_rfl
set_option maxRecDepth 100000 in
theorem keyUnder : Tryz.prog.underlying 131 = some (.struct (Tryz.prog.fieldsOf 131)) := by kernel_rfl
set_option maxRecDepth 100000 in
theorem keyLaidOut : laidOutB Tryz.prog = true := by kernel_rfl
set_option maxRecDepth 100000 in
theorem keyRow : (131 : TypeId) < Tryz.prog.types.size := of_decide_eq_true (by kernel_rfl)
set_option maxRecDepth 100000 in
theorem keyWide : (match Tryz.prog.underlying 131 with | some (.array _ _) | some (.struct _) => true | _ => false) = true := by rw [keyUnder]
set_option maxRecDepth 100000 in
theorem lawKey : Keyed Tryz.prog 131 := Keyed.of_law (deep_law_laid keyLaidOut (m := 2) (by omega) keyRow (by kernel_rfl) keyWide)
/-- what a key reads as -/
def keyLit (t m : ByteArray) : Lit := .string (keyBytes [.string t.data.toList, .string m.data.toList])
set_option maxRecDepth 100000 in
theorem keyFormed (u v : Value) : (Value.agg #[u, v]).formed Tryz.prog 131 = true := by
  have hc : Tryz.prog.cellsOf 131 = 2 := by kernel_rfl
  simp [Value.formed, hc]
set_option maxRecDepth 100000 in
theorem keyDeep : Tryz.prog.keyType 131 = true := by kernel_rfl
set_option maxRecDepth 100000 in
theorem keyOf_slot (t m : ByteArray) (ht : t.size ≤ maxLen) (hm : m.size ≤ maxLen) : keyOf Tryz.prog 131 (.agg #[.string t, .string m]) = some (keyLit t m) := by
  obtain ⟨N, hN⟩ : ∃ N, Tryz.prog.types.size = N + 1 := ⟨_, (Nat.succ_pred_eq_of_pos (Nat.lt_of_le_of_lt (Nat.zero_le _) keyRow)).symm⟩
  have hc : Tryz.prog.cellsOf 131 = 2 := by kernel_rfl
  have hcs : Tryz.prog.cellsOf 9 = 1 := by kernel_rfl
  have hk : Tryz.prog.keyLits (Tryz.prog.types.size + 1) 131 [.string t, .string m] = some [.string t.data.toList, .string m.data.toList] := by
    rw [hN]
    unfold Program.keyLits
    rw [keyUnder]
    have hf := keyFields
    have hall : (Tryz.prog.fieldsOf 131).all (·.name != "_") = true := by kernel_rfl
    simp only [List.length_cons, List.length_nil, hc, hall, and_self, if_true]
    generalize (Tryz.prog.fieldsOf 131).toList = fs at hf ⊢
    have hl : fs.length = 2 := by simpa using congrArg List.length hf
    match fs, hl, hf with
    | [f, g], _, hf =>
      simp only [List.map_cons, List.map_nil, List.cons.injEq, Prod.mk.injEq, and_true, decide_eq_true_eq] at hf
      obtain ⟨⟨f1, f2, -⟩, g1, g2, -⟩ := hf
      have h1 : ∀ s : ByteArray, s.size ≤ maxLen → Tryz.prog.keyLits (N + 1) 9 [.string s] = some [.string s.data.toList] := fun s hs => by
        unfold Program.keyLits
        rw [Tryz.underlying9]
        simp [hs]
      simp [f1, f2, g1, g2, hcs, h1 t ht, h1 m hm]
  unfold keyOf
  rw [keyUnder]
  have hcells : (Value.agg #[.string t, .string m]).cells.toList = [.string t, .string m] := rfl
  simp only [keyDeep, keyFormed, Bool.and_self, if_true, hcells, hk, Option.map_some]
  rfl
set_option maxRecDepth 100000 in
theorem keyLit_inj {t m t' m' : ByteArray} (ht : t.size ≤ maxLen) (hm : m.size ≤ maxLen) (ht' : t'.size ≤ maxLen) (hm' : m'.size ≤ maxLen) (h : keyLit t m = keyLit t' m') : t = t' ∧ m = m' := by
  have h1 := keyOf_slot t m ht hm
  have h2 := keyOf_slot t' m' ht' hm'
  rw [h] at h1
  have := lawKey.inj h1 h2
  simp only [Value.agg.injEq, Array.mk.injEq, List.cons.injEq, Value.string.injEq, and_true] at this
  exact this
set_option maxRecDepth 100000 in
theorem keyLit_key (t m : ByteArray) : WideAt.IsKeyLit (keyLit t m) := by simp [keyLit, WideAt.IsKeyLit]
/-- the map holds just the keys of the slots of the list -/
structure keysAre (D : DataW Unit) (L : List SlotD) : Prop where
  isMap : IsMap D
  at_ : ∀ t m : ByteArray, t.size ≤ maxLen → m.size ≤ maxLen → D.atKey (keyLit t m) (.lit (.bool false)) = .lit (.bool (L.any (isSlot t m)))
set_option maxRecDepth 100000 in
theorem keysAre.start : keysAre (.map [] : DataW Unit) [] := ⟨Maps.isMap_empty, fun t m _ _ => rfl⟩
set_option maxRecDepth 100000 in
theorem keysAre.snoc {D : DataW Unit} {L : List SlotD} {x : SlotD} (h : keysAre D L) (h1 : x.1.size ≤ maxLen) (h2 : x.2.1.size ≤ maxLen) : keysAre (D.put (keyLit x.1 x.2.1) (.lit (.bool true))) (L ++ [x]) := by
  refine ⟨h.isMap.put _ _, fun t m ht hm => ?_⟩
  rw [List.any_append]
  by_cases e : t = x.1 ∧ m = x.2.1
  · obtain ⟨rfl, rfl⟩ := e
    rw [Maps.atKey_put_same h.isMap (keyLit_key _ _)]
    simp [isSlot]
  · have hne : keyLit t m ≠ keyLit x.1 x.2.1 := fun e' => e (keyLit_inj ht hm h1 h2 e')
    rw [Maps.atKey_put_other hne, h.at_ t m ht hm]
    have : isSlot t m x = false := by
      unfold isSlot
      rw [Bool.and_eq_false_iff]
      by_cases e1 : x.1 = t
      · exact .inr (decide_eq_false fun e2 => e ⟨e1.symm, e2.symm⟩)
      · exact .inl (decide_eq_false e1)
    simp [this]
set_option maxRecDepth 100000 in
theorem plainElem_bool_inv {P : Program} {e : TypeId} (he : P.underlying e = some .bool) {v : Value} {z : DataW Unit × List MemPlace} (h : plainElem P e v = some z) : ∃ b, v = .bool b ∧ z = (.lit (.bool b), []) := by
  unfold plainElem at h
  rw [he] at h
  split at h <;> simp_all
set_option maxRecDepth 100000 in
theorem look_bool_run {P : Program} {w : World} {t k e : TypeId} (K : Keyed P k) (ht : P.underlying t = some (.map k e)) (he : P.underlying e = some .bool) (hz : (zeroValue e).run P w = .ok (.bool false) w) {b n : Nat} {D : DataW Unit}
    (hown : w.ownsMap P k (plainElem P e) b n D) {key : Value} {kl : Lit} (hkey : keyOf P k key = some kl) {s : Bool} (hat : D.atKey kl (.lit (.bool false)) = .lit (.bool s)) :
    (Instr.lookup t (.map (some b)) key false).run P w = .ok (.bool s) w := by
  obtain ⟨v, ps, hrun, hv⟩ := hown.lookup K ht hz (plainElem_bool he false) hkey
  obtain ⟨c, rfl, hc⟩ := plainElem_bool_inv he hv
  rw [hat] at hc
  simp only [Prod.mk.injEq, DataW.lit.injEq, Lit.bool.injEq] at hc
  obtain rfl : s = c := hc.1
  exact hrun
end Go.Proofs.YthnimmagaocipaaGreatDoor
set_option linter.unusedVariables false
namespace Go.Proofs.YthnimmagaocipaaGreatDoor
open Go.ChangeShapes Go.WideShapes Go.ChangeAt Go.RowKit
open Go.Maps (Keyed IsMap)

set_option maxRecDepth 100000 in
theorem implKeyOf_any (A : Option Addr) (n c : Nat) (s t : ByteArray) (w : World) :
    Calls Tryz.prog 123 #[.agg #[.string s, .string t, .slice A n c]] w fun e w' => e = .returned (.agg #[.string s, .string t]) ∧ Below w.heap.size w w' := by
  go_enter Tryz.func123, Tryz.ntmps123
  go_upto_region 1 with fail
  obtain ⟨W, hW⟩ : ∃ W, W = (w.alloc (.cells #[.string s, .string t, .slice A n c] 107)).alloc (.cells #[.string ⟨#[]⟩, .string ⟨#[]⟩] 131) := ⟨_, rfl⟩
  have b0 : bk W w.heap.size 107 [.string s, .string t, .slice A n c] := by rw [hW]; exact (bk.new w _ _).alloc _
  have b1 : bk W (w.heap.size + 1) 131 [.string ⟨#[]⟩, .string ⟨#[]⟩] := by rw [hW]; have := bk.new (w.alloc (.cells #[.string s, .string t, .slice A n c] 107)) 131 [.string ⟨#[]⟩, .string ⟨#[]⟩]; simpa using this
  have HB0 : Hid (Below w.heap.size w W) := Lib.hid (by rw [hW]; exact ((Below.refl _ _).alloc (Nat.le_refl _) _).alloc (by simp) _)
  rw [← hW]
  clear hW
  obtain ⟨p0, p1, p2⟩ := b0.cells3
  have q0 := b1.cell 0
  have q1 := b1.cell 1
  have f0 := b1.frozen 0
  have f1 := b1.frozen 1
  simp only [List.getElem?_cons_zero, List.getElem?_cons_succ] at q0 q1
  clear b0 b1
  go_wp2
  refine bodyPost_ret (v := .agg #[.string s, .string t]) (by simp [results, Tryz.results123, go_sem, q0, q1]) rfl ?_
  exact ⟨rfl, (HB0.out.setCell (p := ⟨w.heap.size + 1, 0, none⟩) (Nat.le_succ _) _).setCell (p := ⟨w.heap.size + 1, 1, none⟩) (Nat.le_succ _) _⟩
set_option maxRecDepth 100000 in
theorem zeroBool (w : World) : (zeroValue 4).run Tryz.prog w = .ok (.bool false) w := by kernel_rfl
/-- block b holds a map from keys to bools -/
abbrev keysAt (w : World) (b n : Nat) (D : DataW Unit) : Prop := w.ownsMap Tryz.prog 131 (plainElem Tryz.prog 4) b n D
set_option maxRecDepth 100000 in
theorem keys_look {w : World} {b n : Nat} {D : DataW Unit} {L : List SlotD} {x : SlotD} (ho : keysAt w b n D) (hk : keysAre D L) (h1 : x.1.size ≤ maxLen) (h2 : x.2.1.size ≤ maxLen) :
    (Instr.lookup 129 (.map (some b)) (.agg #[.string x.1, .string x.2.1]) false).run Tryz.prog w = .ok (.bool (L.any (isSlot x.1 x.2.1))) w :=
  look_bool_run lawKey Tryz.underlying129 Tryz.underlying4 (zeroBool w) ho (keyOf_slot _ _ h1 h2) (hk.at_ _ _ h1 h2)
set_option maxRecDepth 100000 in
theorem keysAt_below {w w' : World} {b n C : Nat} {D : DataW Unit} (h : keysAt w b n D) (hb : Below C w w') (hC : b < C) : keysAt w' b n D := by
  obtain ⟨es, clock, h1, rest⟩ := h
  exact ⟨es, clock, (hb.block b hC).trans h1, rest⟩
set_option maxRecDepth 100000 in
set_option maxHeartbeats 3200000 in
theorem implSlotsOk_any (hi : Nat) (v : Value) (l : List SlotD) (w : World) (hn : l.length ≤ 2000000) (hs : ∀ x ∈ l, x.1.size ≤ maxLen ∧ x.2.1.size ≤ maxLen) (h : SlotsR.rd hi w [v] l) (hh : hi ≤ w.heap.size) :
    Calls Tryz.prog 97 #[v] w fun e w' => e = .returned (.bool (slotsOk l)) ∧ Below w.heap.size w w' := by
  obtain ⟨A, c, rfl, hc, h⟩ := slots_rd h
  have HR := Lib.hid h
  have HS := Lib.hid hs
  clear h hs
  by_cases hbig : 6 < l.length
  · have HV : Hid (slotsOk l = false) := Lib.hid (by unfold slotsOk; rw [decide_eq_false (by omega), Bool.and_false])
    have g0 : (6 : Int) < (l.length : Int) := by omega
    go_enter Tryz.func97, Tryz.ntmps97
    go_wp2
    go_ret
    exact ⟨ret_bool HV.out.symm, Below.refl _ _⟩
  have g0 : ¬ (6 : Int) < (l.length : Int) := by omega
  have hmm := @run_makeMap Tryz.prog
  have HO0 := Lib.hid (World.ownsMap_made w Tryz.prog 131 (plainElem (H := Unit) Tryz.prog 4))
  have HB0 : Hid (Below w.heap.size w (w.alloc (.map #[] 0))) := Lib.hid ((Below.refl _ _).alloc (Nat.le_refl _) _)
  have z0 : w.heap.size < (w.alloc (.map #[] 0)).heap.size := by simp
  go_enter Tryz.func97, Tryz.ntmps97
  go_wp2
  go_loopw [13] (fun iv wr => ∃ (i : Nat) (D : DataW Unit), i ≤ l.length ∧ iv = .int .i64 i ∧ Hid (∀ j, j < i → slotAtOk l j = true) ∧ Hid (keysAt wr w.heap.size i D) ∧ Hid (keysAre D (l.take i)) ∧ Hid (Below w.heap.size w wr) ∧ w.heap.size < wr.heap.size) (fun iv _ => l.length - (intOf iv).toNat)
  case atStart => exact ⟨0, _, Nat.zero_le _, rfl, Lib.hid (fun j hj => absurd hj (by omega)), HO0, Lib.hid keysAre.start, HB0, z0⟩
  case round =>
    obtain ⟨i, D, hi', rfl, HN, HO, HD, HB, hz⟩ := hrel
    by_cases hin : i < l.length
    · obtain ⟨x, hx⟩ : ∃ x, l[i]? = some x := ⟨_, List.getElem?_eq_getElem hin⟩
      obtain ⟨b, off, A', c', rfl, hbl, d0, d1, d2, hrd⟩ := HR.out i x hx
      obtain ⟨hs1, hs2⟩ := HS.out x (List.mem_of_getElem? hx)
      have d0 := (HB.out.cell (p := ⟨b, off + i * 3, none⟩) (show b < w.heap.size by omega)).trans d0
      have d1 := (HB.out.cell (p := ⟨b, off + i * 3 + 1, none⟩) (show b < w.heap.size by omega)).trans d1
      have d2 := (HB.out.cell (p := ⟨b, off + i * 3 + 2, none⟩) (show b < w.heap.size by omega)).trans d2
      have HRD := Lib.hid hrd
      have HAT := Lib.hid (slot_at hx)
      have HTK : Hid (l.take (i + 1) = l.take i ++ [x]) := Lib.hid (by
        obtain ⟨h1, h2⟩ := List.getElem?_eq_some_iff.1 hx
        rw [List.take_succ_eq_append_getElem h1, h2])
      have HALL : Hid (((l.take i).all fun y => !isSlot x.1 x.2.1 y) = !(l.take i).any (isSlot x.1 x.2.1)) := Lib.hid (by rw [List.all_eq_not_any_not]; simp)
      have HSZ := Lib.hid (And.intro hs1 hs2)
      have g1 : (i : Int) < (l.length : Int) := by omega
      have g2 : 0 ≤ (i : Int) := by omega
      have g3 : (i : Int) ≤ (c : Int) := by omega
      clear hx hrd
      go_upto_region 7 with fail
      obtain ⟨W3, hW3⟩ : ∃ W3, W3 = wr.alloc (.cells #[.string x.1, .string x.2.1, .slice A' x.2.2.length c'] 107) := ⟨_, rfl⟩
      have b3 : bk W3 wr.heap.size 107 [.string x.1, .string x.2.1, .slice A' x.2.2.length c'] := by rw [hW3]; exact bk.new wr _ _
      have hb3 : Below wr.heap.size wr W3 := by rw [hW3]; exact (Below.refl _ _).alloc (Nat.le_refl _) _
      rw [← hW3]
      clear hW3
      have z3 := b3.lt
      have HB3 : Hid (Below w.heap.size w W3) := Lib.hid (HB.out.trans (hb3.mono (by omega)))
      have HO3 : Hid (keysAt W3 w.heap.size i D) := Lib.hid (keysAt_below HO.out hb3 (by omega))
      have HX3 := Lib.hid b3
      obtain ⟨q0, q1, q2⟩ := b3.cells3
      have HKY := Lib.hid (implKeyOf_any A' x.2.2.length c' x.1 x.2.1 W3)
      clear b3 hb3 HB HO d0 d1 d2
      go_wp2_with fail
      refine HKY.out.mono ?_
      rintro e w4 ⟨rfl, hb4⟩
      have z4 := hb4.size
      have HB4 : Hid (Below w.heap.size w w4) := Lib.hid (HB3.out.trans (hb4.mono (by omega)))
      have HX4 := Lib.hid (HX3.out.below hb4 z3)
      have HO4 : Hid (keysAt w4 w.heap.size i D) := Lib.hid (keysAt_below HO3.out hb4 (by omega))
      clear hb4 HX3 HB3 q0 q1 q2 HKY HO3
      go_upto_region 8 with fail
      obtain ⟨W5, hW5⟩ : ∃ W5, W5 = w4.alloc (.cells #[.string x.1, .string x.2.1] 131) := ⟨_, rfl⟩
      have b5 : bk W5 w4.heap.size 131 [.string x.1, .string x.2.1] := by rw [hW5]; exact bk.new w4 _ _
      have hb5 : Below w4.heap.size w4 W5 := by rw [hW5]; exact (Below.refl _ _).alloc (Nat.le_refl _) _
      rw [← hW5]
      clear hW5
      have z5 := b5.lt
      have HB5 : Hid (Below w.heap.size w W5) := Lib.hid (HB4.out.trans (hb5.mono (by omega)))
      have HX5 := Lib.hid (HX4.out.below hb5 (by omega))
      have HO5 : Hid (keysAt W5 w.heap.size i D) := Lib.hid (keysAt_below HO4.out hb5 (by omega))
      have HOK := Lib.hid (implSlotOk_any hi _ x W5 hs1 hs2 (HRD.out.below HB5.out hh))
      have HK5 := Lib.hid b5
      obtain ⟨q0, q1, q2⟩ := HX5.out.cells3
      clear b5 hb5 HX4 HB4 HO4 HRD
      generalize slotOk x = ok at HOK HAT
      go_wp2_with fail
      refine HOK.out.mono ?_
      rintro e w6 ⟨rfl, hb6⟩
      have z6 := hb6.size
      have HB6 : Hid (Below w.heap.size w w6) := Lib.hid (HB5.out.trans (hb6.mono (by omega)))
      have HO6 : Hid (keysAt w6 w.heap.size i D) := Lib.hid (keysAt_below HO5.out hb6 (by omega))
      have b6 := HK5.out.below hb6 (by omega)
      have k0 := b6.cell 0
      have k1 := b6.cell 1
      simp only [List.getElem?_cons_zero, List.getElem?_cons_succ] at k0 k1
      clear hb6 HX5 HB5 q0 q1 q2 HOK HO5 HK5 b6
      cases ok
      · have HV : Hid (slotsOk l = false) := Lib.hid (slots_ok_not hin (by rw [HAT.out]; rfl))
        go_wp2
        go_ret
        exact ⟨ret_bool HV.out.symm, HB6.out⟩
      have hlk := keys_look HO6.out HD.out HSZ.out.1 HSZ.out.2
      have HA2 := Lib.hid HALL.out
      clear HALL
      generalize (l.take i).any (isSlot x.1 x.2.1) = met at hlk HA2
      cases met
      · have HN2 : Hid (∀ j, j < i + 1 → slotAtOk l j = true) := Lib.hid (fun j hj => by
          by_cases e : j = i
          · subst e; rw [HAT.out, HA2.out]; rfl
          · exact HN.out j (by omega))
        have HD2 : Hid (keysAre (D.put (keyLit x.1 x.2.1) (.lit (.bool true))) (l.take (i + 1))) := Lib.hid (by rw [HTK.out]; exact HD.out.snoc HSZ.out.1 HSZ.out.2)
        have hkey := keyOf_slot x.1 x.2.1 HSZ.out.1 HSZ.out.2
        go_wp2_with (at_mapUpdate; refine wpList_mapUpdate_own _ rfl _ _ _ 129 rfl 131 4 lawKey Tryz.underlying129 _ w.heap.size i D rfl HO6.out (by unfold maxLen; omega) _ _ _ rfl rfl hkey _ [] (plainElem_bool Tryz.underlying4 true) ?_)
        intro w7 hown7 hg7
        have z7 : w6.heap.size ≤ w7.heap.size := hg7.size
        have HB7 : Hid (Below w.heap.size w w7) := Lib.hid (HB6.out.grown hg7 (by omega) (fun j hj => by cases hj; exact Nat.le_refl _))
        have HO7 : Hid (keysAt w7 w.heap.size (i + 1) (D.put (keyLit x.1 x.2.1) (.lit (.bool true)))) := Lib.hid hown7
        clear hown7 hg7 hkey hlk k0 k1
        go_wp2
        go_roundw
        case rel => exact ⟨i + 1, _, by omega, by go_num, HN2, HO7, HD2, HB7, by omega⟩
        case measure => simp [intOf] <;> omega
      · have HV : Hid (slotsOk l = false) := Lib.hid (slots_ok_not hin (by rw [HAT.out, HA2.out]; rfl))
        go_wp2
        go_ret
        exact ⟨ret_bool HV.out.symm, HB6.out⟩
    · obtain rfl : i = l.length := by omega
      have HV : Hid (slotsOk l = true) := Lib.hid (by rw [slots_ok_end HN.out]; exact decide_eq_true (by omega))
      go_wp2
      go_ret
      exact ⟨ret_bool HV.out.symm, HB.out⟩
end Go.Proofs.YthnimmagaocipaaGreatDoor
set_option linter.unusedVariables false
namespace Go.Proofs.YthnimmagaocipaaGreatDoor
open Go.ChangeShapes Go.WideShapes Go.ChangeAt Go.RowKit

set_option maxRecDepth 100000 in
set_option maxHeartbeats 1600000 in
theorem bytesClone_any (hi : Nat) (v : Value) (l : List Int) (w : World) (hl : l.length ≤ 1048576) (h : rd .u8 hi w v l) (hh : hi ≤ w.heap.size) :
    Calls Tryz.prog 111 #[v] w fun e w' => ∃ v', e = .returned v' ∧ nums .u8 w.heap.size w'.heap.size w' v' l ∧ Below w.heap.size w w' := by
  obtain ⟨A, c, rfl, -⟩ := h.form
  have HC := Lib.hid h
  have hq : ∀ (w : World) (a : Option Addr) (n c n' c' : Nat), (binOp .eql 99 (.slice a n c) (.slice none n' c')).run Tryz.prog w = .ok (.bool a.isNone) w := fun w a n c n' c' => Lib.run_eql_slice_nil w _ _ a n c n' c' Tryz.underlying99
  cases A with
  | none =>
    have hz : l = [] := by
      cases l with
      | nil => rfl
      | cons x l =>
        obtain ⟨A', c', e, -, hj⟩ := h
        obtain ⟨b, off, rfl, -⟩ := hj 0 (by simp)
        cases e
    subst hz
    clear h
    go_enter Tryz.func111, Tryz.ntmps111
    go_wp2
    go_ret
    exact ⟨_, rfl, nums_none _ _ _ _, Below.refl _ _⟩
  | some a =>
    clear h
    go_enter Tryz.func111, Tryz.ntmps111
    have y0 : w.heap.size < w.heap.size + 1 := by omega
    go_wp2_with (at_builtin; refine app_all (w.alloc (.cells #[] 5)) rfl _ _ 99 rfl w.heap.size 5 .u8 1 Tryz.underlying99 infoU8 _ [] rfl (ow_made _ _ w) hi _ l (by rfl) (HC.out.below ((Below.refl w.heap.size w).alloc (by omega) _) hh) (by unfold maxLen; simp; omega) (by simp; omega) (by simp) ?_)
    intro v1 w1 hv1 hg1 hb1
    have hn1 := hv1.nums
    go_wp2
    go_ret
    exact ⟨_, rfl, hn1.mono (Nat.le_refl _) (Nat.le_refl _), ((Below.refl _ _).alloc (Nat.le_refl _) _).trans hb1⟩
end Go.Proofs.YthnimmagaocipaaGreatDoor
set_option linter.unusedVariables false
namespace Go.Proofs.YthnimmagaocipaaGreatDoor
open Go.ChangeShapes Go.WideShapes Go.ChangeAt Go.RowKit

/-- where slots are read, each with the slice that its reply lies in -/
def seenAt (hi : Nat) (w : World) (A : Option Addr) (ps : List SlotV) : Prop := ∀ (j : Nat) (z : SlotV), ps[j]? = some z → ∃ b off, A = some ⟨b, off, none⟩ ∧ b < hi ∧ atL w b (off + j * 3) (sCells z) ∧ rd .u8 hi w (sv z) z.1.2.2
set_option maxRecDepth 100000 in
theorem seenAt.below {hi : Nat} {w w' : World} {A : Option Addr} {ps : List SlotV} (h : seenAt hi w A ps) (hb : Below w.heap.size w w') (hh : hi ≤ w.heap.size) : seenAt hi w' A ps := fun j z hz => by
  obtain ⟨b, off, e, hb', ha, hr⟩ := h j z hz
  exact ⟨b, off, e, hb', fun t u hu => (hb.cell (p := ⟨b, _, none⟩) (show b < w.heap.size by omega)).trans (ha t u hu), hr.below hb hh⟩
set_option maxRecDepth 100000 in
theorem slots_seen {hi : Nat} {w : World} {v : Value} {l : List SlotD} (h : SlotsR.rd hi w [v] l) : ∃ A c ps, v = .slice A l.length c ∧ ps.map (·.1) = l ∧ seenAt hi w A ps := by
  obtain ⟨A, c, rfl, hc, h⟩ := slots_rd h
  have hall : ∀ j : Nat, ∃ a : Option Addr × Nat, ∀ x, l[j]? = some x → ∃ b off, A = some ⟨b, off, none⟩ ∧ b < hi ∧ atL w b (off + j * 3) (sCells (x, a)) ∧ rd .u8 hi w (sv (x, a)) x.2.2 := fun j => by
    cases hx : l[j]? with
    | none => exact ⟨(none, 0), fun x hx' => by cases hx'⟩
    | some y =>
      obtain ⟨b, off, A', c', e, hb, q0, q1, q2, hr⟩ := h j y hx
      refine ⟨(A', c'), fun x hx' => ?_⟩
      cases hx'
      refine ⟨b, off, e, hb, fun t u hu => ?_, hr⟩
      match t, hu with
      | 0, hu => cases hu; exact q0
      | 1, hu => cases hu; exact q1
      | 2, hu => cases hu; exact q2
      | n + 3, hu => simp [sCells] at hu
  obtain ⟨f, hf⟩ := Classical.skolem.1 hall
  refine ⟨A, c, (List.range l.length).map fun j => ((l.getD j (⟨#[]⟩, ⟨#[]⟩, []), f j) : SlotV), rfl, ?_, fun j z hz => ?_⟩
  · rw [List.map_map]
    refine List.ext_getElem (by simp) fun j h1 h2 => ?_
    simp only [List.getElem_map, List.getElem_range, Function.comp]
    rw [List.getD_eq_getElem?_getD, List.getElem?_eq_getElem h2]; rfl
  · rw [List.getElem?_map] at hz
    obtain ⟨k, hk, rfl⟩ := Option.map_eq_some_iff.1 hz
    obtain ⟨h1, h2⟩ := List.getElem?_eq_some_iff.1 hk
    rw [List.length_range] at h1
    rw [List.getElem_range] at h2
    subst h2
    have hg : l.getD j (⟨#[]⟩, ⟨#[]⟩, []) = l[j] := by rw [List.getD_eq_getElem?_getD, List.getElem?_eq_getElem h1]; rfl
    rw [hg]
    exact hf j _ (List.getElem?_eq_getElem h1)
set_option maxRecDepth 100000 in
theorem nil_slots (A : Option Addr) (n c n' c' : Nat) (w : World) : (binOp .eql 48 (.slice A n c) (.slice none n' c')).run Tryz.prog w = .ok (.bool A.isNone) w := Lib.run_eql_slice_nil w _ _ A n c n' c' Tryz.underlying48
/-- a row of slots of the call's own, the replies lie where they lay -/
def slotsHeld (ps : List SlotV) (w : World) (e : Ending) (w' : World) : Prop := ∃ A c, e = .returned (.slice A ps.length c) ∧ owE 107 3 sCells w.heap.size w' (.slice A ps.length c) ps ∧ Below w.heap.size w w'
set_option maxRecDepth 100000 in
set_option maxHeartbeats 1600000 in
theorem cloneSlots_any (hi : Nat) (A : Option Addr) (c : Nat) (ps : List SlotV) (w : World) (hn : ps.length ≤ 1048577) (h : seenAt hi w A ps) (hh : hi ≤ w.heap.size) :
    Calls Tryz.prog 110 #[.slice A ps.length c] w (slotsHeld ps w) := by
  have HS : Hid (∀ V, Below w.heap.size w V → ∀ (j : Nat) (y : SlotV), ps[j]? = some y → ∃ b off, A = some ⟨b, off, none⟩ ∧ atL V b (off + j * 3) (sCells y)) := Lib.hid fun V hV j y hy => by
    obtain ⟨b, off, e, hb, ha, -⟩ := h.below hV hh j y hy
    exact ⟨b, off, e, ha⟩
  have q33 := nil_slots
  cases A with
  | none =>
    obtain rfl : ps = [] := by
      cases ps with
      | nil => rfl
      | cons y l => obtain ⟨b, off, e, -⟩ := h 0 y rfl; cases e
    clear h
    go_enter Tryz.func110, Tryz.ntmps110
    go_wp2
    go_ret
    exact ⟨none, 0, rfl, owE_none _ _ _ _ _, Below.refl _ _⟩
  | some ad =>
    clear h
    go_enter Tryz.func110, Tryz.ntmps110
    go_wp2_with (at_builtin; refine app_rows sCells 3 (fun _ => rfl) (by decide) sCells_one 48 107 #[.string ⟨#[]⟩, .string ⟨#[]⟩, .slice none 0 0] 56 Tryz.underlying48 infoSlot rfl _ _ rfl rfl w.heap.size (w.alloc (.cells #[] 107)) _ [] ps (some ad) c (by rfl) (by rfl) (owE_empty _ _ _ _ w (Nat.le_refl _)) (HS.out _ ((Below.refl _ _).alloc (Nat.le_refl _) _)) (by unfold maxLen; simp; omega) (by simp; omega) (by simp) ?_)
    intro A1 c1 w1 ho1 hg1 hb1
    have HB1 : Hid (Below w.heap.size w w1) := Lib.hid (((Below.refl w.heap.size w).alloc (Nat.le_refl _) _).trans hb1)
    have HO : Hid (owE 107 3 sCells w.heap.size w1 (.slice A1 ps.length c1) ps) := Lib.hid (by simpa using ho1)
    clear ho1 hg1 hb1
    go_wp2
    go_ret
    exact ⟨A1, c1, by simp, HO.out, HB1.out⟩
end Go.Proofs.YthnimmagaocipaaGreatDoor
set_option linter.unusedVariables false
namespace Go.Proofs.YthnimmagaocipaaGreatDoor
open Go.ChangeShapes Go.WideShapes Go.ChangeAt Go.RowKit

set_option maxRecDepth 100000 in
theorem nums_own {K : IntKind} {lo hi : Nat} {w : World} {v : Value} {l : List Int} (h : nums K lo hi w v l) : (Rep.int K).slice.own w [v] l (Proofs.YthnimmagaocipaaGreatDoor.blk v).toList := by
  obtain ⟨A, c, rfl, hc, hj⟩ := h
  cases l with
  | nil => exact ⟨A, c, rfl, hc, .inl ⟨rfl, by cases A <;> rfl⟩⟩
  | cons y l =>
    obtain ⟨b, off, rfl, h1, h2, -, -⟩ := hj 0 (by simp)
    have hfl : List.flatten ((y :: l).map fun _ => ([] : List Nat)) = [] := by simp
    refine ⟨_, c, rfl, hc, .inr ⟨b, off, (y :: l).map fun _ => [], rfl, by rw [hfl]; rfl, by simp, fun j x G hx hG => ?_⟩⟩
    have hjl := (List.getElem?_eq_some_iff.1 hx).1
    have hG' : G = [] := by rw [List.getElem?_map, hx] at hG; simpa using hG.symm
    subst hG'
    obtain ⟨b', off', e, -, -, h3, h4⟩ := hj j hjl
    simp only [Option.some.injEq, Addr.mk.injEq, and_true] at e
    obtain ⟨rfl, rfl⟩ := e
    rw [List.getD_eq_getElem?_getD, hx] at h3
    have hk : off + j * (Rep.int K).k = off + j := by show off + j * 1 = _; rw [Nat.mul_one]
    refine ⟨[.int K x], ⟨rfl, rfl⟩, atL_one.2 (by rw [hk]; exact h3), fun t ht => ?_⟩
    have ht0 : t = 0 := by have : t < 1 := ht; omega
    subst ht0
    rw [hk]; exact h4
set_option maxRecDepth 100000 in
theorem own_nums {K : IntKind} {lo hi : Nat} {w : World} {cs : List Value} {l : List Int} {F : List Nat} (h : (Rep.int K).slice.own w cs l F) (hF : ∀ b ∈ F, lo ≤ b ∧ b < hi) : ∃ v, cs = [v] ∧ nums K lo hi w v l ∧ ∀ b, Proofs.YthnimmagaocipaaGreatDoor.blk v = some b → b ∈ F := by
  obtain ⟨A, c, rfl, hc, h⟩ := h
  refine ⟨_, rfl, ⟨A, c, rfl, hc, fun j hl => ?_⟩, fun b hb => ?_⟩
  · rcases h with ⟨rfl, _⟩ | ⟨b, off, Fs, rfl, rfl, hFl, h⟩
    · simp at hl
    · obtain ⟨xs, hx, h2, h3⟩ := h j _ _ (List.getElem?_eq_getElem hl) (List.getElem?_eq_getElem (by omega : j < Fs.length))
      have hx' : xs = [.int K l[j]] := hx.1
      subst hx'
      have hk : off + j * (Rep.int K).k = off + j := by show off + j * 1 = _; rw [Nat.mul_one]
      have hb := hF b (List.mem_cons_self ..)
      have h4 := h3 0 (by show 0 < 1; decide)
      have h5 := atL_one.1 h2
      rw [hk] at h4 h5
      refine ⟨b, off, rfl, hb.1, hb.2, ?_, h4⟩
      rw [h5, List.getD_eq_getElem?_getD, List.getElem?_eq_getElem hl]
      rfl
  · rcases h with ⟨rfl, _⟩ | ⟨b', off, Fs, rfl, rfl, hFl, h⟩
    · cases A <;> simp [Proofs.YthnimmagaocipaaGreatDoor.blk] at hb
    · cases l with
      | nil => simp [Proofs.YthnimmagaocipaaGreatDoor.blk] at hb
      | cons y l =>
        simp only [List.length_cons, Proofs.YthnimmagaocipaaGreatDoor.blk, Option.some.injEq] at hb
        subst hb
        exact List.mem_cons_self ..
set_option maxRecDepth 100000 in
theorem slot_own {lo hi : Nat} {w : World} {cs : List Value} {x : SlotD} {F : List Nat} (h : SlotR.own w cs x F) (hF : ∀ b ∈ F, lo ≤ b ∧ b < hi) : ∃ A c, cs = sCells (x, (A, c)) ∧ nums .u8 lo hi w (sv (x, (A, c))) x.2.2 ∧ ∀ b, Proofs.YthnimmagaocipaaGreatDoor.blk (sv (x, (A, c))) = some b → b ∈ F := by
  obtain ⟨a, b, G, H, rfl, rfl, ⟨h1, rfl⟩, c, d, I, J, rfl, rfl, ⟨h2, rfl⟩, h3⟩ := h
  have h1' : a = [.string x.1] := h1
  have h2' : c = [.string x.2.1] := h2
  subst h1' h2'
  simp only [List.nil_append] at hF
  obtain ⟨u, rfl, hu, hm⟩ := own_nums (lo := lo) (hi := hi) h3 hF
  obtain ⟨A, c, rfl, -⟩ := hu.form
  exact ⟨A, c, rfl, hu, hm⟩
set_option maxRecDepth 100000 in
theorem slot_own_of {lo hi : Nat} {w : World} {x : SlotV} (h : nums .u8 lo hi w (sv x) x.1.2.2) : SlotR.own w (sCells x) x.1 (Proofs.YthnimmagaocipaaGreatDoor.blk (sv x)).toList :=
  ⟨[_], [_, _], [], _, rfl, rfl, ⟨rfl, rfl⟩, [_], [_], [], _, rfl, rfl, ⟨rfl, rfl⟩, nums_own h⟩
/-- slots of one's own: the row's block, and each reply in a block of its own -/
structure SlotsM (lo hi : Nat) (w : World) (b off : Nat) (ps : List SlotV) : Prop where
  bnd : lo ≤ b ∧ b < hi
  cells : ∀ (j : Nat) (x : SlotV), ps[j]? = some x → atL w b (off + j * 3) (sCells x)
  free : ∀ j t, j < ps.length → t < 3 → w.frozen? ⟨b, off + j * 3 + t, none⟩ = false
  own : ∀ (j : Nat) (x : SlotV), ps[j]? = some x → nums .u8 lo hi w (sv x) x.1.2.2
  row : ∀ (j : Nat) (x : SlotV), ps[j]? = some x → Proofs.YthnimmagaocipaaGreatDoor.blk (sv x) ≠ some b
  sep : ∀ (i j : Nat) (x y : SlotV), i ≠ j → ps[i]? = some x → ps[j]? = some y → ∀ g, Proofs.YthnimmagaocipaaGreatDoor.blk (sv x) = some g → Proofs.YthnimmagaocipaaGreatDoor.blk (sv y) ≠ some g
set_option maxRecDepth 100000 in
theorem slots_mem {lo hi : Nat} {w : World} {v : Value} {l : List SlotD} (h : SlotsR.mine lo hi w [v] l) :
    ∃ A c, v = .slice A l.length c ∧ l.length ≤ c ∧ (l = [] ∨ ∃ b off ps, A = some ⟨b, off, none⟩ ∧ ps.map (·.1) = l ∧ SlotsM lo hi w b off ps) := by
  obtain ⟨F, ⟨A, c, hv, hc, h⟩, hn, hF⟩ := h
  simp only [List.cons.injEq, and_true] at hv
  refine ⟨A, c, hv, hc, ?_⟩
  rcases h with ⟨rfl, _⟩ | ⟨b, off, Fs, rfl, rfl, hl, h⟩
  · exact .inl rfl
  rw [List.nodup_cons] at hn
  obtain ⟨hn1, hn2⟩ := hn
  rw [List.Nodup, List.pairwise_flatten] at hn2
  have hdis := List.pairwise_iff_getElem.1 hn2.2
  have hall : ∀ j : Nat, ∃ a : Option Addr × Nat, ∀ x G, l[j]? = some x → Fs[j]? = some G → atL w b (off + j * 3) (sCells (x, a)) ∧ freeL w b (off + j * 3) 3 ∧ nums .u8 lo hi w (sv (x, a)) x.2.2 ∧ ∀ g, Proofs.YthnimmagaocipaaGreatDoor.blk (sv (x, a)) = some g → g ∈ G := fun j => by
    cases hx : l[j]? with
    | none => exact ⟨(none, 0), fun x G hx' => by cases hx'⟩
    | some y =>
      have hj := (List.getElem?_eq_some_iff.1 hx).1
      have hG : Fs[j]? = some (Fs[j]'(by omega)) := List.getElem?_eq_getElem (by omega)
      obtain ⟨xs, h1, h2, h3⟩ := h j y _ hx hG
      obtain ⟨A', c', rfl, hu, hm⟩ := slot_own (lo := lo) (hi := hi) h1 fun b' hb' => hF b' (List.mem_cons_of_mem _ (List.mem_flatten.2 ⟨_, List.mem_of_getElem? hG, hb'⟩))
      refine ⟨(A', c'), fun x G hx' hG' => ?_⟩
      cases hx'
      rw [hG] at hG'
      cases hG'
      exact ⟨h2, h3, hu, hm⟩
  obtain ⟨f, hf⟩ := Classical.skolem.1 hall
  have hget : ∀ (j : Nat) (x : SlotV), ((List.range l.length).map fun j => ((l.getD j (⟨#[]⟩, ⟨#[]⟩, []), f j) : SlotV))[j]? = some x → j < l.length ∧ l[j]? = some x.1 ∧ x = (x.1, f j) := fun j x hx => by
    rw [List.getElem?_map] at hx
    obtain ⟨k, hk, rfl⟩ := Option.map_eq_some_iff.1 hx
    obtain ⟨h1, h2⟩ := List.getElem?_eq_some_iff.1 hk
    rw [List.length_range] at h1
    rw [List.getElem_range] at h2
    subst h2
    exact ⟨h1, by rw [List.getD_eq_getElem?_getD, List.getElem?_eq_getElem h1]; rfl, rfl⟩
  have hFs : ∀ j, j < l.length → Fs[j]? = some (Fs.getD j []) := fun j hj => by rw [List.getD_eq_getElem?_getD, List.getElem?_eq_getElem (by omega : j < Fs.length)]; rfl
  refine .inr ⟨b, off, (List.range l.length).map fun j => (l.getD j (⟨#[]⟩, ⟨#[]⟩, []), f j), rfl, ?_, ⟨hF b (List.mem_cons_self ..), fun j x hx => ?_, fun j t hj ht => ?_, fun j x hx => ?_, fun j x hx e => ?_, fun i j x y hij hx hy g h1 h2 => ?_⟩⟩
  · apply List.ext_getElem?
    intro j
    rw [List.map_map, List.getElem?_map]
    by_cases hj : j < l.length
    · rw [List.getElem?_range hj, List.getElem?_eq_getElem hj]
      show some (l.getD j _) = _
      rw [List.getD_eq_getElem?_getD, List.getElem?_eq_getElem hj]; rfl
    · rw [List.getElem?_eq_none (by simp; omega), List.getElem?_eq_none (by omega)]; rfl
  · obtain ⟨hj, h1, h2⟩ := hget j x hx
    rw [h2]
    exact (hf j x.1 _ h1 (hFs j hj)).1
  · rw [List.length_map, List.length_range] at hj
    exact (hf j _ _ (List.getElem?_eq_getElem hj) (hFs j hj)).2.1 t ht
  · obtain ⟨hj, h1, h2⟩ := hget j x hx
    rw [h2]
    exact (hf j x.1 _ h1 (hFs j hj)).2.2.1
  · obtain ⟨hj, h1, h2⟩ := hget j x hx
    rw [h2] at e
    exact hn1 (List.mem_flatten.2 ⟨_, List.mem_of_getElem? (hFs j hj), (hf j x.1 _ h1 (hFs j hj)).2.2.2 b e⟩)
  · obtain ⟨hi', h3, h4⟩ := hget i x hx
    obtain ⟨hj, h5, h6⟩ := hget j y hy
    rw [h4] at h1
    rw [h6] at h2
    have m1 := (hf i x.1 _ h3 (hFs i hi')).2.2.2 g h1
    have m2 := (hf j y.1 _ h5 (hFs j hj)).2.2.2 g h2
    have e1 : Fs.getD i [] = Fs[i]'(by omega) := by rw [List.getD_eq_getElem?_getD, List.getElem?_eq_getElem (by omega : i < Fs.length)]; rfl
    have e2 : Fs.getD j [] = Fs[j]'(by omega) := by rw [List.getD_eq_getElem?_getD, List.getElem?_eq_getElem (by omega : j < Fs.length)]; rfl
    rw [e1] at m1
    rw [e2] at m2
    rcases Nat.lt_or_gt_of_ne hij with h7 | h7
    · exact hdis i j (by omega) (by omega) h7 g m1 g m2 rfl
    · exact hdis j i (by omega) (by omega) h7 g m2 g m1 rfl
set_option maxRecDepth 100000 in
theorem SlotsM.mine {lo hi b off c : Nat} {w : World} {ps : List SlotV} (h : SlotsM lo hi w b off ps) (hc : ps.length ≤ c) : SlotsR.mine lo hi w [.slice (some ⟨b, off, none⟩) ps.length c] (ps.map (·.1)) := by
  have hmem : ∀ g ∈ List.flatten (ps.map fun x => (Proofs.YthnimmagaocipaaGreatDoor.blk (sv x)).toList), ∃ (j : Nat) (x : SlotV), ps[j]? = some x ∧ Proofs.YthnimmagaocipaaGreatDoor.blk (sv x) = some g := fun g hg => by
    obtain ⟨G, hG, hgG⟩ := List.mem_flatten.1 hg
    obtain ⟨x, hx, rfl⟩ := List.mem_map.1 hG
    obtain ⟨j, hj⟩ := List.mem_iff_getElem?.1 hx
    exact ⟨j, x, hj, by simpa using hgG⟩
  refine ⟨b :: List.flatten (ps.map fun x => (Proofs.YthnimmagaocipaaGreatDoor.blk (sv x)).toList), ⟨some ⟨b, off, none⟩, c, by rw [List.length_map], by rw [List.length_map]; exact hc, .inr ⟨b, off, _, rfl, rfl, by rw [List.length_map, List.length_map], fun j x G hx hG => ?_⟩⟩, ?_, ?_⟩
  · rw [List.getElem?_map] at hx hG
    obtain ⟨y, hy, rfl⟩ := Option.map_eq_some_iff.1 hx
    rw [hy] at hG
    cases hG
    exact ⟨sCells y, slot_own_of (h.own j y hy), h.cells j y hy, fun t ht => h.free j t (List.getElem?_eq_some_iff.1 hy).1 ht⟩
  · rw [List.nodup_cons]
    refine ⟨fun hb => ?_, ?_⟩
    · obtain ⟨j, x, hx, e⟩ := hmem b hb
      exact h.row j x hx e
    · rw [List.Nodup, List.pairwise_flatten]
      refine ⟨fun G hG => ?_, ?_⟩
      · obtain ⟨x, -, rfl⟩ := List.mem_map.1 hG
        cases Proofs.YthnimmagaocipaaGreatDoor.blk (sv x) <;> simp
      · rw [List.pairwise_map, List.pairwise_iff_getElem]
        intro i j hi' hj hij g h1 g' h2 e
        subst e
        exact h.sep i j _ _ (by omega) (List.getElem?_eq_getElem hi') (List.getElem?_eq_getElem hj) g (by simpa using h1) (by simpa using h2)
  · intro g hg
    rcases List.mem_cons.1 hg with rfl | hg
    · exact h.bnd
    · obtain ⟨j, x, hx, e⟩ := hmem g hg
      exact (h.own j x hx).blk g e
set_option maxRecDepth 100000 in
/-- one element made anew -/
theorem SlotsM.put {lo hi b off i : Nat} {w w' : World} {ps : List SlotV} {x y : SlotV} (h : SlotsM lo hi w b off ps) (hx : ps[i]? = some x) (hs : sv y = sv x) (hc : atL w' b (off + i * 3) (sCells y)) (hco : ∀ (j : Nat) (z : SlotV), j ≠ i → ps[j]? = some z → atL w' b (off + j * 3) (sCells z))
    (hf : ∀ t, w'.frozen? ⟨b, t, none⟩ = w.frozen? ⟨b, t, none⟩) (ho : nums .u8 lo hi w' (sv y) y.1.2.2) (hoo : ∀ (j : Nat) (z : SlotV), j ≠ i → ps[j]? = some z → nums .u8 lo hi w' (sv z) z.1.2.2) : SlotsM lo hi w' b off (ps.set i y) := by
  have hi' := (List.getElem?_eq_some_iff.1 hx).1
  have hget : ∀ (j : Nat) (z : SlotV), (ps.set i y)[j]? = some z → (j = i ∧ z = y) ∨ (j ≠ i ∧ ps[j]? = some z) := fun j z hz => by
    by_cases e : i = j
    · subst e
      rw [List.getElem?_set_self hi'] at hz
      exact .inl ⟨rfl, (Option.some.inj hz).symm⟩
    · rw [List.getElem?_set_ne e] at hz
      exact .inr ⟨fun e' => e e'.symm, hz⟩
  have hsv : ∀ (j : Nat) (z : SlotV), (ps.set i y)[j]? = some z → ∃ z', ps[j]? = some z' ∧ sv z = sv z' := fun j z hz => by
    rcases hget j z hz with ⟨rfl, rfl⟩ | ⟨-, h1⟩
    · exact ⟨x, hx, hs⟩
    · exact ⟨z, h1, rfl⟩
  refine ⟨h.bnd, fun j z hz => ?_, fun j t hj ht => ?_, fun j z hz => ?_, fun j z hz => ?_, fun j k z z' hjk hz hz' g => ?_⟩
  · rcases hget j z hz with ⟨rfl, rfl⟩ | ⟨h0, h1⟩
    · exact hc
    · exact hco j z h0 h1
  · rw [List.length_set] at hj
    rw [hf]; exact h.free j t hj ht
  · rcases hget j z hz with ⟨rfl, rfl⟩ | ⟨h0, h1⟩
    · exact ho
    · exact hoo j z h0 h1
  · obtain ⟨q, h1, h2⟩ := hsv j z hz
    rw [h2]; exact h.row j q h1
  · obtain ⟨q, h1, h2⟩ := hsv j z hz
    obtain ⟨q', h3, h4⟩ := hsv k z' hz'
    rw [h2, h4]; exact h.sep j k q q' hjk h1 h3 g
set_option maxRecDepth 100000 in
theorem SlotsM.below {lo hi b off B : Nat} {w w' : World} {ps : List SlotV} (h : SlotsM lo hi w b off ps) (hb : Below B w w') (hB : hi ≤ B) : SlotsM lo hi w' b off ps := by
  have hk : w'.heap[b]? = w.heap[b]? := hb.block b (by have := h.bnd; omega)
  exact ⟨h.bnd, fun j x hx => (h.cells j x hx).keep hk, fun j t hj ht => (frozen_keep hk).trans (h.free j t hj ht), fun j x hx => (h.own j x hx).below hb hB, h.row, h.sep⟩
set_option maxRecDepth 100000 in
theorem setL_cell {w : World} {b o t : Nat} {us : List Value} (h : atL w b o us) (ht : t < us.length) (u : Value) : atL (w.setCell ⟨b, o + t, none⟩ u) b o (us.set t u) := fun s v hs => by
  by_cases e : t = s
  · subst e
    rw [List.getElem?_set_self ht] at hs
    cases hs
    exact World.cell?_setCell_same w ⟨b, o + t, none⟩ u (h t _ (List.getElem?_eq_getElem ht))
  · rw [List.getElem?_set_ne e] at hs
    rw [World.cell?_setCell_other _ _ _ _ (fun he => e (by have := congrArg Addr.off he; simp at this; omega))]
    exact h s v hs
set_option maxRecDepth 100000 in
/-- a cell of element i stored anew, its reply as it was -/
theorem SlotsM.setCell {lo hi b off i t : Nat} {w : World} {ps : List SlotV} {x y : SlotV} {u : Value} (h : SlotsM lo hi w b off ps) (hx : ps[i]? = some x) (hs : sv y = sv x) (hr : y.1.2.2 = x.1.2.2) (ht : t < 3) (hy : sCells y = (sCells x).set t u) : SlotsM lo hi (w.setCell ⟨b, off + i * 3 + t, none⟩ u) b off (ps.set i y) := by
  refine h.put hx hs (by rw [hy]; exact setL_cell (h.cells i x hx) ht u) (fun j z hj hz => (h.cells j z hz).set_far (by show off + i * 3 + t < off + j * 3 ∨ off + j * 3 + 3 ≤ off + i * 3 + t; omega) u) (fun t => by simp) ?_ (fun j z hj hz => (h.own j z hz).far u (h.row j z hz))
  rw [hs, hr]
  exact (h.own i x hx).far u (h.row i x hx)
set_option maxRecDepth 100000 in
/-- its reply made anew in its own block -/
theorem SlotsM.reply {lo hi b off i : Nat} {w w' : World} {ps : List SlotV} {x : SlotV} {m : List Int} (h : SlotsM lo hi w b off ps) (hx : ps[i]? = some x) (hm : m.length = x.1.2.2.length) (hg : w.grownBy w' (Proofs.YthnimmagaocipaaGreatDoor.blk (sv x))) (hh : hi ≤ w.heap.size) (hn : nums .u8 lo hi w' (sv x) m) : SlotsM lo hi w' b off (ps.set i ((x.1.1, x.1.2.1, m), x.2)) := by
  have hk : w'.heap[b]? = w.heap[b]? := hg.block b (by have := h.bnd; omega) (fun e => h.row i x hx e.symm)
  have hs : sv (((x.1.1, x.1.2.1, m), x.2) : SlotV) = sv x := by unfold sv; simp only [hm]
  refine h.put hx hs ?_ (fun j z hj hz => (h.cells j z hz).keep hk) (fun t => frozen_keep hk) (by rw [hs]; exact hn) (fun j z hj hz => (h.own j z hz).apart hg hh fun g h1 h2 => h.sep j i z x hj hz hx g h1 h2)
  have hc : sCells (((x.1.1, x.1.2.1, m), x.2) : SlotV) = sCells x := by unfold sCells; simp only [hm]
  rw [hc]
  exact (h.cells i x hx).keep hk
end Go.Proofs.YthnimmagaocipaaGreatDoor
set_option linter.unusedVariables false
namespace Go.Proofs.YthnimmagaocipaaGreatDoor
open Go.ChangeShapes Go.WideShapes Go.ChangeAt Go.RowKit

end Go.Proofs.YthnimmagaocipaaGreatDoor
set_option linter.unusedVariables false
namespace Go.Proofs.YthnimmagaocipaaGreatDoor
open Go.ChangeShapes Go.WideShapes Go.ChangeAt Go.RowKit

/-- all n elements stand; the first i have replies of their own behind the row, the others are read -/
structure copying (w : World) (hi g n i : Nat) (ps : List SlotV) (E : Nat → List Value) (m : Nat → Nat) : Prop where
  all : filled w g 0 3 n n E
  steps : Steps m i
  low : g < m 0
  top : m i ≤ w.heap.size
  done : ∀ j x, j < i → ps[j]? = some x → SlotR.mine (m j) (m (j + 1)) w (E j) x.1
  rest : ∀ j x, i ≤ j → ps[j]? = some x → E j = sCells x ∧ rd .u8 hi w (sv x) x.1.2.2
set_option maxRecDepth 100000 in
theorem filled.setCell {w : World} {b off k n i t : Nat} {E : Nat → List Value} {u : Value} (h : filled w b off k n n E) (hE : ∀ j, (E j).length = k) (hi : i < n) (ht : t < k) : filled (w.setCell ⟨b, off + i * k + t, none⟩ u) b off k n n (fun j => if j = i then (E i).set t u else E j) := by
  refine ⟨h.room.set _ _, fun j hj => ?_⟩
  by_cases e : j = i
  · subst e
    rw [if_pos rfl]
    exact setL_cell (h.at_ j hj) (by rw [hE j]; exact ht) u
  · rw [if_neg e]
    refine (h.at_ j hj).set_far ?_ u
    rw [hE j]
    rcases Nat.lt_or_gt_of_ne e with h1 | h1
    · have := mul_step (k := k) h1; omega
    · have := mul_step (k := k) h1; omega
set_option maxRecDepth 100000 in
theorem copying.next {w w2 : World} {hi g n i : Nat} {ps : List SlotV} {E : Nat → List Value} {m : Nat → Nat} {x : SlotV} {u : Value} (h : copying w hi g n i ps E m) (hb : Below w.heap.size w w2) (hx : ps[i]? = some x) (hin : i < n) (hh : hi ≤ g) (hg : g < w.heap.size) (hE : ∀ j, (E j).length = 3)
    (hu : nums .u8 w.heap.size w2.heap.size w2 u x.1.2.2) :
    copying (w2.setCell ⟨g, 0 + i * 3 + 2, none⟩ u) hi g n (i + 1) ps (fun j => if j = i then (E i).set 2 u else E j) (fun j => if j = i + 1 then w2.heap.size else m j) := by
  have hf := (h.all.keep (hb.block g hg)).setCell hE hin (t := 2) (by omega) (u := u)
  have hsz := hb.size
  have ht : Turned g (g + 1) w2 (w2.setCell ⟨g, 0 + i * 3 + 2, none⟩ u) := (Turned.refl g (g + 1) w2).set (b := g) _ u (Nat.le_refl _) (Nat.lt_succ_self _)
  have hz := ht.size
  have hlow := h.low
  have htop := h.top
  refine ⟨hf, h.steps.put (by omega), by show g < (if 0 = i + 1 then w2.heap.size else m 0); rw [if_neg (by omega)]; exact hlow, by show (if i + 1 = i + 1 then w2.heap.size else m (i + 1)) ≤ _; rw [if_pos rfl]; exact hz, fun j y hj hy => ?_, fun j y hj hy => ?_⟩
  · by_cases e : j = i
    · subst e
      have hxy : y = x := Option.some.inj (hy.symm.trans hx)
      subst hxy
      show SlotR.mine (if j = j + 1 then w2.heap.size else m j) (if j + 1 = j + 1 then w2.heap.size else m (j + 1)) _ (if j = j then _ else E j) y.1
      rw [if_neg (by omega), if_pos rfl, if_pos rfl, (h.rest j y (Nat.le_refl _) hy).1]
      exact ((slot_mine_of (x := y.1) hu).turned ht (.inr (by have := h.steps.le (Nat.zero_le j) (Nat.le_refl _); omega)) (Nat.le_refl _)).mono (by omega) (Nat.le_refl _)
    · have hji : j < i := by omega
      show SlotR.mine (if j = i + 1 then w2.heap.size else m j) (if j + 1 = i + 1 then w2.heap.size else m (j + 1)) _ (if j = i then _ else E j) y.1
      rw [if_neg e, if_neg (by omega), if_neg (by omega)]
      have hm0 := h.steps.le (Nat.zero_le j) (by omega)
      have hm1 := h.steps.le (show j + 1 ≤ i by omega) (Nat.le_refl _)
      exact ((h.done j y hji hy).below hb (by omega)).turned ht (.inr (by omega)) (by omega)
  · show (if j = i then _ else E j) = sCells y ∧ _
    rw [if_neg (by omega)]
    obtain ⟨e1, e2⟩ := h.rest j y (by omega) hy
    refine ⟨e1, ?_⟩
    have hb1 : Below g w2 (w2.setCell ⟨g, 0 + i * 3 + 2, none⟩ u) := (Below.refl g w2).setCell (p := ⟨g, _, none⟩) (Nat.le_refl _) u
    exact (e2.below hb (by omega)).below hb1 hh
set_option maxRecDepth 100000 in
set_option maxHeartbeats 3200000 in
theorem slotsCopy_any (hi : Nat) (A : Option Addr) (c : Nat) (ps : List SlotV) (w : World) (hn : ps.length ≤ 1048577) (hs : ∀ x ∈ ps, x.1.2.2.length ≤ 1048576) (h : seenAt hi w A ps) (hh : hi ≤ w.heap.size) :
    Calls Tryz.prog 83 #[.slice A ps.length c] w (slotsOne (ps.map (·.1)) w) := by
  have HS := Lib.hid hs
  have HCL := Lib.hid (cloneSlots_any hi A c ps w hn h hh)
  have HSE := Lib.hid (fun V (hV : Below w.heap.size w V) => h.below hV hh)
  have hn2 : (ps.map (·.1)).length = ps.length := List.length_map ..
  clear hs h
  go_enter Tryz.func83, Tryz.ntmps83
  go_wp2_with fail
  refine HCL.out.mono ?_
  rintro e w1 ⟨A1, c1, rfl, ho, hb1⟩
  have HB1 := Lib.hid hb1
  have z1 := hb1.size
  rcases ho.filled (fun _ => rfl) ((⟨#[]⟩, ⟨#[]⟩, []), (none, 0)) with ⟨rfl, A2, c2, hv⟩ | ⟨g, c2, hv, hc, h1, h2, hf⟩
  · have HV := Lib.hid hv
    clear ho hb1 HCL hv
    go_wp2
    go_loopw [9] (fun iv wr => iv = .int .i64 0 ∧ w1 = wr) (fun _ _ => 0)
    case atStart => exact ⟨rfl, rfl⟩
    case round =>
      obtain ⟨rfl, rfl⟩ := hrel
      go_wp2
      go_ret
      exact ⟨_, rfl, ⟨[], ⟨_, _, rfl, Nat.zero_le _, .inl ⟨rfl, rfl⟩⟩, List.nodup_nil, by simp⟩, HB1.out⟩
  simp only [Value.slice.injEq, true_and] at hv
  obtain ⟨rfl, rfl⟩ := hv
  have HC0 : Hid (copying w1 hi g ps.length 0 ps (fun j => sCells (ps.getD j ((⟨#[]⟩, ⟨#[]⟩, []), (none, 0)))) (fun _ => w1.heap.size)) := Lib.hid (by
    refine ⟨hf, ⟨fun j hj => absurd hj (by omega)⟩, h2, Nat.le_refl _, fun j x hj => absurd hj (by omega), fun j x _ hx => ?_⟩
    have hg : ps.getD j ((⟨#[]⟩, ⟨#[]⟩, []), (none, 0)) = x := by rw [List.getD_eq_getElem?_getD, hx]; rfl
    obtain ⟨b, off, -, -, -, hr⟩ := HSE.out w1 hb1 j x hx
    exact ⟨congrArg sCells hg, hr⟩)
  clear ho hb1 HCL hf
  go_wp2
  go_loopw [9] (fun iv wr => ∃ (i : Nat) (E : Nat → List Value) (m : Nat → Nat), i ≤ ps.length ∧ iv = .int .i64 i ∧ Hid (copying wr hi g ps.length i ps E m) ∧ Hid (∀ j, (E j).length = 3) ∧ Hid (Below w.heap.size w wr) ∧ g < wr.heap.size) (fun iv _ => ps.length - (intOf iv).toNat)
  case atStart => exact ⟨0, _, _, Nat.zero_le _, rfl, HC0, Lib.hid (fun _ => rfl), HB1, h2⟩
  case round =>
    obtain ⟨i, E, m, hi', rfl, HC, HE, HB, hz⟩ := hrel
    by_cases hin : i < ps.length
    · obtain ⟨x, hx⟩ : ∃ x, ps[i]? = some x := ⟨_, List.getElem?_eq_getElem hin⟩
      obtain ⟨he, hr⟩ := HC.out.rest i x (Nat.le_refl _) hx
      have hat := HC.out.all.at_ i hin
      rw [he, Nat.zero_add] at hat
      have d2 : wr.cell? ⟨g, i * 3 + 2, none⟩ = some (.slice x.2.1 x.1.2.2.length x.2.2) := hat 2 _ rfl
      have hxs := HS.out x (List.mem_of_getElem? hx)
      have HX := Lib.hid hx
      have HR := Lib.hid hr
      have g1 : (i : Int) < (ps.length : Int) := by omega
      have g2 : 0 ≤ (i : Int) := by omega
      have HBC := Lib.hid (bytesClone_any hi _ x.1.2.2 wr hxs hr (by omega))
      clear hx hr hat he
      obtain ⟨AX, cX⟩ : Option Addr × Nat := x.2
      go_wp2_with fail
      refine HBC.out.mono ?_
      rintro e w2 ⟨u, rfl, hu, hb2⟩
      obtain ⟨AU, cU, rfl, -⟩ := hu.form
      have HN := Lib.hid (HC.out.next hb2 HX.out hin (by omega) hz HE.out hu)
      obtain ⟨⟨u2, e2⟩, f2⟩ := (HC.out.all.keep (hb2.block _ hz)).cells hin 2 (by omega)
      simp only [Nat.zero_add] at e2 f2
      rw [Nat.zero_add] at HN
      have HB2 : Hid (Below w.heap.size w w2) := Lib.hid (HB.out.trans (hb2.mono (by omega)))
      have z2 := hb2.size
      have HE2 : Hid (∀ j, ((fun j => if j = i then (E i).set 2 (.slice AU x.1.2.2.length cU) else E j) j).length = 3) := Lib.hid fun j => by
        show (if j = i then _ else E j).length = 3
        split
        · rw [List.length_set]; exact HE.out i
        · exact HE.out j
      clear hb2 hu d2 HBC
      go_wp2
      go_roundw
      case rel => exact ⟨i + 1, _, _, by omega, by go_num, HN, HE2, Lib.hid (HB2.out.setCell (p := ⟨g, i * 3 + 2, none⟩) h1 _), by simp; omega⟩
      case measure => simp [intOf] <;> omega
    · obtain rfl : i = ps.length := by omega
      go_wp2
      go_ret
      refine ⟨_, rfl, ?_, HB.out⟩
      exact rows_mine (R := SlotR) (m := m) hn2.symm hc h1 HC.out.low HC.out.steps HC.out.top HC.out.all fun j x hx => by
        rw [List.getElem?_map] at hx
        obtain ⟨z, hz', rfl⟩ := Option.map_eq_some_iff.1 hx
        exact HC.out.done j z (List.getElem?_eq_some_iff.1 hz').1 hz'
end Go.Proofs.YthnimmagaocipaaGreatDoor
