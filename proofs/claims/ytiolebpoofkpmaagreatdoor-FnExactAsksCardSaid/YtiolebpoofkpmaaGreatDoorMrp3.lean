/- Slices of strings as a layout: the law package's comparison, marks and looks; no conditions. -/
import Derived.Test.YtiolebpoofkpmaaGreatDoorMrp2
import Derived.Laws.AppendOwn
import Derived.OwnWalk
import Derived.Deep.Onto
import Derived.Maps.AppendAt
import Derived.Test.YtiolebpoofkpmaaGreatDoorShelf
import Derived.Sort.OwnSorted
import Derived.Sort.KeysCollected
import Derived.Sort.Walk0
import Derived.Shelf.Abstract
import Derived.Deep.RegionHeld3
import Derived.Test.YtiolebpoofkpmaaGreatDoorMrp1
set_option linter.unusedVariables false
namespace Go.Proofs.YtiolebpoofkpmaaGreatDoor
open Go.ChangeShapes Go.WideShapes Go.ChangeAt Go.RowKit

def StrsR : Rep (List ByteArray) := Rep.str.slice
set_option maxRecDepth 100000 in
theorem strs_rd {hi : Nat} {w : World} {v : Value} {l : List ByteArray} (h : StrsR.rd hi w [v] l) : ∃ A c, v = .slice A l.length c ∧ l.length ≤ c ∧ ∀ (j : Nat) x, l[j]? = some x → ∃ b off, A = some ⟨b, off, none⟩ ∧ b < hi ∧ w.cell? ⟨b, off + j, none⟩ = some (.string x) := by
  obtain ⟨A, c, hv, hc, hj⟩ := h
  simp only [List.cons.injEq, and_true] at hv
  refine ⟨A, c, hv, hc, fun j x hx => ?_⟩
  obtain ⟨b, off, xs, hA, hb, hr, ha⟩ := hj j x hx
  have hr' : xs = [.string x] := hr
  subst hr'
  have h0 := atL_one.1 ha
  rw [show off + j * Rep.str.k = off + j from by show off + j * 1 = _; rw [Nat.mul_one]] at h0
  exact ⟨b, off, hA, hb, h0⟩
set_option maxRecDepth 100000 in
theorem strs_mine {lo hi : Nat} {w : World} {v : Value} {l : List ByteArray} (h : StrsR.mine lo hi w [v] l) : ∃ A c, v = .slice A l.length c ∧ l.length ≤ c ∧ (l = [] ∨ ∃ b off, A = some ⟨b, off, none⟩ ∧ lo ≤ b ∧ b < hi ∧ ∀ (j : Nat) x, l[j]? = some x → w.cell? ⟨b, off + j, none⟩ = some (.string x) ∧ w.frozen? ⟨b, off + j, none⟩ = false) := by
  obtain ⟨F, ⟨A, c, hv, hc, h⟩, -, hF⟩ := h
  simp only [List.cons.injEq, and_true] at hv
  refine ⟨A, c, hv, hc, ?_⟩
  rcases h with ⟨rfl, -⟩ | ⟨b, off, Fs, rfl, rfl, hl, h⟩
  · exact .inl rfl
  · obtain ⟨h1, h2⟩ := hF b (List.mem_cons_self ..)
    refine .inr ⟨b, off, rfl, h1, h2, fun j x hx => ?_⟩
    have hj := (List.getElem?_eq_some_iff.1 hx).1
    obtain ⟨xs, hr, ha, hf⟩ := h j x _ hx (List.getElem?_eq_getElem (by omega : j < Fs.length))
    have hr' : xs = [.string x] := hr.1
    subst hr'
    have hk : off + j * Rep.str.k = off + j := by show off + j * 1 = _; rw [Nat.mul_one]
    have h0 := atL_one.1 ha
    have f0 := hf 0 (by show 0 < 1; decide)
    rw [hk] at h0 f0
    exact ⟨h0, f0⟩
set_option maxRecDepth 100000 in
theorem strs_mine_of {lo hi b off c : Nat} {w : World} {l : List ByteArray} (hc : l.length ≤ c) (h1 : lo ≤ b) (h2 : b < hi) (h : ∀ (j : Nat) x, l[j]? = some x → w.cell? ⟨b, off + j, none⟩ = some (.string x) ∧ w.frozen? ⟨b, off + j, none⟩ = false) : StrsR.mine lo hi w [.slice (some ⟨b, off, none⟩) l.length c] l := by
  have hfl : List.flatten (l.map fun _ => ([] : List Nat)) = [] := by simp
  refine ⟨b :: List.flatten (l.map fun _ => []), ⟨_, c, rfl, hc, .inr ⟨b, off, _, rfl, rfl, by simp, fun j x G hx hG => ?_⟩⟩, by rw [hfl]; simp, ?_⟩
  · have hG' : G = [] := by rw [List.getElem?_map, hx] at hG; simpa using hG.symm
    subst hG'
    have hk : off + j * Rep.str.k = off + j := by show off + j * 1 = _; rw [Nat.mul_one]
    obtain ⟨h3, h4⟩ := h j x hx
    refine ⟨[.string x], ⟨rfl, rfl⟩, atL_one.2 (by rw [hk]; exact h3), fun t ht => ?_⟩
    have ht0 : t = 0 := by have : t < 1 := ht; omega
    subst ht0
    rw [hk]; exact h4
  · rw [hfl]; intro b' hb'; rw [List.mem_singleton.1 hb']; exact ⟨h1, h2⟩
set_option maxRecDepth 100000 in
theorem strs_nil (lo hi : Nat) (w : World) (A : Option Addr) (c : Nat) : StrsR.mine lo hi w [.slice A 0 c] [] := ⟨[], ⟨A, c, rfl, Nat.zero_le _, .inl ⟨rfl, rfl⟩⟩, List.nodup_nil, by simp⟩
set_option maxRecDepth 100000 in
set_option maxHeartbeats 800000 in
theorem eqStrs_any (hi1 hi2 : Nat) (va vb : Value) (l : List ByteArray) (w : World) (hn : l.length ≤ 2000000) (h1 : StrsR.rd hi1 w [va] l) (h2 : StrsR.rd hi2 w [vb] l) :
    Calls Tryz.prog 7 #[va, vb] w fun e w' => e = .returned (.bool true) ∧ Below w.heap.size w w' := by
  obtain ⟨A1, c1, rfl, -, h1⟩ := strs_rd h1
  obtain ⟨A2, c2, rfl, -, h2⟩ := strs_rd h2
  have H1 := Lib.hid h1
  have H2 := Lib.hid h2
  clear h1 h2
  go_enter Tryz.func7, Tryz.ntmps7
  go_wp2
  go_loopw [5] (fun iv wr => ∃ (k : Nat) (q : Nat), k ≤ l.length ∧ iv = .int .i64 k ∧ wr = w.drewN q) (fun iv _ => l.length - (intOf iv).toNat)
  case atStart => exact ⟨0, 0, Nat.zero_le _, rfl, rfl⟩
  case round =>
    obtain ⟨k, q, hk, rfl, rfl⟩ := hrel
    by_cases hlt : k < l.length
    · have hg : l[k]? = some l[k] := List.getElem?_eq_getElem hlt
      obtain ⟨b1, o1, rfl, -, x1⟩ := H1.out k _ hg
      obtain ⟨b2, o2, rfl, -, x2⟩ := H2.out k _ hg
      clear hg
      generalize l[k] = x at x1 x2
      have g1 : (k : Int) < (l.length : Int) := by omega
      have g2 : 0 ≤ (k : Int) := by omega
      go_wp2
      go_quiet (fail)
      go_wp2
      go_roundw
      case rel => exact ⟨k + 1, _, by omega, by go_num, rfl⟩
      case measure => simp [intOf] <;> omega
    · go_wp2
      go_ret
      exact ⟨rfl, below_drewN (Below.refl _ _) _⟩
def strsMark (k : Int) (n : Nat) : List ByteArray := (List.range n).map fun (j : Nat) => ⟨(markOf (k + (j : Int))).toArray⟩
set_option maxRecDepth 100000 in
theorem strsMark_len (k : Int) (n : Nat) : (strsMark k n).length = n := by simp [strsMark]
set_option maxRecDepth 100000 in
theorem strsMark_at (k : Int) (n j : Nat) (h : j < n) : (strsMark k n)[j]? = some ⟨(markOf (k + (j : Int))).toArray⟩ := by simp [strsMark, h]
/-- the first i of n places hold marks; all may be written -/
def mkdS (w : World) (b off : Nat) (k : Int) (i n : Nat) : Prop := ∀ j, j < n → w.frozen? ⟨b, off + j, none⟩ = false ∧ (∃ u, w.cell? ⟨b, off + j, none⟩ = some u) ∧ (j < i → w.cell? ⟨b, off + j, none⟩ = some (.string ⟨(markOf (k + (j : Int))).toArray⟩))
set_option maxRecDepth 100000 in
theorem mkdS.keep {w w' : World} {b off : Nat} {k : Int} {i n : Nat} (h : mkdS w b off k i n) (hk : w'.heap[b]? = w.heap[b]?) : mkdS w' b off k i n := fun j hj => by
  obtain ⟨h1, ⟨u, h2⟩, h3⟩ := h j hj
  exact ⟨(frozen_keep hk).trans h1, ⟨u, (cell_keep hk).trans h2⟩, fun hi => (cell_keep hk).trans (h3 hi)⟩
set_option maxRecDepth 100000 in
theorem mkdS.set {w : World} {b off : Nat} {k : Int} {i n : Nat} (h : mkdS w b off k i n) (hi : i < n) : mkdS (w.setCell ⟨b, off + i, none⟩ (.string ⟨(markOf (k + (i : Int))).toArray⟩)) b off k (i + 1) n := fun j hj => by
  obtain ⟨h1, ⟨u, h2⟩, h3⟩ := h j hj
  refine ⟨by simpa using h1, ?_⟩
  by_cases e : i = j
  · subst e
    have := World.cell?_setCell_same w ⟨b, off + i, none⟩ (.string ⟨(markOf (k + (i : Int))).toArray⟩) h2
    exact ⟨⟨_, this⟩, fun _ => this⟩
  · have hne : ∀ x, (w.setCell ⟨b, off + i, none⟩ x).cell? ⟨b, off + j, none⟩ = w.cell? ⟨b, off + j, none⟩ := fun x => World.cell?_setCell_other _ _ _ _ (fun he => e (by have := congrArg Addr.off he; simp at this; omega))
    exact ⟨⟨u, (hne _).trans h2⟩, fun hlt => (hne _).trans (h3 (by omega))⟩
set_option maxRecDepth 100000 in
set_option maxHeartbeats 800000 in
theorem markStrs_any (lo hi : Nat) (v : Value) (l : List ByteArray) (k : Int) (w : World) (hn : l.length ≤ 2000000) (hk0 : 0 < k) (hk1 : k ≤ 100000000) (h : StrsR.mine lo hi w [v] l) (hh : hi ≤ w.heap.size) :
    Calls Tryz.prog 10 #[v, .int .i64 k] w fun e w' => e = .returned (.int .i64 (k + l.length)) ∧ StrsR.mine lo hi w' [v] (strsMark k l.length) ∧ Turned lo hi w w' := by
  obtain ⟨A, c, rfl, hc, hm⟩ := strs_mine h
  clear h
  rcases hm with rfl | ⟨b, off, rfl, h1, h2, hm⟩
  · go_enter Tryz.func10, Tryz.ntmps10
    go_wp2
    go_loop [1, 5] (fun kv iv => iv = .int .i64 0 ∧ kv = .int .i64 k) (fun _ _ => 0)
    case atStart => exact ⟨rfl, rfl⟩
    case round =>
      obtain ⟨rfl, rfl⟩ := hrel
      go_wp2
      go_ret
      exact ⟨by simp, strs_nil _ _ _ _ _, Turned.refl _ _ _⟩
  have hm0 : mkdS w b off k 0 l.length := fun j hj => by
    obtain ⟨q1, q2⟩ := hm j _ (List.getElem?_eq_getElem hj)
    exact ⟨q2, ⟨_, q1⟩, fun h => absurd h (by omega)⟩
  generalize l.length = n at hn hc hm0 ⊢
  have HM := Lib.hid hm0
  clear hm hm0
  go_enter Tryz.func10, Tryz.ntmps10
  go_wp2
  go_loopw [1, 5] (fun kv iv wr => ∃ i : Nat, i ≤ n ∧ iv = .int .i64 i ∧ kv = .int .i64 (k + i) ∧ Hid (mkdS wr b off k i n) ∧ Hid (Turned lo hi w wr) ∧ w.heap.size ≤ wr.heap.size) (fun _ iv _ => n - (intOf iv).toNat)
  case atStart => exact ⟨0, Nat.zero_le _, rfl, val_int (by simp), HM, Lib.hid (Turned.refl _ _ _), Nat.le_refl _⟩
  case round =>
    obtain ⟨i, hi', rfl, rfl, HM2, HT, hz⟩ := hrel
    by_cases hin : i < n
    · have g1 : (i : Int) < (n : Int) := by omega
      have g2 : 0 ≤ (i : Int) := by omega
      go_wp2_with fail
      refine (markText_any (k + i) wr (by omega) (by omega)).mono ?_
      rintro e w2 ⟨rfl, hb2⟩
      have hm2 := HM2.out.keep (hb2.block b (by omega))
      obtain ⟨v, hv⟩ := (hm2 i hin).2.1
      have hf := (hm2 i hin).1
      have HM3 := Lib.hid (hm2.set hin)
      have HT2 := Lib.hid ((HT.out.trans (Turned.of_below hb2)).set (b := b) (off + i) (.string ⟨(markOf (k + (i : Int))).toArray⟩) h1 h2)
      have hz2 := hb2.size
      clear hm2 hb2
      go_wp2
      go_roundw
      case rel => exact ⟨i + 1, by omega, by go_num, val_int (by omega), HM3, HT2, by simp [World.setCell]; omega⟩
      case measure => simp [intOf] <;> omega
    · obtain rfl : i = n := by omega
      go_wp2
      go_ret
      refine ⟨rfl, ?_, HT.out⟩
      have := strs_mine_of (lo := lo) (hi := hi) (b := b) (off := off) (c := c) (w := wr) (l := strsMark k i) (by rw [strsMark_len]; exact hc) h1 h2 (fun j x hx => by
        have hj := (List.getElem?_eq_some_iff.1 hx).1
        rw [strsMark_len] at hj
        rw [strsMark_at k i j hj] at hx
        cases hx
        exact ⟨(HM2.out j hj).2.2 hj, (HM2.out j hj).1⟩)
      rwa [strsMark_len] at this
set_option maxRecDepth 100000 in
set_option maxHeartbeats 800000 in
theorem heldStrs_any (hi : Nat) (v : Value) (n : Nat) (k : Int) (w : World) (hn : n ≤ 2000000) (hk0 : 0 < k) (hk1 : k ≤ 100000000) (h : StrsR.rd hi w [v] (strsMark k n)) (hh : hi ≤ w.heap.size) :
    Calls Tryz.prog 11 #[v, .int .i64 k] w fun e w' => e = .returned (.int .i64 (k + n)) ∧ Below w.heap.size w w' := by
  obtain ⟨A, c, rfl, hc, h⟩ := strs_rd h
  rw [strsMark_len] at hc ⊢
  have HR := Lib.hid h
  clear h
  go_enter Tryz.func11, Tryz.ntmps11
  go_wp2
  go_loopw [1, 5] (fun kv iv wr => ∃ i : Nat, i ≤ n ∧ iv = .int .i64 i ∧ kv = .int .i64 (k + i) ∧ Below w.heap.size w wr) (fun _ iv _ => n - (intOf iv).toNat)
  case atStart => exact ⟨0, Nat.zero_le _, rfl, val_int (by simp), Below.refl _ _⟩
  case round =>
    obtain ⟨i, hi', rfl, rfl, hw⟩ := hrel
    by_cases hin : i < n
    · obtain ⟨b, off, rfl, hbl, c0⟩ := HR.out i _ (strsMark_at k n i hin)
      have hbw : b < wr.heap.size := by have := hw.size; omega
      have hc := (hw.cell (p := ⟨b, off + i, none⟩) (show b < w.heap.size by omega)).trans c0
      have g1 : (i : Int) < (n : Int) := by omega
      have g2 : 0 ≤ (i : Int) := by omega
      have g3 : ((i : Nat) : Int).toNat = i := by omega
      clear c0
      go_upto_region 4 with (fail)
      go_cut [18] (fun cv wx => cv = .bool false ∧ Below wr.heap.size wr wx)
      case first =>
        go_region_with ((go_at_call 17; refine (markText_any (k + i) _ (by omega) (by omega)).mono ?_; rintro e w2 ⟨rfl, hb2⟩; have c2 := (hb2.cell (p := ⟨b, off + i, none⟩) hbw).trans hc))
        all_goals
          go_wp2_with fail
          go_meet
          exact ⟨by simp, (Below.refl wr.heap.size wr).drew.trans hb2⟩
      case rest =>
        obtain ⟨rfl, hb3⟩ := hcut
        go_wp2
        go_roundw
        case rel => exact ⟨i + 1, by omega, by go_num, val_int (by omega), hw.trans (hb3.mono hw.size)⟩
        case measure => simp [intOf] <;> omega
    · obtain rfl : i = n := by omega
      go_wp2
      go_ret
      exact ⟨rfl, hw⟩
end Go.Proofs.YtiolebpoofkpmaaGreatDoor
set_option linter.unusedVariables false
namespace Go.Proofs.YtiolebpoofkpmaaGreatDoor
open Go.ChangeShapes Go.WideShapes Go.ChangeAt Go.RowKit

/-- a row of structs of the call's own, from block B on; it may be appended to -/
def owE {α : Type} (T : TypeId) (k : Nat) (enc : α → List Value) (B : Nat) (w : World) (v : Value) (l : List α) : Prop := w.ownsRow B T k v l.length (l.flatMap enc)
section
variable {α : Type} {T : TypeId} {k B B' : Nat} {enc : α → List Value} {w w' : World} {v : Value} {l : List α}
set_option maxRecDepth 100000 in
theorem owE_none (T : TypeId) (k B : Nat) (enc : α → List Value) (w : World) : owE T k enc B w (.slice none 0 0) [] := ⟨by simp, Or.inl ⟨rfl, rfl⟩⟩
set_option maxRecDepth 100000 in
theorem owE.form (h : owE T k enc B w v l) : ∃ A c, v = .slice A l.length c ∧ l.length ≤ c := by
  rcases h.2 with ⟨rfl, h0⟩ | ⟨g, cap, cur, rfl, hB, hg, h1, _⟩
  · exact ⟨none, 0, by rw [h0], by omega⟩
  · exact ⟨_, cap, rfl, h1⟩
set_option maxRecDepth 100000 in
theorem owE.lt (h : owE T k enc B w v l) : ∀ g, v.ownBlock = some g → B ≤ g ∧ g < w.heap.size := World.ownsRow.lt h
set_option maxRecDepth 100000 in
theorem owE.keep (h : owE T k enc B w v l) (hk : ∀ g, v.ownBlock = some g → w'.heap[g]? = w.heap[g]?) : owE T k enc B w' v l := by
  refine ⟨h.1, ?_⟩
  rcases h.2 with hn | ⟨g, cap, cur, rfl, hB, hg, rest⟩
  · exact .inl hn
  · exact .inr ⟨g, cap, cur, rfl, hB, (hk g rfl).trans hg, rest⟩
set_option maxRecDepth 100000 in
theorem owE.below {C : Nat} (h : owE T k enc B w v l) (hb : Below C w w') (hC : w.heap.size ≤ C) : owE T k enc B w' v l := h.keep fun g hg => hb.block g (by have := (h.lt g hg).2; omega)
set_option maxRecDepth 100000 in
theorem owE.alloc (h : owE T k enc B w v l) (o : Obj) : owE T k enc B (w.alloc o) v l := World.ownsRow.alloc h o
set_option maxRecDepth 100000 in
theorem owE.set (h : owE T k enc B w v l) {b : Nat} (hb : v.ownBlock ≠ some b) (o : Nat) (x : Value) : owE T k enc B (w.setCell ⟨b, o, none⟩ x) v l := h.keep fun g hg => Below.heap_setCell _ _ _ _ (show g ≠ b from fun e => hb (by rw [hg, e]))
set_option maxRecDepth 100000 in
theorem owE.mono (h : owE T k enc B w v l) (hB : B' ≤ B) : owE T k enc B' w v l := World.ownsRow.mono h hB
set_option maxRecDepth 100000 in
theorem flat_at (hk : ∀ x, (enc x).length = k) : ∀ (l : List α) (j : Nat) (x : α), l[j]? = some x → ∀ t u, (enc x)[t]? = some u → (l.flatMap enc)[j * k + t]? = some u := by
  intro l
  induction l with
  | nil => intro j x h; simp at h
  | cons y l ih =>
    intro j x h t u hu
    rw [List.flatMap_cons]
    cases j with
    | zero =>
      simp only [List.getElem?_cons_zero, Option.some.injEq] at h
      subst h
      rw [Nat.zero_mul, Nat.zero_add, List.getElem?_append_left (List.getElem?_eq_some_iff.1 hu).1]
      exact hu
    | succ j =>
      have := ih j x (by simpa using h) t u hu
      rw [List.getElem?_append_right (by rw [hk, Nat.add_mul]; omega), hk, Nat.add_mul]
      rwa [show j * k + 1 * k + t - k = j * k + t by omega]
set_option maxRecDepth 100000 in
/-- the row's elements lie in one block that may be written -/
theorem owE.filled (h : owE T k enc B w v l) (hk : ∀ x, (enc x).length = k) (d : α) : (l = [] ∧ ∃ A c, v = .slice A 0 c) ∨ ∃ b c, v = .slice (some ⟨b, 0, none⟩) l.length c ∧ l.length ≤ c ∧ B ≤ b ∧ b < w.heap.size ∧ Proofs.YtiolebpoofkpmaaGreatDoor.filled w b 0 k l.length l.length fun j => enc (l.getD j d) := by
  have hlen := h.1
  rcases h.2 with ⟨rfl, h0⟩ | ⟨g, cap, cur, rfl, hB, hg, h1, h2, h3, h4⟩
  · exact .inl ⟨List.eq_nil_of_length_eq_zero h0, none, 0, rfl⟩
  · refine .inr ⟨g, cap, rfl, h1, hB, (Array.getElem?_eq_some_iff.1 hg).1, ?_⟩
    have hh : w.ownsRow B T k (.slice (some ⟨g, 0, none⟩) l.length cap) l.length (l.flatMap enc) := h
    refine ⟨fun t ht => ?_, fun j hj t u hu => ?_⟩
    · rw [Nat.zero_add]
      refine ⟨?_, hh.frozenAt t⟩
      rw [hh.cellAt t ht]
      exact ⟨_, List.getElem?_eq_getElem (by rw [hlen]; exact ht)⟩
    · have hx : l[j]? = some l[j] := List.getElem?_eq_getElem hj
      have hd : l.getD j d = l[j] := by rw [List.getD_eq_getElem?_getD, hx]; rfl
      simp only [hd] at hu
      have htk : t < k := by rw [← hk l[j]]; exact (List.getElem?_eq_some_iff.1 hu).1
      have hjk := mul_step (k := k) hj
      rw [Nat.zero_add, hh.cellAt (j * k + t) (by omega)]
      exact flat_at hk l j _ hx t u hu
end
set_option maxRecDepth 100000 in
/-- append(s, T{..}) onto a row of the call's own -/
theorem app_elem {P : Program} {ops : Array Oper} {rest : List Oper} {o : Oper} {a : Act} {Q : Exit → Act → World → Prop} {α : Type} (enc : α → List Value) (k : Nat) (hk : ∀ x, (enc x).length = k) (hk0 : 0 < k) (hone : ∀ x, ∀ u ∈ enc x, u.oneCell' = true)
    (t e : TypeId) (zs : Array Value) (bytes : Nat) (ht : P.underlying t = some (.slice e)) (hinfo : (P.info? e).map (fun i => (i.zero.map (·.cells), i.size, i.bytes)) = some (some zs, k, bytes)) (hzs : zs.size = k)
    (s x : Operand) (hgd : o.guard = none) (ho : o.op = .call { callee := .builtin .append, args := #[s, x], argTypes := #[t, t] })
    (base : Nat) (W : World) (v : Value) (l : List α) (y : α) (n : Nat) (us : Array Value) (hus : us.toList = enc y) (hs : a.eval s = v) (hx : a.eval x = .slice (some ⟨n, 0, none⟩) 1 1) (hn : n = W.heap.size)
    (hown : owE e k enc base W v l) (h63 : l.length + 1 ≤ maxLen) (hbytes : (l.length + 1) * bytes ≤ 140737488355328) (hbase : base ≤ W.heap.size)
    (h : ∀ A c w', owE e k enc base w' (.slice A (l.length + 1) c) (l ++ [y]) → l.length + 1 ≤ c → (W.alloc (.cells us e)).grownBy w' v.ownBlock → ((Value.slice A (l.length + 1) c).ownBlock = v.ownBlock ∨ (Value.slice A (l.length + 1) c).ownBlock = some (W.heap.size + 1)) → wpList P ops Q rest (a.put o.dst (.slice A (l.length + 1) c)) w') : wpList P ops Q (o :: rest) a (W.alloc (.cells us e)) := by
  subst hn
  obtain ⟨i, hi, hxx⟩ := Option.map_eq_some_iff.1 hinfo
  simp only [Prod.mk.injEq] at hxx
  obtain ⟨hz, hsize, hby⟩ := hxx
  obtain ⟨z, hzz, hzc⟩ := Option.map_eq_some_iff.1 hz
  refine wpList_append_own_at _ hgd s x t ho base e i z k bytes ht hi hzz hsize hby (by rw [hzc, hzs]) hk0 v l.length (l.flatMap enc) hs (World.ownsRow.alloc hown _) ⟨W.heap.size, 0, none⟩ 1 1 (enc y) hx (by rw [hk]; omega) ?_ (hone y) h63 hbytes (by simp; omega) ?_
  · intro j u hu
    have e1 : (⟨W.heap.size, 0, none⟩ : Addr).add j = ⟨W.heap.size, j, none⟩ := by
      unfold Addr.add
      split
      · next h0 => rw [h0]
      · simp
    rw [e1, cell_of_row _ _ j us e (0, 0) (heap_alloc_new _ _), ← Array.getElem?_toList, hus]
    exact hu
  · intro v' w1 hown' hgrow _ hlies
    have ho' : owE e k enc base w1 v' (l ++ [y]) := by
      unfold owE
      rw [List.length_append, List.flatMap_append]
      simpa using hown'
    obtain ⟨A, c, rfl, hc⟩ := ho'.form
    rw [List.length_append] at ho' hc hlies ⊢
    exact h A c w1 ho' hc hgrow (by simpa using hlies)
set_option maxRecDepth 100000 in
theorem ow.from {T : TypeId} {K : IntKind} {B : Nat} {w : World} {v : Value} {L : List Int} (h : ow T K B w v L) : ∀ g, v.ownBlock = some g → B ≤ g := fun g hg => (World.ownsRow.lt h g hg).1
set_option maxRecDepth 100000 in
theorem rd.at {K : IntKind} {hi : Nat} {w : World} {A : Option Addr} {n c : Nat} {l : List Int} (h : rd K hi w (.slice A n c) l) {j : Nat} {x : Int} (hx : l[j]? = some x) : ∃ b off : Nat, A = some ⟨b, off, none⟩ ∧ b < hi ∧ w.cell? ⟨b, off + j, none⟩ = some (.int K x) := by
  obtain ⟨A', c', hv, hc, hj⟩ := h
  obtain ⟨b, off, e, hb, hcell⟩ := hj j (List.getElem?_eq_some_iff.1 hx).1
  simp only [Value.slice.injEq] at hv
  rw [List.getD_eq_getElem?_getD, hx] at hcell
  exact ⟨b, off, by rw [hv.1]; exact e, hb, hcell⟩
/-- numbers as such rows -/
def iCells (z : Int) : List Value := [.int .i64 z]
set_option maxRecDepth 100000 in
theorem iCells_one (x : Int) : ∀ u ∈ iCells x, u.oneCell' = true := by
  intro u hu
  simp only [iCells, List.mem_cons, List.not_mem_nil, or_false] at hu
  subst hu; rfl
set_option maxRecDepth 100000 in
theorem flat_map {α β : Type} (f : α → β) (l : List α) : (l.flatMap fun x => [f x]) = l.map f := by
  induction l with
  | nil => rfl
  | cons x l ih => rw [List.flatMap_cons, ih]; rfl
set_option maxRecDepth 100000 in
theorem owE.ints {T : TypeId} {B : Nat} {w : World} {v : Value} {l : List Int} (h : owE T 1 iCells B w v l) : ow T .i64 B w v l := by
  unfold owE at h
  rw [show l.flatMap iCells = l.map (Value.int .i64) from flat_map _ _] at h
  exact h
set_option maxRecDepth 100000 in
theorem owE_empty {α : Type} (T : TypeId) (k B : Nat) (enc : α → List Value) (w : World) (hB : B ≤ w.heap.size) : owE T k enc B (w.alloc (.cells #[] T)) (.slice (some ⟨w.heap.size, 0, none⟩) 0 0) [] :=
  ⟨by simp, Or.inr ⟨w.heap.size, 0, #[], rfl, hB, heap_alloc_new _ _, Nat.le_refl _, Nat.zero_le _, by simp, by simp⟩⟩
set_option maxRecDepth 100000 in
theorem owE.grown {α : Type} {T : TypeId} {k B : Nat} {enc : α → List Value} {w w' : World} {v : Value} {l : List α} {row : Option Nat} (h : owE T k enc B w v l) (hg : w.grownBy w' row) (hr : ∀ g, v.ownBlock = some g → row ≠ some g) : owE T k enc B w' v l :=
  h.keep fun g hg' => hg.block g (h.lt g hg').2 (fun e => hr g hg' e.symm)
end Go.Proofs.YtiolebpoofkpmaaGreatDoor
set_option linter.unusedVariables false
namespace Go.Proofs.YtiolebpoofkpmaaGreatDoor
open Go.ChangeShapes Go.WideShapes Go.ChangeAt Go.RowKit
open Go.Sort (Holds putRow)

abbrev leS (x y : List UInt8) : Bool := decide (x ≤ y)
set_option maxRecDepth 100000 in
theorem sort_one (a : List UInt8) : [a].mergeSort leS = [a] := by simp
set_option maxRecDepth 100000 in
theorem sort_two {a b : List UInt8} (h : a ≤ b) : [a, b].mergeSort leS = [a, b] := by
  first
  | exact List.mergeSort_of_pairwise (by simp [leS, h])
  | exact List.mergeSort_of_sorted (by simp [leS, h])
set_option maxRecDepth 100000 in
theorem sort_swap {a b : List UInt8} (h : b ≤ a) : [a, b].mergeSort leS = [b, a] := by
  have := Go.mergeSort_of_perm (List.Perm.swap b a [])
  exact this.trans (sort_two h)
set_option maxRecDepth 100000 in
theorem comp_one (a : List UInt8) : Lib.compact [a] = [a] := by simp [Lib.compact, Lib.compactUpTo, Lib.keeps]
set_option maxRecDepth 100000 in
theorem comp_same (a : List UInt8) : Lib.compact [a, a] = [a] := by simp [Lib.compact, Lib.compactUpTo, Lib.keeps, List.range_succ]
set_option maxRecDepth 100000 in
theorem comp_two {a b : List UInt8} (h : a ≠ b) : Lib.compact [a, b] = [a, b] := by
  have h2 : b ≠ a := fun e => h e.symm
  simp [Lib.compact, Lib.compactUpTo, Lib.keeps, List.range_succ, h2]
set_option maxRecDepth 100000 in
theorem holds_cells {w : World} {g : Nat} {zs : List (List UInt8)} (h : Holds encStr w g 0 zs.toArray) {j : Nat} {x : List UInt8} (hx : zs[j]? = some x) : w.cell? ⟨g, j, none⟩ = some (.string ⟨x.toArray⟩) ∧ w.frozen? ⟨g, j, none⟩ = false := by
  have hj := (List.getElem?_eq_some_iff.1 hx).1
  obtain ⟨h1, h2⟩ := h j (by simpa using hj)
  rw [Nat.zero_add] at h1 h2
  refine ⟨?_, h2⟩
  rw [h1]
  have : zs.toArray[j]! = x := by
    rw [getElem!_pos zs.toArray j (by simpa using hj)]
    simpa using (List.getElem?_eq_some_iff.1 hx).2
  rw [this]
set_option maxRecDepth 100000 in
theorem holds_of_bk {w : World} {g : Nat} {T : TypeId} {zs : List (List UInt8)} (h : bk w g T (zs.map fun x => .string ⟨x.toArray⟩)) : Holds encStr w g 0 zs.toArray := fun j hj => by
  have hj' : j < zs.length := by simpa using hj
  rw [Nat.zero_add]
  refine ⟨?_, h.frozen j⟩
  rw [h.cell j, List.getElem?_map, List.getElem?_eq_getElem hj']
  rw [getElem!_pos zs.toArray j (by simpa using hj')]
  simp [encStr]
set_option maxRecDepth 100000 in
theorem sortS_any (g n cap : Nat) (ss : List (List UInt8)) (w : World) (hn : n = ss.length) (hlt : g < w.heap.size) (h : Holds encStr w g 0 ss.toArray) (hs : n ≤ 1000) :
    Calls Tryz.prog 36 #[.slice (some ⟨g, 0, none⟩) n cap] w fun e w' => e = .returned (.tuple #[]) ∧ Holds encStr w' g 0 (ss.mergeSort leS).toArray ∧ Turned g (g + 1) w w' := by
  subst hn
  refine (Tryz.slices_Sort_string g 0 cap ss w h hlt (by omega)).mono ?_
  rintro e w' ⟨rfl, nn, os, rfl⟩
  refine ⟨rfl, Go.Sort.holds_grow encStr _ os g 0 _ (by simpa [putRow, Go.Sort.mapBlock, Go.Sort.ahead] using hlt) (Go.Sort.holds_putRow encStr _ g 0 _ _ (Go.Sort.holds_ahead encStr w nn g 0 _ h) (by simp)), Turned.of_grown (Go.grownBy_sorted _) fun b hb => by cases hb; omega⟩
set_option maxRecDepth 100000 in
theorem compS_any (g n cap : Nat) (zs : List (List UInt8)) (w : World) (hn : n = zs.length) (hc : n ≤ cap) (h : Holds encStr w g 0 zs.toArray) (hs : n ≤ 1000) :
    Calls Tryz.prog 37 #[.slice (some ⟨g, 0, none⟩) n cap] w fun e w' => e = .returned (.slice (some ⟨g, 0, none⟩) (Lib.compact zs).length cap) ∧ Holds encStr w' g 0 (Lib.compact zs ++ List.replicate (zs.length - (Lib.compact zs).length) []).toArray ∧ Turned g (g + 1) w w' := by
  subst hn
  refine (Tryz.slices_Compact_string g 0 cap zs w h (by omega) hc).mono ?_
  rintro e w' ⟨rfl, q, rfl⟩
  have hle := Lib.compact_length_le zs
  have hg := Go.grownBy_sorted (w := w) (g := g) (n := q) (os := #[]) (Lib.compact zs ++ List.replicate (zs.length - (Lib.compact zs).length) []).toArray
  rw [Go.Sort.grow_empty] at hg
  exact ⟨rfl, Go.Sort.holds_putRow encStr _ g 0 _ _ (Go.Sort.holds_ahead encStr w q g 0 _ h) (by simp; omega), Turned.of_grown hg fun b hb => by cases hb; omega⟩
end Go.Proofs.YtiolebpoofkpmaaGreatDoor
set_option linter.unusedVariables false
namespace Go.Proofs.YtiolebpoofkpmaaGreatDoor
open Go.ChangeShapes Go.WideShapes Go.ChangeAt Go.RowKit

abbrev FieldD := Int × ByteArray
abbrev MsgD := ByteArray × List FieldD
def noF : FieldD := (0, ⟨#[]⟩)
def FieldR : Rep FieldD := Rep.pair (Rep.int .i64) Rep.str
def FieldsR : Rep (List FieldD) := FieldR.slice
def fCells (x : FieldD) : List Value := [.int .i64 x.1, .string x.2]
set_option maxRecDepth 100000 in
theorem field_rd {hi : Nat} {w : World} {cs : List Value} {x : FieldD} : FieldR.rd hi w cs x ↔ cs = fCells x := by
  constructor
  · rintro ⟨a, b, rfl, rfl, rfl⟩; rfl
  · rintro rfl; exact ⟨[_], [_], rfl, rfl, rfl⟩
set_option maxRecDepth 100000 in
theorem field_own {w : World} {cs : List Value} {x : FieldD} {F : List Nat} : FieldR.own w cs x F ↔ cs = fCells x ∧ F = [] := by
  constructor
  · rintro ⟨a, b, G, H, rfl, rfl, ⟨rfl, rfl⟩, ⟨rfl, rfl⟩⟩; exact ⟨rfl, rfl⟩
  · rintro ⟨rfl, rfl⟩; exact ⟨[_], [_], [], [], rfl, rfl, ⟨rfl, rfl⟩, ⟨rfl, rfl⟩⟩
set_option maxRecDepth 100000 in
/-- a slice of fields: its value and its cells -/
theorem fields_rd {hi : Nat} {w : World} {v : Value} {l : List FieldD} (h : FieldsR.rd hi w [v] l) :
    ∃ A c, v = .slice A l.length c ∧ l.length ≤ c ∧ ∀ j x, l[j]? = some x → ∃ b off, A = some ⟨b, off, none⟩ ∧ b < hi ∧ w.cell? ⟨b, off + j * 2, none⟩ = some (.int .i64 x.1) ∧ w.cell? ⟨b, off + j * 2 + 1, none⟩ = some (.string x.2) := by
  obtain ⟨A, c, hv, hc, hj⟩ := h
  simp only [List.cons.injEq, and_true] at hv
  refine ⟨A, c, hv, hc, fun j x hx => ?_⟩
  obtain ⟨b, off, xs, hA, hb, hr, ha⟩ := hj j x hx
  rw [field_rd] at hr
  subst hr
  exact ⟨b, off, hA, hb, ha 0 _ rfl, ha 1 _ rfl⟩
set_option maxRecDepth 100000 in
/-- a row of fields in one block of one's own -/
theorem fields_mine {lo hi : Nat} {w : World} {b off c n : Nat} {l : List FieldD} (hn : n = l.length) (hc : n ≤ c) (h1 : lo ≤ b) (h2 : b < hi) (h : filled w b off 2 n n fun j => fCells (l.getD j (0, ⟨#[]⟩))) : FieldsR.mine lo hi w [.slice (some ⟨b, off, none⟩) n c] l := by
  subst hn
  refine ⟨b :: List.flatten (l.map fun _ => []), ⟨some ⟨b, off, none⟩, c, rfl, hc, .inr ⟨b, off, _, rfl, rfl, by simp, fun j x G hx hG => ?_⟩⟩, ?_, ?_⟩
  · have hj := (List.getElem?_eq_some_iff.1 hx).1
    have hG' : G = [] := by rw [List.getElem?_map, hx] at hG; simpa using hG.symm
    subst hG'
    have hx' : l.getD j (0, ⟨#[]⟩) = x := by rw [List.getD_eq_getElem?_getD, hx]; rfl
    have ha := h.at_ j hj
    rw [hx'] at ha
    exact ⟨_, field_own.2 ⟨rfl, rfl⟩, ha, fun t ht => (h.cells hj t ht).2⟩
  · have : List.flatten (l.map fun _ => ([] : List Nat)) = [] := by simp
    rw [this]; simp
  · have : List.flatten (l.map fun _ => ([] : List Nat)) = [] := by simp
    rw [this]
    intro b' hb'
    rw [List.mem_singleton.1 hb']
    exact ⟨h1, h2⟩

set_option maxRecDepth 100000 in
theorem bcell {W w1 : World} (hb : Below W.heap.size W w1) : (∀ b o, b < W.heap.size → w1.cell? ⟨b, o, none⟩ = W.cell? ⟨b, o, none⟩) ∧ (∀ b o, b < W.heap.size → w1.frozen? ⟨b, o, none⟩ = W.frozen? ⟨b, o, none⟩) :=
  ⟨fun b o h => hb.cell (p := ⟨b, o, none⟩) h, fun b o h => hb.frozen (p := ⟨b, o, none⟩) h⟩
set_option maxRecDepth 100000 in
theorem infoField : (Tryz.prog.info? 48).map (fun i => (i.zero.map (·.cells), i.size, i.bytes)) = some (some #[.int .i64 0, .string ⟨#[]⟩], 2, 24) := by kernel_rfl
set_option maxRecDepth 100000 in
theorem getD_of {α : Type} {l : List α} {j : Nat} {x d : α} (h : l[j]? = some x) : l.getD j d = x := by rw [List.getD_eq_getElem?_getD, h]; rfl
end Go.Proofs.YtiolebpoofkpmaaGreatDoor
set_option linter.unusedVariables false
namespace Go.Proofs.YtiolebpoofkpmaaGreatDoor
open Go.ChangeShapes Go.WideShapes Go.ChangeAt Go.RowKit

structure ReqD where
  op : Int
  acct : ByteArray
  other : ByteArray
  hold : ByteArray
  trace : ByteArray
  mti : ByteArray
  amount : Int
  ttl : Int
deriving DecidableEq
def qCells (q : ReqD) : List Value := [.int .i64 q.op, .string q.acct, .string q.other, .string q.hold, .string q.trace, .string q.mti, .int .i64 q.amount, .int .i64 q.ttl]
def qV (q : ReqD) : Value := .agg (qCells q).toArray
def noQ : ReqD := ⟨0, ⟨#[]⟩, ⟨#[]⟩, ⟨#[]⟩, ⟨#[]⟩, ⟨#[]⟩, 0, 0⟩
/-- no text is longer than n, the numbers are 64 bits wide -/
structure qBig (q : ReqD) : Prop where
  acct : q.acct.size ≤ maxLen
  other : q.other.size ≤ maxLen
  hold : q.hold.size ≤ maxLen
  trace : q.trace.size ≤ maxLen
  mti : q.mti.size ≤ maxLen
set_option maxRecDepth 100000 in
theorem bk.eight {w : World} {g : Nat} {t : TypeId} {a b c d e f i j : Value} (h : bk w g t [a, b, c, d, e, f, i, j]) :
    (w.cell? ⟨g, 0, none⟩ = some a ∧ w.cell? ⟨g, 1, none⟩ = some b ∧ w.cell? ⟨g, 2, none⟩ = some c ∧ w.cell? ⟨g, 3, none⟩ = some d ∧ w.cell? ⟨g, 4, none⟩ = some e ∧ w.cell? ⟨g, 5, none⟩ = some f ∧ w.cell? ⟨g, 6, none⟩ = some i ∧ w.cell? ⟨g, 7, none⟩ = some j) ∧ (∀ k, w.frozen? ⟨g, k, none⟩ = false) :=
  ⟨⟨h.cell 0, h.cell 1, h.cell 2, h.cell 3, h.cell 4, h.cell 5, h.cell 6, h.cell 7⟩, fun k => h.frozen k⟩
/-- which fields an operation uses -/
def holdU (op : Int) : Bool := isOp op && decide (op < 7)
def amtU (op : Int) : Bool := decide (1 ≤ op ∧ op ≤ 4)
set_option maxRecDepth 100000 in
theorem l11Hold_any (op : Int) (w : World) : Calls Tryz.prog 25 #[.int .i64 op] w fun e w' => e = .returned (.bool (holdU op)) ∧ w = w' := by
  have HI := Lib.hid (l11Op_any op)
  have HH : Hid (holdU op = (isOp op && decide (op < 7))) := Lib.hid rfl
  generalize holdU op = r at HH
  generalize isOp op = b at HI HH
  rw [HH.out]
  cases b
  all_goals go_enter Tryz.func25, Tryz.ntmps25
  all_goals go_wp2_with fail
  all_goals refine (HI.out _).mono ?_
  all_goals rintro e w1 ⟨rfl, rfl⟩
  all_goals go_wp2
  all_goals go_ret
  all_goals exact ⟨by first | rfl | (refine congrArg (fun b => Ending.returned (.bool b)) ?_; simp), rfl⟩
set_option maxRecDepth 100000 in
theorem l11Amount_any (op : Int) (w : World) : Calls Tryz.prog 27 #[.int .i64 op] w fun e w' => e = .returned (.bool (amtU op)) ∧ w = w' := by
  have HI := Lib.hid (specIn_any op 1 4)
  go_enter Tryz.func27, Tryz.ntmps27
  go_wp2_with fail
  refine (HI.out _).mono ?_
  rintro e w1 ⟨rfl, rfl⟩
  go_wp2
  go_ret
  exact ⟨congrArg (fun b => Ending.returned (.bool b)) (by simp [amtU]), rfl⟩

end Go.Proofs.YtiolebpoofkpmaaGreatDoor
set_option linter.unusedVariables false
namespace Go.Proofs.YtiolebpoofkpmaaGreatDoor
open Go.ChangeShapes Go.WideShapes Go.ChangeAt Go.RowKit
open Go.Sort (Holds putRow)

/-- the accounts that a request names, in order, none twice -/
def namesL (q : ReqD) : List ByteArray := if q.op ≠ 6 ∨ q.other = q.acct then [q.acct] else if Op.bytesLess q.other.toList q.acct.toList = true then [q.other, q.acct] else [q.acct, q.other]
def strsOne (l : List ByteArray) (w : World) (e : Ending) (w' : World) : Prop := ∃ u, e = .returned u ∧ StrsR.mine w.heap.size w'.heap.size w' [u] l ∧ Below w.heap.size w w'
set_option maxRecDepth 100000 in
theorem names_eq {a b : ByteArray} (h : a.toList = b.toList) : a = b := by
  rw [ByteArray.toList_eq, ByteArray.toList_eq] at h
  exact ByteArray.ext (Array.toList_inj.1 h)
set_option maxRecDepth 100000 in
theorem enc_data (a : ByteArray) : encStr a.toList = .string a := by
  show Value.string ⟨a.toList.toArray⟩ = _
  rw [ByteArray.toList_eq]
set_option maxRecDepth 100000 in
theorem holds_one (V : World) (T : TypeId) (a : ByteArray) : Holds encStr (V.alloc (.cells #[.string a] T)) V.heap.size 0 [a.toList].toArray := by
  have := holds_of_bk (zs := [a.toList]) (w := V.alloc (.cells #[.string a] T)) (g := V.heap.size) (T := T)
  refine this ?_
  have h := bk.new V T [.string a]
  have e := enc_data a
  simp only [encStr] at e
  simpa [e] using h
set_option maxRecDepth 100000 in
theorem holds_two (V : World) (T : TypeId) (a b : ByteArray) (X : Array Value) (g : Nat) (hg : g = V.heap.size) : Holds encStr (V.alloc (.cells (#[.string a, .string b] ++ X) T)).drew g 0 [a.toList, b.toList].toArray := by
  subst hg
  have h := (bk.new V T ([.string a, .string b] ++ X.toList)).drew
  have e1 := enc_data a
  have e2 := enc_data b
  have hX : (([.string a, .string b] ++ X.toList : List Value)).toArray = #[.string a, .string b] ++ X := by
    apply Array.ext'
    simp
  rw [hX] at h
  intro j hj
  rw [Nat.zero_add]
  refine ⟨?_, h.frozen j⟩
  rw [h.cell j]
  have hj' : j = 0 ∨ j = 1 := by simp at hj; omega
  rcases hj' with rfl | rfl
  · simpa using e1.symm
  · simpa using e2.symm
set_option maxRecDepth 100000 in
theorem names_end {w : World} {g cap lo : Nat} {C R : List (List UInt8)} {l : List ByteArray} (h : Holds encStr w g 0 (C ++ R).toArray) (hl : C = l.map (·.toList)) (hc : C.length ≤ cap) (h1 : lo ≤ g) (h2 : g < w.heap.size) : StrsR.mine lo w.heap.size w [.slice (some ⟨g, 0, none⟩) C.length cap] l := by
  subst hl
  rw [List.length_map] at hc ⊢
  refine strs_mine_of hc h1 h2 fun j x hx => ?_
  rw [Nat.zero_add]
  have := holds_cells h (j := j) (x := x.toList) (by rw [List.getElem?_append_left (by rw [List.length_map]; exact (List.getElem?_eq_some_iff.1 hx).1), List.getElem?_map, hx]; rfl)
  have e := enc_data x
  simp only [encStr] at e
  rwa [e] at this
set_option maxRecDepth 100000 in
theorem names_le {a b : ByteArray} (h : Op.bytesLess b.toList a.toList = false) : a.toList ≤ b.toList := by
  rw [bytesLess_eq] at h
  simpa using h
set_option maxRecDepth 100000 in
theorem names_lt {a b : ByteArray} (h : Op.bytesLess b.toList a.toList = true) : b.toList ≤ a.toList := by
  rw [bytesLess_eq] at h
  exact List.le_of_lt (by simpa using h)
set_option maxRecDepth 100000 in
set_option maxHeartbeats 1000000 in
theorem implNames_any (q : ReqD) (w : World) : Calls Tryz.prog 16 #[qV q] w (strsOne (namesL q) w) := by
  obtain ⟨op, ac, ot, hd, tr, mi, am, tt⟩ := q
  simp only [qV, qCells]
  have HB : Hid (∀ o o' o'' o3 W, Below w.heap.size w W → Below w.heap.size w (W.alloc o) ∧ Below w.heap.size w ((W.alloc o).alloc o') ∧ Below w.heap.size w ((((W.alloc o).alloc o').alloc o'').alloc o3).drew) := Lib.hid fun o o' o'' o3 W h => by
    have z := h.size
    have h1 := h.alloc z o
    have h2 := h1.alloc (by simp; omega) o'
    have h3 := h2.alloc (by simp; omega) o''
    exact ⟨h1, h2, (h3.alloc (by simp; omega) o3).drew⟩
  by_cases h6 : op = 6
  · subst h6
    have HS : Hid ([ac.toList, ot.toList].mergeSort leS = [ac.toList, ot.toList] ∧ Lib.compact [ac.toList, ot.toList] = (namesL ⟨6, ac, ot, hd, tr, mi, am, tt⟩).map (·.toList) ∨ [ac.toList, ot.toList].mergeSort leS = [ot.toList, ac.toList] ∧ Lib.compact [ot.toList, ac.toList] = (namesL ⟨6, ac, ot, hd, tr, mi, am, tt⟩).map (·.toList)) := Lib.hid (by
      by_cases he : ot = ac
      · subst he
        exact .inl ⟨sort_two (List.le_refl _), by rw [comp_same]; simp [namesL]⟩
      · have hne : ot.toList ≠ ac.toList := fun e => he (names_eq e)
        cases hb : Op.bytesLess ot.toList ac.toList
        · exact .inl ⟨sort_two (names_le hb), by rw [comp_two hne.symm]; simp [namesL, he, hb]⟩
        · exact .inr ⟨sort_swap (names_lt hb), by rw [comp_two hne]; simp [namesL, he, hb]⟩)
    generalize namesL ⟨6, ac, ot, hd, tr, mi, am, tt⟩ = NL at HS ⊢
    go_enter Tryz.func16, Tryz.ntmps16
    go_wp2_with fail
    have hcap : 2 ≤ (Question.appendCap 2 1 9).cut (w.tape w.drawn (Question.appendCap 2 1 9)) := grownCap_ge w 2 1 9
    generalize (Question.appendCap 2 1 9).cut (w.tape w.drawn (Question.appendCap 2 1 9)) = cp at hcap ⊢
    refine (sortS_any (w.heap.size + 1 + 1 + 1) 2 cp [ac.toList, ot.toList] _ rfl (by simp) (holds_two _ _ _ _ _ _ (by simp)) (by omega)).mono ?_
    rintro e w1 ⟨rfl, hh, ht⟩
    have HH : Hid (∃ x y, [ac.toList, ot.toList].mergeSort leS = [x, y] ∧ Lib.compact [x, y] = NL.map (·.toList)) := Lib.hid (by
      rcases HS.out with ⟨h1, h2⟩ | ⟨h1, h2⟩
      · exact ⟨_, _, h1, h2⟩
      · exact ⟨_, _, h1, h2⟩)
    obtain ⟨x, y, h1, h2⟩ := HH.out
    rw [h1] at hh
    have HK := Lib.hid hh
    have HT := Lib.hid ht
    have HC := Lib.hid h2
    clear hh ht HH HS h1 h2
    go_wp2_with fail
    refine (compS_any (w.heap.size + 1 + 1 + 1) 2 cp [x, y] w1 rfl hcap HK.out (by omega)).mono ?_
    rintro e w2 ⟨rfl, hh2, ht2⟩
    have HH2 := Lib.hid hh2
    have HT2 := Lib.hid ht2
    have hle := Lib.compact_length_le [x, y]
    clear hh2 ht2
    go_wp2
    go_ret
    have z1 := HT.out.size
    have z2 := HT2.out.size
    simp only [World.size_alloc, World.size_drew] at z1
    refine ⟨_, rfl, ?_, ?_⟩
    · exact names_end HH2.out HC.out (Nat.le_trans hle hcap) (by omega) (by omega)
    · exact (((HB.out _ _ _ _ w (Below.refl _ _)).2.2).trans ((HT.out.below (B := w.heap.size) (by omega) (by simp; omega)))).trans ((HT2.out.below (B := w.heap.size) (by omega) (by omega)))
  · have HV : Hid ([ac.toList] = (namesL ⟨op, ac, ot, hd, tr, mi, am, tt⟩).map (·.toList)) := Lib.hid (by simp [namesL, h6])
    generalize namesL ⟨op, ac, ot, hd, tr, mi, am, tt⟩ = NL at HV ⊢
    have g1 : (op == 6) = false := beq_eq_false_iff_ne.2 h6
    go_enter Tryz.func16, Tryz.ntmps16
    go_wp2_with fail
    refine (sortS_any (w.heap.size + 1) 1 1 [ac.toList] _ rfl (by simp) (by have := holds_one (w.alloc (.cells #[.int .i64 op, .string ac, .string ot, .string hd, .string tr, .string mi, .int .i64 am, .int .i64 tt] 37)) 9 ac; simpa using this) (by omega)).mono ?_
    rintro e w1 ⟨rfl, hh, ht⟩
    rw [sort_one] at hh
    have HH := Lib.hid hh
    have HT := Lib.hid ht
    clear hh ht
    go_wp2_with fail
    refine (compS_any (w.heap.size + 1) 1 1 [ac.toList] w1 rfl (Nat.le_refl _) HH.out (by omega)).mono ?_
    rw [comp_one]
    rintro e w2 ⟨rfl, hh2, ht2⟩
    have HH2 := Lib.hid hh2
    have HT2 := Lib.hid ht2
    clear hh2 ht2
    go_wp2
    go_ret
    have z1 := HT.out.size
    have z2 := HT2.out.size
    simp only [World.size_alloc] at z1
    refine ⟨_, rfl, ?_, ?_⟩
    · exact names_end HH2.out HV.out (Nat.le_refl _) (by omega) (by omega)
    · exact (((HB.out _ _ default default w (Below.refl _ _)).2.1).trans ((HT.out.below (B := w.heap.size) (by omega) (by simp; omega)))).trans ((HT2.out.below (B := w.heap.size) (by omega) (by omega)))
end Go.Proofs.YtiolebpoofkpmaaGreatDoor
