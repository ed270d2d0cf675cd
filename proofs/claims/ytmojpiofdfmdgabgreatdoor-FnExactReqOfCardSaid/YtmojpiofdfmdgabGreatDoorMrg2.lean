/- Fields and messages: their layout, and what the law package's helpers do with them; no conditions. -/
import Derived.Test.YtmojpiofdfmdgabGreatDoorMrg1
import Derived.Deep.RegionHeld3
import Derived.Laws.BytesArg
import Derived.RegionTactic
import Derived.Lib.LaidTab
import Derived.Stop.LaidErr
import Derived.OwnWalk
import Derived.Laws.AppendOwn
import Derived.Laws.Rows
set_option linter.unusedVariables false
namespace Go.Proofs.YtmojpiofdfmdgabGreatDoor
open Go.ChangeShapes Go.WideShapes Go.ChangeAt Go.RowKit

abbrev FieldD := Int × ByteArray
abbrev MsgD := ByteArray × List FieldD
def noF : FieldD := (0, ⟨#[]⟩)
def FieldR : Rep FieldD := Rep.pair (Rep.int .i64) Rep.str
def FieldsR : Rep (List FieldD) := FieldR.slice
def MsgR : Rep MsgD := Rep.pair Rep.str FieldsR
def fCells (x : FieldD) : List Value := [.int .i64 x.1, .string x.2]
set_option maxRecDepth 100000 in
theorem field_rd {hi : Nat} {w : World} {cs : List Value} {x : FieldD} : FieldR.rd hi w cs x ↔ cs = fCells x := by
  constructor
  · rintro ⟨a, b, rfl, rfl, rfl⟩; rfl
  · rintro rfl; exact ⟨[_], [_], rfl, rfl, rfl⟩
set_option maxRecDepth 100000 in
theorem field_own {w : World} {cs : List Value} {x : FieldD} {F : List Nat} : FieldR.own w cs x F ↔ cs = fCells x ∧ F = [] := by
  constructor
  · rintro ⟨a, b, G, H, rfl, rfl, ⟨rfl, rfl⟩, ⟨rfl, rfl⟩⟩; exact ⟨rfl, rfl⟩
  · rintro ⟨rfl, rfl⟩; exact ⟨[_], [_], [], [], rfl, rfl, ⟨rfl, rfl⟩, ⟨rfl, rfl⟩⟩
set_option maxRecDepth 100000 in
/-- a slice of fields: its value and its cells -/
theorem fields_rd {hi : Nat} {w : World} {v : Value} {l : List FieldD} (h : FieldsR.rd hi w [v] l) :
    ∃ A c, v = .slice A l.length c ∧ l.length ≤ c ∧ ∀ j x, l[j]? = some x → ∃ b off, A = some ⟨b, off, none⟩ ∧ b < hi ∧ w.cell? ⟨b, off + j * 2, none⟩ = some (.int .i64 x.1) ∧ w.cell? ⟨b, off + j * 2 + 1, none⟩ = some (.string x.2) := by
  obtain ⟨A, c, hv, hc, hj⟩ := h
  simp only [List.cons.injEq, and_true] at hv
  refine ⟨A, c, hv, hc, fun j x hx => ?_⟩
  obtain ⟨b, off, xs, hA, hb, hr, ha⟩ := hj j x hx
  rw [field_rd] at hr
  subst hr
  exact ⟨b, off, hA, hb, ha 0 _ rfl, ha 1 _ rfl⟩
set_option maxRecDepth 100000 in
/-- a row of fields in one block of one's own -/
theorem fields_mine {lo hi : Nat} {w : World} {b off c n : Nat} {l : List FieldD} (hn : n = l.length) (hc : n ≤ c) (h1 : lo ≤ b) (h2 : b < hi) (h : filled w b off 2 n n fun j => fCells (l.getD j (0, ⟨#[]⟩))) : FieldsR.mine lo hi w [.slice (some ⟨b, off, none⟩) n c] l := by
  subst hn
  refine ⟨b :: List.flatten (l.map fun _ => []), ⟨some ⟨b, off, none⟩, c, rfl, hc, .inr ⟨b, off, _, rfl, rfl, by simp, fun j x G hx hG => ?_⟩⟩, ?_, ?_⟩
  · have hj := (List.getElem?_eq_some_iff.1 hx).1
    have hG' : G = [] := by rw [List.getElem?_map, hx] at hG; simpa using hG.symm
    subst hG'
    have hx' : l.getD j (0, ⟨#[]⟩) = x := by rw [List.getD_eq_getElem?_getD, hx]; rfl
    have ha := h.at_ j hj
    rw [hx'] at ha
    exact ⟨_, field_own.2 ⟨rfl, rfl⟩, ha, fun t ht => (h.cells hj t ht).2⟩
  · have : List.flatten (l.map fun _ => ([] : List Nat)) = [] := by simp
    rw [this]; simp
  · have : List.flatten (l.map fun _ => ([] : List Nat)) = [] := by simp
    rw [this]
    intro b' hb'
    rw [List.mem_singleton.1 hb']
    exact ⟨h1, h2⟩

set_option maxRecDepth 100000 in
theorem below_drew (w : World) (B : Nat) : Below B w w.drew := ⟨rfl, rfl, rfl, Nat.le_refl _, fun _ _ => rfl⟩
set_option maxRecDepth 100000 in
theorem bcell {W w1 : World} (hb : Below W.heap.size W w1) : (∀ b o, b < W.heap.size → w1.cell? ⟨b, o, none⟩ = W.cell? ⟨b, o, none⟩) ∧ (∀ b o, b < W.heap.size → w1.frozen? ⟨b, o, none⟩ = W.frozen? ⟨b, o, none⟩) :=
  ⟨fun b o h => hb.cell (p := ⟨b, o, none⟩) h, fun b o h => hb.frozen (p := ⟨b, o, none⟩) h⟩
set_option maxRecDepth 100000 in
theorem toField_any (no : Int) (s : ByteArray) (w : World) :
    Calls Tryz.prog 50 #[.agg #[.int .i64 no, .string s]] w fun e w' => e = .returned (.agg #[.int .i64 no, .string s]) ∧ Below w.heap.size w w' := by
  go_enter Tryz.func50, Tryz.ntmps50
  go_wp2
  exact bodyPost_ret (v := .agg #[.int .i64 no, .string s]) (by simp [results, Tryz.results50, go_sem]) rfl ⟨rfl, (((Below.refl _ _).alloc (Nat.le_refl _) _).alloc (by simp) _).alloc (by simp; omega) _⟩

set_option maxRecDepth 100000 in
theorem infoField : (Tryz.prog.info? 74).map (fun i => (i.zero.map (·.cells), i.size, i.bytes)) = some (some #[.int .i64 0, .string ⟨#[]⟩], 2, 24) := by kernel_rfl
set_option maxRecDepth 100000 in
theorem getD_of {α : Type} {l : List α} {j : Nat} {x d : α} (h : l[j]? = some x) : l.getD j d = x := by rw [List.getD_eq_getElem?_getD, h]; rfl
set_option maxRecDepth 100000 in
set_option maxHeartbeats 1600000 in
theorem toFields_any (hi : Nat) (v : Value) (l : List FieldD) (w : World) (hn : l.length ≤ 1048576) (h : FieldsR.rd hi w [v] l) (hhi : hi ≤ w.heap.size) :
    Calls Tryz.prog 27 #[v] w fun e w' => ∃ u, e = .returned u ∧ FieldsR.mine w.heap.size w'.heap.size w' [u] l ∧ Below w.heap.size w w' := by
  obtain ⟨A, c, rfl, hc, h⟩ := fields_rd h
  have HR := Lib.hid h
  clear h
  have hmk := make_run (P := Tryz.prog) 30 74 #[.int .i64 0, .string ⟨#[]⟩] 2 24 Tryz.underlying30 infoField l.length (by omega) (by omega)
  go_enter Tryz.func27, Tryz.ntmps27
  go_wp2
  go_loopw [4] (fun iv wr => ∃ i : Nat, i ≤ l.length ∧ iv = .int .i64 i ∧ Hid (filled wr w.heap.size 0 2 l.length i fun j => fCells (l.getD j (0, ⟨#[]⟩))) ∧ w.heap.size < wr.heap.size ∧ Hid (Below w.heap.size w wr)) (fun iv _ => l.length - (intOf iv).toNat)
  case atStart => exact ⟨0, Nat.zero_le _, rfl, Lib.hid (filled.start (room_made w _ _ _)), by simp, Lib.hid ((Below.refl _ _).alloc (Nat.le_refl _) _)⟩
  case round =>
    obtain ⟨i, hi, rfl, HF, hz, HB⟩ := hrel
    by_cases hin : i < l.length
    · obtain ⟨x, hx⟩ : ∃ x, l[i]? = some x := ⟨_, List.getElem?_eq_getElem hin⟩
      obtain ⟨b, off, rfl, hbl, c0, c1⟩ := HR.out i x hx
      have HX := Lib.hid hx
      clear hx
      have c0 := (HB.out.cell (p := ⟨b, off + i * 2, none⟩) (show b < w.heap.size by omega)).trans c0
      have c1 := (HB.out.cell (p := ⟨b, off + i * 2 + 1, none⟩) (show b < w.heap.size by omega)).trans c1
      have g1 : (i : Int) < (l.length : Int) := by omega
      have g2 : 0 ≤ (i : Int) := by omega
      go_wp2_with fail
      refine (toField_any x.1 x.2 _).mono ?_
      rintro e w2 ⟨rfl, hb2⟩
      have HF2 : Hid (filled w2 w.heap.size 0 2 l.length i fun j => fCells (l.getD j (0, ⟨#[]⟩))) := Lib.hid (HF.out.keep (hb2.block _ hz))
      obtain ⟨⟨u0, d0⟩, f0⟩ := HF2.out.cells hin 0 (by omega)
      obtain ⟨⟨u1, d1⟩, f1⟩ := HF2.out.cells hin 1 (by omega)
      simp only [Nat.zero_add, Nat.add_zero] at d0 f0 d1 f1
      have hz2 := hb2.size
      have HB2 : Hid (Below w.heap.size w w2) := Lib.hid (HB.out.trans (hb2.mono (by omega)))
      clear hb2
      go_wp2
      go_roundw
      case rel =>
        have hnx := HF2.out.next hin (fun j _ => rfl)
        rw [getD_of HX.out, Nat.zero_add] at hnx
        exact ⟨i + 1, by omega, by go_num, Lib.hid hnx, by simp; omega, Lib.hid (setsAt_below (fCells x) w2 w.heap.size (i * 2) HB2.out (Nat.le_refl _))⟩
      case measure => simp [intOf] <;> omega
    · obtain rfl : i = l.length := by omega
      go_wp2
      go_ret
      exact ⟨_, rfl, fields_mine rfl (Nat.le_refl _) (Nat.le_refl _) hz HF.out, HB.out⟩

set_option maxRecDepth 100000 in
theorem toMsg_any (hi : Nat) (m : MsgD) (v : Value) (w : World) (hn : m.2.length ≤ 1048576) (h : FieldsR.rd hi w [v] m.2) (hhi : hi ≤ w.heap.size) :
    Calls Tryz.prog 7 #[.agg #[.string m.1, v]] w fun e w' => ∃ u, e = .returned (.agg #[.string m.1, u]) ∧ FieldsR.mine w.heap.size w'.heap.size w' [u] m.2 ∧ Below w.heap.size w w' := by
  have H := Lib.hid h
  clear h
  go_enter Tryz.func7, Tryz.ntmps7
  go_wp2_with fail
  refine (toFields_any hi v m.2 _ hn (Rep.below (R := FieldsR) H.out ((((Below.refl _ _).alloc (Nat.le_refl _) _).alloc (by simp) _).alloc (by simp; omega) _) hhi) (by simp; omega)).mono ?_
  rintro e w1 ⟨u, rfl, hu, hb⟩
  obtain ⟨A, c, rfl, hcc⟩ := Rep.slice_form hu.rd
  obtain ⟨hc, hf⟩ := bcell hb
  have hz : w.heap.size + 1 + 1 + 1 ≤ w1.heap.size := by have := hb.size; simpa using this
  have hb3 : Below w.heap.size w w1 := ((((Below.refl _ _).alloc (Nat.le_refl _) _).alloc (by simp) _).alloc (by simp; omega) _).trans (hb.mono (by simp; omega))
  have HU : Hid (FieldsR.mine (w.heap.size + 3) w1.heap.size w1 [.slice A m.2.length c] m.2) := Lib.hid (by simpa using hu)
  have HB := Lib.hid hb3
  clear hb hb3 hu
  go_wp2
  refine bodyPost_ret (v := .agg #[.string m.1, .slice A m.2.length c]) (by simp [results, Tryz.results7, go_sem, hc]) rfl ⟨_, rfl, ?_, ?_⟩
  · have ht := (((Turned.refl w.heap.size (w.heap.size + 3) w1).set (b := w.heap.size + 1 + 1) 1 (.slice A m.2.length c) (by omega) (by omega)).set (b := w.heap.size + 1) 0 (.string m.1) (by omega) (by omega)).set (b := w.heap.size + 1) 1 (.slice A m.2.length c) (by omega) (by omega)
    exact (HU.out.turned ht (.inr (Nat.le_refl _)) (Nat.le_refl _)).mono (by omega) ht.size
  · exact ((HB.out.setCell (p := ⟨_, _, none⟩) (show _ ≤ w.heap.size + 1 + 1 by omega) _).setCell (p := ⟨_, _, none⟩) (show _ ≤ w.heap.size + 1 by omega) _).setCell (p := ⟨_, _, none⟩) (show _ ≤ w.heap.size + 1 by omega) _

set_option maxRecDepth 100000 in
theorem eqField_any (no : Int) (s : ByteArray) (w : World) :
    Calls Tryz.prog 58 #[.agg #[.int .i64 no, .string s], .agg #[.int .i64 no, .string s]] w fun e w' => e = .returned (.bool true) ∧ Below w.heap.size w w' := by
  go_enter Tryz.func58, Tryz.ntmps58
  go_wp2
  go_ret
  exact ⟨rfl, ((Below.refl _ _).alloc (Nat.le_refl _) _).alloc (by simp) _⟩
set_option maxRecDepth 100000 in
set_option maxHeartbeats 1600000 in
theorem eqFields_any (hi1 hi2 : Nat) (va vb : Value) (l : List FieldD) (w : World) (hn : l.length ≤ 4611686018427387904) (h1 : FieldsR.rd hi1 w [va] l) (h2 : FieldsR.rd hi2 w [vb] l) (hh1 : hi1 ≤ w.heap.size) (hh2 : hi2 ≤ w.heap.size) :
    Calls Tryz.prog 32 #[va, vb] w fun e w' => e = .returned (.bool true) ∧ Below w.heap.size w w' := by
  obtain ⟨A1, c1, rfl, -, h1⟩ := fields_rd h1
  obtain ⟨A2, c2, rfl, -, h2⟩ := fields_rd h2
  have H1 := Lib.hid h1
  have H2 := Lib.hid h2
  clear h1 h2
  go_enter Tryz.func32, Tryz.ntmps32
  go_wp2
  go_loopw [5] (fun iv wr => ∃ k : Nat, k ≤ l.length ∧ iv = .int .i64 k ∧ Hid (Below w.heap.size w wr) ∧ w.heap.size ≤ wr.heap.size) (fun iv _ => l.length - (intOf iv).toNat)
  case atStart => exact ⟨0, Nat.zero_le _, rfl, Lib.hid (Below.refl _ _), Nat.le_refl _⟩
  case round =>
    obtain ⟨k, hk, rfl, HB, hz⟩ := hrel
    by_cases hlt : k < l.length
    · obtain ⟨x, hx⟩ : ∃ x, l[k]? = some x := ⟨_, List.getElem?_eq_getElem hlt⟩
      obtain ⟨b1, o1, rfl, hb1, x1, y1⟩ := H1.out k x hx
      obtain ⟨b2, o2, rfl, hb2, x2, y2⟩ := H2.out k x hx
      have x1 := (HB.out.cell (p := ⟨b1, _, none⟩) (show b1 < w.heap.size by omega)).trans x1
      have y1 := (HB.out.cell (p := ⟨b1, _, none⟩) (show b1 < w.heap.size by omega)).trans y1
      have x2 := (HB.out.cell (p := ⟨b2, _, none⟩) (show b2 < w.heap.size by omega)).trans x2
      have y2 := (HB.out.cell (p := ⟨b2, _, none⟩) (show b2 < w.heap.size by omega)).trans y2
      have g1 : (k : Int) < (l.length : Int) := by omega
      have g2 : 0 ≤ (k : Int) := by omega
      clear hx
      go_wp2
      go_region_held3 (fun w' => w'.cell? ⟨b1, o1 + k * 2, none⟩ = some (.int .i64 x.1) ∧ w'.cell? ⟨b1, o1 + k * 2 + 1, none⟩ = some (.string x.2) ∧ w'.cell? ⟨b2, o2 + k * 2, none⟩ = some (.int .i64 x.1) ∧ w'.cell? ⟨b2, o2 + k * 2 + 1, none⟩ = some (.string x.2)) (go_keep) ((go_at_call 58; refine (eqField_any x.1 x.2 _).mono ?_; rintro e w2 ⟨rfl, hb⟩; have q1 := (hb.cell (p := ⟨b1, o1 + k * 2, none⟩) (show b1 < wr.heap.size by omega)).trans x1; have q2 := (hb.cell (p := ⟨b1, o1 + k * 2 + 1, none⟩) (show b1 < wr.heap.size by omega)).trans y1; have q3 := (hb.cell (p := ⟨b2, o2 + k * 2, none⟩) (show b2 < wr.heap.size by omega)).trans x2; have q4 := (hb.cell (p := ⟨b2, o2 + k * 2 + 1, none⟩) (show b2 < wr.heap.size by omega)).trans y2))
      have hz2 := hb.size
      have HB2 : Hid (Below w.heap.size w w2) := Lib.hid ((HB.out.trans (below_drew _ _)).trans (hb.mono hz))
      clear hb
      go_wp2
      go_roundw
      case rel => exact ⟨k + 1, by omega, by go_num, HB2, by have : wr.heap.size ≤ w2.heap.size := hz2; omega⟩
      case measure => simp [intOf] <;> omega
    · go_wp2
      go_ret
      exact ⟨rfl, HB.out⟩

set_option maxRecDepth 100000 in
theorem eqMsg_any (hi1 hi2 : Nat) (va vb : Value) (m : MsgD) (w : World) (hs : m.1.size ≤ 1048576) (hn : m.2.length ≤ 4611686018427387904) (h1 : FieldsR.rd hi1 w [va] m.2) (h2 : FieldsR.rd hi2 w [vb] m.2) (hh1 : hi1 ≤ w.heap.size) (hh2 : hi2 ≤ w.heap.size) :
    Calls Tryz.prog 10 #[.agg #[.string m.1, va], .agg #[.string m.1, vb]] w fun e w' => e = .returned (.bool true) ∧ Below w.heap.size w w' := by
  obtain ⟨A1, c1, rfl, -⟩ := Rep.slice_form h1
  obtain ⟨A2, c2, rfl, -⟩ := Rep.slice_form h2
  have H1 := Lib.hid h1
  have H2 := Lib.hid h2
  clear h1 h2
  have hb0 : Hid (∀ o1 o2, Below w.heap.size w ((w.alloc o1).alloc o2)) := Lib.hid fun o1 o2 => ((Below.refl _ _).alloc (Nat.le_refl _) _).alloc (by simp) _
  go_enter Tryz.func10, Tryz.ntmps10
  go_wp2_with fail
  refine (eqFields_any hi1 hi2 _ _ m.2 _ hn (Rep.below (R := FieldsR) H1.out (hb0.out _ _) hh1) (Rep.below (R := FieldsR) H2.out (hb0.out _ _) hh2) (by simp; omega) (by simp; omega)).mono ?_
  rintro e w1 ⟨rfl, hb⟩
  have hb1 : Below w.heap.size w w1 := (hb0.out _ _).trans (hb.mono (by simp; omega))
  clear hb
  go_wp2
  go_ret
  exact ⟨rfl, hb1⟩

/-- what is left of a bound, or -1 -/
def leftOf (left : Int) (need : Nat) (r : Int) : Prop := r = -1 ∨ (r = left - need ∧ 0 ≤ r)
def szRes (left : Int) (need : Nat) (w : World) (e : Ending) (w' : World) : Prop := ∃ r, e = .returned (.int .i64 r) ∧ leftOf left need r ∧ Below w.heap.size w w'
set_option maxRecDepth 100000 in
theorem szField_any (no : Int) (s : ByteArray) (left : Int) (w : World) (hs : s.size ≤ maxLen) (h0 : 0 ≤ left) (h1 : left ≤ 1048576) :
    Calls Tryz.prog 42 #[.agg #[.int .i64 no, .string s], .int .i64 left] w (szRes left s.size w) := by
  unfold maxLen at hs
  by_cases hlt : left - (s.size : Int) < 0
  · go_enter Tryz.func42, Tryz.ntmps42
    go_wp2
    go_ret
    exact ⟨_, rfl, .inl rfl, (Below.refl _ _).alloc (Nat.le_refl _) _⟩
  · go_enter Tryz.func42, Tryz.ntmps42
    go_wp2
    go_ret
    exact ⟨_, rfl, .inr ⟨rfl, by omega⟩, (Below.refl _ _).alloc (Nat.le_refl _) _⟩
/-- the sizes of the first elements -/
def sumTo {α : Type} (f : α → Nat) (l : List α) (i : Nat) : Nat := ((l.take i).map f).sum
set_option maxRecDepth 100000 in
theorem sumTo_next {α : Type} (f : α → Nat) (l : List α) (i : Nat) (x : α) (h : l[i]? = some x) : sumTo f l (i + 1) = sumTo f l i + f x := by
  obtain ⟨hi, rfl⟩ := List.getElem?_eq_some_iff.1 h
  unfold sumTo
  rw [List.take_succ_eq_append_getElem hi, List.map_append, List.sum_append]
  simp
set_option maxRecDepth 100000 in
theorem sumTo_all {α : Type} (f : α → Nat) (l : List α) : sumTo f l l.length = (l.map f).sum := by unfold sumTo; rw [List.take_length]
set_option maxRecDepth 100000 in
theorem le_sum {α : Type} (f : α → Nat) {l : List α} {x : α} (h : x ∈ l) : f x ≤ (l.map f).sum := by
  induction l with
  | nil => cases h
  | cons y l ih =>
    rw [List.map_cons, List.sum_cons]
    rcases List.mem_cons.1 h with rfl | h
    · omega
    · have := ih h; omega
def fieldsSz (l : List FieldD) : Nat := l.length + (l.map fun x => x.2.size).sum
set_option maxRecDepth 100000 in
set_option maxHeartbeats 1600000 in
theorem szFields_any (hi : Nat) (v : Value) (l : List FieldD) (left : Int) (w : World) (hn : l.length ≤ maxLen) (hs : ∀ x ∈ l, x.2.size ≤ maxLen) (h : FieldsR.rd hi w [v] l) (hh : hi ≤ w.heap.size) (h0 : 0 ≤ left) (h1 : left ≤ 1048576) :
    Calls Tryz.prog 17 #[v, .int .i64 left] w (szRes left (fieldsSz l) w) := by
  obtain ⟨A, c, rfl, hc, h⟩ := fields_rd h
  have HR := Lib.hid h
  have HS := Lib.hid hs
  clear h hs
  unfold maxLen at hn
  by_cases hbig : left - (l.length : Int) < 0
  · go_enter Tryz.func17, Tryz.ntmps17
    go_wp2
    go_ret
    exact ⟨_, rfl, .inl rfl, Below.refl _ _⟩
  have hge : 0 ≤ left - (l.length : Int) := by omega
  go_enter Tryz.func17, Tryz.ntmps17
  go_wp2
  go_loopw [1, 5] (fun nv iv wr => ∃ (i : Nat) (r : Int), i ≤ l.length ∧ iv = .int .i64 i ∧ nv = .int .i64 r ∧ 0 ≤ r ∧ r ≤ 1048576 ∧ Hid (r = left - (l.length : Int) - (sumTo (fun x : FieldD => x.2.size) l i : Nat)) ∧ Hid (Below w.heap.size w wr) ∧ w.heap.size ≤ wr.heap.size) (fun _ iv _ => l.length - (intOf iv).toNat)
  case atStart => exact ⟨0, _, Nat.zero_le _, rfl, rfl, by omega, by omega, Lib.hid (by simp [sumTo]), Lib.hid (Below.refl _ _), Nat.le_refl _⟩
  case round =>
    obtain ⟨i, r, hi, rfl, rfl, hr0, hr1, HV, HB, hz⟩ := hrel
    by_cases hin : i < l.length
    · obtain ⟨x, hx⟩ : ∃ x, l[i]? = some x := ⟨_, List.getElem?_eq_getElem hin⟩
      obtain ⟨b, off, rfl, hbl, c0, c1⟩ := HR.out i x hx
      have hxs := HS.out x (List.mem_of_getElem? hx)
      have HN := Lib.hid (sumTo_next (fun x : FieldD => x.2.size) l i x hx)
      clear hx
      have c0 := (HB.out.cell (p := ⟨b, off + i * 2, none⟩) (show b < w.heap.size by omega)).trans c0
      have c1 := (HB.out.cell (p := ⟨b, off + i * 2 + 1, none⟩) (show b < w.heap.size by omega)).trans c1
      have g1 : (i : Int) < (l.length : Int) := by omega
      have g2 : 0 ≤ (i : Int) := by omega
      go_wp2_with fail
      refine (szField_any x.1 x.2 r _ hxs hr0 hr1).mono ?_
      rintro e w2 ⟨r2, rfl, hr2, hb2⟩
      have hz2 := hb2.size
      have HB2 : Hid (Below w.heap.size w w2) := Lib.hid (HB.out.trans (hb2.mono (by omega)))
      clear hb2
      rcases hr2 with rfl | ⟨hr2, hr3⟩
      · go_wp2
        go_ret
        exact ⟨_, rfl, .inl rfl, HB2.out⟩
      · have HR2 := Lib.hid hr2
        have hr4 : r2 ≤ 1048576 := by omega
        clear hr2
        go_wp2
        go_roundw
        case rel => exact ⟨i + 1, r2, by omega, by go_num, rfl, hr3, hr4, Lib.hid (by rw [HN.out, HR2.out, HV.out]; omega), HB2, by omega⟩
        case measure => simp [intOf] <;> omega
    · obtain rfl : i = l.length := by omega
      go_wp2
      go_ret
      exact ⟨r, rfl, .inr ⟨by rw [HV.out, sumTo_all]; unfold fieldsSz; omega, hr0⟩, HB.out⟩
def msgSz (m : MsgD) : Nat := m.1.size + fieldsSz m.2
set_option maxRecDepth 100000 in
theorem szMsg_any (hi : Nat) (v : Value) (m : MsgD) (left : Int) (w : World) (hn : m.2.length ≤ maxLen) (hm : m.1.size ≤ maxLen) (hs : ∀ x ∈ m.2, x.2.size ≤ maxLen) (h : FieldsR.rd hi w [v] m.2) (hh : hi ≤ w.heap.size) (h0 : 0 ≤ left) (h1 : left ≤ 1048576) :
    Calls Tryz.prog 5 #[.agg #[.string m.1, v], .int .i64 left] w (szRes left (msgSz m) w) := by
  obtain ⟨A, c, rfl, -⟩ := Rep.slice_form h
  have HR := Lib.hid h
  have HS := Lib.hid hs
  have HN := Lib.hid hn
  clear h hs hn
  unfold maxLen at hm
  by_cases hbig : left - (m.1.size : Int) < 0
  · go_enter Tryz.func5, Tryz.ntmps5
    go_wp2
    go_ret
    exact ⟨_, rfl, .inl rfl, (Below.refl _ _).alloc (Nat.le_refl _) _⟩
  have hge : 0 ≤ left - (m.1.size : Int) := by omega
  have HB0 : Hid (∀ o, Below w.heap.size w (w.alloc o)) := Lib.hid fun o => (Below.refl _ _).alloc (Nat.le_refl _) o
  go_enter Tryz.func5, Tryz.ntmps5
  go_wp2_with fail
  refine (szFields_any hi _ m.2 _ _ HN.out HS.out (Rep.below (R := FieldsR) HR.out (HB0.out _) hh) (by simp; omega) hge (by omega)).mono ?_
  rintro e w2 ⟨r2, rfl, hr2, hb2⟩
  have HB2 : Hid (Below w.heap.size w w2) := Lib.hid ((HB0.out _).trans (hb2.mono (by simp)))
  clear hb2
  rcases hr2 with rfl | ⟨hr2, hr3⟩
  · go_wp2
    go_ret
    exact ⟨_, rfl, .inl rfl, HB2.out⟩
  · have HR2 := Lib.hid hr2
    clear hr2
    go_wp2
    go_ret
    exact ⟨r2, rfl, .inr ⟨by rw [HR2.out]; unfold msgSz; omega, hr3⟩, HB2.out⟩
end Go.Proofs.YtmojpiofdfmdgabGreatDoor
set_option linter.unusedVariables false
namespace Go.Proofs.YtmojpiofdfmdgabGreatDoor
open Go.ChangeShapes Go.WideShapes Go.ChangeAt Go.RowKit Go.Deep

set_option maxRecDepth 100000 in
theorem open_msg {H : Type} {enc : TypeId × Value → H} {W : World} {base : Nat} {v : Value} {d : DataW H} {p : List MemPlace} (hval : Value.okWide Tryz.prog W .any base 24 v) (h : DataW.Trod enc Tryz.prog W 0 (fun _ => true) true 24 v d p) :
    ∃ (m : MsgD) (u : Value), v = .agg #[.string m.1, u] ∧ FieldsR.rd W.heap.size W [u] m.2 ∧ m.1.size ≤ maxLen ∧ m.2.length ≤ maxLen ∧ (∀ x ∈ m.2, (Lit.int .i64 x.1).wf = true ∧ x.2.size ≤ maxLen) := by
  obtain ⟨cs, rfl, hsz⟩ := okWide_struct Tryz.underlying24 hval
  obtain ⟨fuel, hf⟩ := h
  have hF : Opens enc Tryz.prog W FieldR 73 _ := opens_struct Tryz.underlying73 (by kernel_rfl) (opensF_cons (opens_int Tryz.underlying3) rfl (by kernel_rfl) (opensF_one (opens_str Tryz.underlying9) rfl (by kernel_rfl)))
  have hL := opens_slice (by decide) Tryz.underlying22 (by kernel_rfl) hF
  have hM : Opens enc Tryz.prog W MsgR 24 _ := opens_struct Tryz.underlying24 (by kernel_rfl) (opensF_cons (opens_str Tryz.underlying9) rfl (by kernel_rfl) (opensF_one hL rfl (by kernel_rfl)))
  obtain ⟨m, hr, h1, h2, h3⟩ := hM fuel _ _ hf
  obtain ⟨a, b, he, ha, hb⟩ := hr
  obtain rfl : a = [.string m.1] := ha
  obtain ⟨u, rfl⟩ : ∃ u, b = [u] := by
    have := FieldsR.rd_len hb
    match b, this with
    | [u], _ => exact ⟨u, rfl⟩
  refine ⟨m, u, ?_, hb, h1, h2, h3⟩
  have hcs : cs.toList = [.string m.1, u] := he
  rw [← hcs]
end Go.Proofs.YtmojpiofdfmdgabGreatDoor
set_option linter.unusedVariables false
namespace Go.Proofs.YtmojpiofdfmdgabGreatDoor
open Go.ChangeShapes Go.WideShapes Go.ChangeAt Go.RowKit

set_option maxRecDepth 100000 in
theorem specDigits_any (s : ByteArray) (w : World) (hs : s.size ≤ maxLen) :
    Calls Tryz.prog 43 #[.string s] w fun e w' => e = .returned (.bool (digs s)) ∧ w = w' := by
  unfold maxLen at hs
  go_enter Tryz.func43, Tryz.ntmps43
  go_wp2
  go_loop [3] (fun i => ∃ k : Nat, k ≤ s.size ∧ i = .int .i64 k ∧ (s.data.toList.take k).all isDig = true) (fun i => s.size - (intOf i).toNat)
  case atStart => exact ⟨0, Nat.zero_le _, rfl, rfl⟩
  case round =>
    obtain ⟨k, hk, rfl, ha0⟩ := hrel
    have ha := Lib.hid ha0
    clear ha0
    by_cases hlt : k < s.size
    · go_wp2
      · go_ret
        exact ⟨ret_bool (digs_no s k hlt ((isDig_no _).2 (by omega))).symm, rfl⟩
      · go_round
        case rel => exact ⟨k + 1, by omega, by go_num, all_one s k hlt ha.out ((isDig_iff _).2 (by omega))⟩
        case measure => simp [intOf] <;> omega
      · go_ret
        exact ⟨ret_bool (digs_no s k hlt ((isDig_no _).2 (by omega))).symm, rfl⟩
    · go_wp2
      go_ret
      exact ⟨ret_bool (digs_end s k hlt ha.out), rfl⟩

end Go.Proofs.YtmojpiofdfmdgabGreatDoor
set_option linter.unusedVariables false
namespace Go.Proofs.YtmojpiofdfmdgabGreatDoor
open Go.ChangeShapes Go.WideShapes Go.ChangeAt Go.RowKit

/-- is the number of a character a digit's? -/
def runeDig (r : Int) : Bool := decide (48 ≤ r) && decide (r ≤ 57)
set_option maxRecDepth 100000 in
theorem isDigit_any (r : Int) (w : World) : Calls Tryz.prog 79 #[.int .i32 r] w fun e w' => e = .returned (.bool (runeDig r)) ∧ w = w' := by
  by_cases h0 : 48 ≤ r
  all_goals
    go_enter Tryz.func79, Tryz.ntmps79
    go_wp2
    go_ret
    exact ⟨by simp [runeDig]; omega, rfl⟩

set_option maxRecDepth 100000 in
/-- The character at a place: a digit there, or none. -/
theorem rune_dig (s : ByteArray) (pos : Nat) (h : pos < s.size) (hd : isDig s[pos] = true) : Utf8.decode s pos = (s[pos].toNat, 1) ∧ runeDig (s[pos].toNat : Int) = true := by
  have h1 := (isDig_iff _).1 hd
  exact ⟨decode_ascii s pos h (by omega), by simp [runeDig]; omega⟩
set_option maxRecDepth 100000 in
theorem rune_not (s : ByteArray) (pos : Nat) (h : pos < s.size) (hd : isDig s[pos] = false) : runeDig ((Utf8.decode s pos).1 : Int) = false := by
  have h1 := (isDig_no _).1 hd
  rcases Nat.lt_or_ge s[pos].toNat 128 with h2 | h2
  · rw [decode_ascii s pos h h2]; simp [runeDig]; omega
  · have := (decode_high s pos h h2).1; simp [runeDig]; omega

end Go.Proofs.YtmojpiofdfmdgabGreatDoor
set_option linter.unusedVariables false
namespace Go.Proofs.YtmojpiofdfmdgabGreatDoor
open Go.ChangeShapes Go.WideShapes Go.ChangeAt Go.RowKit

set_option maxRecDepth 100000 in
theorem implDigits_any (s : ByteArray) (w : World) (hs : s.size ≤ maxLen) :
    Calls Tryz.prog 68 #[.string s] w fun e w' => e = .returned (.bool (digs s)) ∧ Below w.heap.size w w' := by
  unfold maxLen at hs
  go_enter Tryz.func68, Tryz.ntmps68
  go_wp2
  go_loopw [2] (fun _ wr => ∃ k : Nat, k ≤ s.size ∧ wr = w.iter s k ∧ (s.data.toList.take k).all isDig = true) (fun _ wr => s.size - wr.iterPos w.heap.size)
  case atStart => exact ⟨0, Nat.zero_le _, rfl, rfl⟩
  case round =>
    obtain ⟨k, hk, rfl, ha0⟩ := hrel
    have ha := Lib.hid ha0
    clear ha0
    by_cases hlt : k < s.size
    · cases hd : isDig s[k]
      · have hr := rune_not s k hlt hd
        have hnx : ∀ ty, (Instr.next (.pointer (some ⟨w.heap.size, 0, none⟩)) true ty).run Tryz.prog (w.iter s k) = _ := fun ty => run_next_any w s k ty hlt
        generalize hq : Utf8.decode s k = q at hnx hr
        obtain ⟨r, wd⟩ := q
        clear hq
        go_wp2_with (go_at_call 79; refine (isDigit_any _ _).mono ?_; rintro e w' ⟨rfl, rfl⟩)
        go_ret
        exact ⟨ret_bool (digs_no s k hlt hd).symm, below_iter _ _ _⟩
      · obtain ⟨hdec, hr⟩ := rune_dig s k hlt hd
        have hnx : ∀ ty, (Instr.next (.pointer (some ⟨w.heap.size, 0, none⟩)) true ty).run Tryz.prog (w.iter s k) = _ := fun ty => run_next_any w s k ty hlt
        rw [hdec] at hnx
        have hb := Lib.hid (all_one s k hlt ha.out hd)
        clear hdec hd
        go_wp2_with (go_at_call 79; refine (isDigit_any _ _).mono ?_; rintro e w' ⟨rfl, rfl⟩)
        go_roundw
        case rel => exact ⟨k + 1, by omega, rfl, hb.out⟩
        case measure => simp <;> omega
    · have hnx : ∀ ty, (Instr.next (.pointer (some ⟨w.heap.size, 0, none⟩)) true ty).run Tryz.prog (w.iter s k) = _ := fun ty => run_next_end w s k ty hlt
      go_wp2
      go_ret
      exact ⟨ret_bool ((not_empty s).trans (digs_end s k hlt ha.out)), below_iter _ _ _⟩
end Go.Proofs.YtmojpiofdfmdgabGreatDoor
set_option linter.unusedVariables false
namespace Go.Proofs.YtmojpiofdfmdgabGreatDoor
open Go.ChangeShapes Go.WideShapes Go.ChangeAt Go.RowKit

set_option maxRecDepth 100000 in
theorem four {s : ByteArray} (h : s.size = 4) : ∃ a b c d, s = ⟨#[a, b, c, d]⟩ := by
  obtain ⟨⟨l⟩⟩ := s
  match l, h with
  | [a, b, c, d], _ => exact ⟨a, b, c, d, rfl⟩
def mtiKn (s : ByteArray) : Bool := s.toList == [48, 49, 48, 48] || s.toList == [48, 50, 48, 48] || s.toList == [48, 50, 50, 48]
end Go.Proofs.YtmojpiofdfmdgabGreatDoor
set_option linter.unusedVariables false
namespace Go.Proofs.YtmojpiofdfmdgabGreatDoor
open Go.ChangeShapes Go.WideShapes Go.ChangeAt Go.RowKit

end Go.Proofs.YtmojpiofdfmdgabGreatDoor
set_option linter.unusedVariables false
namespace Go.Proofs.YtmojpiofdfmdgabGreatDoor
open Go.ChangeShapes Go.WideShapes Go.ChangeAt Go.RowKit

/-- block p holds these texts -/
def strsAt (w : World) (p : Nat) (L : List (List UInt8)) : Prop := ∀ (j : Nat) (x : List UInt8), L[j]? = some x → w.cell? ⟨p, j, none⟩ = some (.string ⟨x.toArray⟩)
set_option maxRecDepth 100000 in
theorem strs_at (w : World) (T : TypeId) (L : List (List UInt8)) (us : Array Value) (hu : us = (L.map fun x => Value.string ⟨x.toArray⟩).toArray) : strsAt (w.alloc (.cells us T)) w.heap.size L := by
  subst hu
  intro j x hx
  rw [cell_of_row _ _ j _ _ (0, 0) (heap_alloc_new _ _)]
  simp [hx]
set_option maxRecDepth 100000 in
theorem str_no {a b : ByteArray} (h : a ≠ b) : (a.toList == b.toList) = false := by
  rw [beq_eq_false_iff_ne, ByteArray.toList_eq, ByteArray.toList_eq]
  intro e
  exact h (ByteArray.ext (Array.toList_inj.1 e))
set_option maxRecDepth 100000 in
theorem specIn_any (n lo hi : Int) (w : World) : Calls Tryz.prog 47 #[.int .i64 n, .int .i64 lo, .int .i64 hi] w fun e w' => e = .returned (.bool (decide (lo ≤ n ∧ n ≤ hi))) ∧ w = w' := by
  by_cases h0 : lo ≤ n
  · by_cases h1 : n ≤ hi
    · have hd : Hid (decide (lo ≤ n ∧ n ≤ hi) = true) := Lib.hid (by simp [h0, h1])
      rw [hd.out]
      go_enter Tryz.func47, Tryz.ntmps47
      go_wp2
      go_ret
      exact ⟨rfl, rfl⟩
    · have hd : Hid (decide (lo ≤ n ∧ n ≤ hi) = false) := Lib.hid (by simp [h1])
      rw [hd.out]
      go_enter Tryz.func47, Tryz.ntmps47
      go_wp2
      go_ret
      exact ⟨rfl, rfl⟩
  · have hd : Hid (decide (lo ≤ n ∧ n ≤ hi) = false) := Lib.hid (by simp [h0])
    rw [hd.out]
    go_enter Tryz.func47, Tryz.ntmps47
    go_wp2
    go_ret
    exact ⟨rfl, rfl⟩
set_option maxRecDepth 100000 in
theorem specMtiKnown_any (s : ByteArray) (w : World) : Calls Tryz.prog 19 #[.string s] w fun e w' => e = .returned (.bool (mtiKn s)) ∧ w = w' := by
  have HM : Hid (mtiKn s = (s.toList == [48, 49, 48, 48] || s.toList == [48, 50, 48, 48] || s.toList == [48, 50, 50, 48])) := Lib.hid rfl
  go_enter Tryz.func19, Tryz.ntmps19
  go_wp2
  all_goals go_ret
  all_goals (refine ⟨?_, rfl⟩; rw [HM.out]; simp_all)
end Go.Proofs.YtmojpiofdfmdgabGreatDoor
set_option linter.unusedVariables false
namespace Go.Proofs.YtmojpiofdfmdgabGreatDoor
open Go.ChangeShapes Go.WideShapes Go.ChangeAt Go.RowKit

/-- row by row: type, code, name -/
def opRows : List (List (List UInt8)) := [[[], [], []], [[48, 49, 48, 48], [48, 48], [97, 117, 116, 104]], [[48, 49, 48, 48], [48, 50], [109, 111, 114, 101]], [[48, 50, 50, 48], [48, 49], [112, 97, 114, 116]], [[48, 50, 50, 48], [48, 48], [102, 105, 110, 97, 108]], [[48, 50, 50, 48], [50, 48], [102, 114, 101, 101]], [[48, 50, 48, 48], [52, 48], [109, 111, 118, 101]], [[48, 49, 48, 48], [51, 49], [97, 115, 107]], [[48, 50, 48, 48], [57, 48], [115, 119, 101, 101, 112]]]
def opB (k i : Nat) : List UInt8 := (opRows.getD i []).getD k []
/-- text k of operation op, or the empty one -/
def opTxt (k : Nat) (op : Int) : ByteArray := if 0 ≤ op then ⟨(opB k op.toNat).toArray⟩ else ⟨#[]⟩
def isOp (op : Int) : Bool := decide (1 ≤ op ∧ op ≤ 8)
set_option maxRecDepth 100000 in
theorem opTxt_nat (k i : Nat) : opTxt k (i : Int) = ⟨(opB k i).toArray⟩ := by simp [opTxt]
set_option maxRecDepth 100000 in
theorem opTxt_neg (k : Nat) {op : Int} (h : op < 0) : opTxt k op = ⟨#[]⟩ := by simp [opTxt]; omega
set_option maxRecDepth 100000 in
theorem opTxt_out (k : Nat) {op : Int} (h : ¬ (1 ≤ op ∧ op ≤ 8)) : opTxt k op = ⟨#[]⟩ := by
  by_cases h0 : op < 0
  · exact opTxt_neg k h0
  · obtain ⟨i, rfl⟩ := Int.eq_ofNat_of_zero_le (show 0 ≤ op by omega)
    rw [opTxt_nat]
    by_cases hi : i = 0
    · subst hi
      unfold opB
      match k with
      | 0 => rfl
      | 1 => rfl
      | 2 => rfl
      | k + 3 => rfl
    · have h9 : 9 ≤ i := by omega
      have e : opRows.getD i [] = [] := by rw [List.getD_eq_getElem?_getD, List.getElem?_eq_none (show opRows.length ≤ i from h9)]; rfl
      unfold opB
      rw [e]
      simp
set_option maxRecDepth 100000 in
theorem op_cases {op : Int} (h : 1 ≤ op ∧ op ≤ 8) : op = 1 ∨ op = 2 ∨ op = 3 ∨ op = 4 ∨ op = 5 ∨ op = 6 ∨ op = 7 ∨ op = 8 := by omega

set_option maxRecDepth 100000 in
theorem l11Op_any (op : Int) (w : World) : Calls Tryz.prog 46 #[.int .i64 op] w fun e w' => e = .returned (.bool (isOp op)) ∧ w = w' := by
  have HI := Lib.hid (specIn_any op 1 8)
  go_enter Tryz.func46, Tryz.ntmps46
  go_wp2_with fail
  refine (HI.out _).mono ?_
  rintro e w1 ⟨rfl, rfl⟩
  go_wp2
  go_ret
  exact ⟨congrArg (fun b => Ending.returned (.bool b)) (by simp [isOp]), rfl⟩
def opCol (k : Nat) : List (List UInt8) := opRows.map fun r => r.getD k []
set_option maxRecDepth 100000 in
theorem opCol_at (k : Nat) {op : Int} (h : 1 ≤ op ∧ op ≤ 8) : (opCol k)[op.toNat]? = some (opB k op.toNat) := by
  have hl : op.toNat < opRows.length := by show op.toNat < 9; omega
  simp [opCol, opB, List.getElem?_eq_getElem hl]
set_option maxRecDepth 100000 in
theorem specMtis_any (w : World) : Calls Tryz.prog 66 #[] w fun e w' => e = .returned (.slice (some ⟨w.heap.size, 0, none⟩) 9 9) ∧ strsAt w' w.heap.size (opCol 0) ∧ Below w.heap.size w w' ∧ w.heap.size < w'.heap.size := by
  go_enter Tryz.func66, Tryz.ntmps66
  go_wp2
  go_ret
  exact ⟨rfl, strs_at _ _ (opCol 0) _ (by rfl), (Below.refl _ _).alloc (Nat.le_refl _) _, by simp⟩
set_option maxRecDepth 100000 in
theorem specCodes_any (w : World) : Calls Tryz.prog 59 #[] w fun e w' => e = .returned (.slice (some ⟨w.heap.size, 0, none⟩) 9 9) ∧ strsAt w' w.heap.size (opCol 1) ∧ Below w.heap.size w w' ∧ w.heap.size < w'.heap.size := by
  go_enter Tryz.func59, Tryz.ntmps59
  go_wp2
  go_ret
  exact ⟨rfl, strs_at _ _ (opCol 1) _ (by rfl), (Below.refl _ _).alloc (Nat.le_refl _) _, by simp⟩
set_option maxRecDepth 100000 in
theorem specOpMti_any (op : Int) (w : World) : Calls Tryz.prog 45 #[.int .i64 op] w fun e w' => e = .returned (.string (opTxt 0 op)) ∧ Below w.heap.size w w' := by
  have HI := Lib.hid (l11Op_any op)
  by_cases h : 1 ≤ op ∧ op ≤ 8
  · obtain ⟨i, rfl⟩ := Int.eq_ofNat_of_zero_le (show 0 ≤ op by omega)
    have hI : isOp (i : Int) = true := decide_eq_true h
    rw [hI] at HI
    rw [opTxt_nat]
    have HX := Lib.hid (opCol_at 0 h)
    have g0 : 0 ≤ (i : Int) := by omega
    have g1 : (i : Int) < 9 := by omega
    clear h hI
    go_enter Tryz.func45, Tryz.ntmps45
    go_wp2_with fail
    refine (HI.out _).mono ?_
    rintro e w1 ⟨rfl, rfl⟩
    go_wp2_with fail
    refine (specMtis_any _).mono ?_
    rintro e w2 ⟨rfl, hst, hb, hz⟩
    have hc := hst i _ HX.out
    clear hst
    go_wp2
    go_ret
    exact ⟨rfl, hb⟩
  · have hI : isOp op = false := decide_eq_false h
    rw [opTxt_out 0 h]
    rw [hI] at HI
    clear h hI
    go_enter Tryz.func45, Tryz.ntmps45
    go_wp2_with fail
    refine (HI.out _).mono ?_
    rintro e w1 ⟨rfl, rfl⟩
    go_wp2
    go_ret
    exact ⟨rfl, Below.refl _ _⟩
set_option maxRecDepth 100000 in
theorem specOpCode_any (op : Int) (w : World) : Calls Tryz.prog 34 #[.int .i64 op] w fun e w' => e = .returned (.string (opTxt 1 op)) ∧ Below w.heap.size w w' := by
  have HI := Lib.hid (l11Op_any op)
  by_cases h : 1 ≤ op ∧ op ≤ 8
  · obtain ⟨i, rfl⟩ := Int.eq_ofNat_of_zero_le (show 0 ≤ op by omega)
    have hI : isOp (i : Int) = true := decide_eq_true h
    rw [hI] at HI
    rw [opTxt_nat]
    have HX := Lib.hid (opCol_at 1 h)
    have g0 : 0 ≤ (i : Int) := by omega
    have g1 : (i : Int) < 9 := by omega
    clear h hI
    go_enter Tryz.func34, Tryz.ntmps34
    go_wp2_with fail
    refine (HI.out _).mono ?_
    rintro e w1 ⟨rfl, rfl⟩
    go_wp2_with fail
    refine (specCodes_any _).mono ?_
    rintro e w2 ⟨rfl, hst, hb, hz⟩
    have hc := hst i _ HX.out
    clear hst
    go_wp2
    go_ret
    exact ⟨rfl, hb⟩
  · have hI : isOp op = false := decide_eq_false h
    rw [opTxt_out 1 h]
    rw [hI] at HI
    clear h hI
    go_enter Tryz.func34, Tryz.ntmps34
    go_wp2_with fail
    refine (HI.out _).mono ?_
    rintro e w1 ⟨rfl, rfl⟩
    go_wp2
    go_ret
    exact ⟨rfl, Below.refl _ _⟩
end Go.Proofs.YtmojpiofdfmdgabGreatDoor
set_option linter.unusedVariables false
namespace Go.Proofs.YtmojpiofdfmdgabGreatDoor
open Go.ChangeShapes Go.WideShapes Go.ChangeAt Go.RowKit

set_option maxRecDepth 100000 in
/-- a struct of three strings that reads as three texts holds them -/
theorem cells_of_three {H : Type} {enc : TypeId × Value → H} {P : Program} {w : World} {base : Nat} {sp : Nat → Bool} {held : Bool} {fuel : Nat} {e s : TypeId} {fs : Array Field} {cs : List Value} {ss : List (List UInt8)} {p : List MemPlace}
    (he : P.underlying e = some (.struct fs)) (hf : fs.toList.map (fun f => (f.type, f.offset)) = [(s, 0), (s, 1), (s, 2)]) (hs : P.underlying s = some .string) (hcs : P.cellsOf s = 1) (hce : P.cellsOf e = 3)
    (h : DataW.trod enc P w base sp held fuel e cs = some (.agg (ss.map fun x => .lit (.string x)), p)) : cs = ss.map fun x => Value.string ⟨x.toArray⟩ := by
  cases fuel with
  | zero => simp [DataW.trod] at h
  | succ fuel =>
    simp only [DataW.trod, he, hce] at h
    split at h
    · rename_i hl
      obtain ⟨xs, hm, hx⟩ := Option.map_eq_some_iff.1 h
      have hxs : xs.map (·.1) = ss.map fun s => (DataW.lit (.string s) : DataW H) := by
        have := congrArg Prod.fst hx
        simpa using this
      have hfl : fs.toList.length = 3 := by
        have := congrArg List.length hf
        simpa using this
      have hxl : xs.length = 3 := by
        have := Lib.mapM_length hm
        omega
      have hzl : ss.length = 3 := by
        have := congrArg List.length hxs
        simp at this
        omega
      apply List.ext_getElem?
      intro i
      by_cases hi : i < 3
      · obtain ⟨f, hfi⟩ : ∃ f, fs.toList[i]? = some f := ⟨_, List.getElem?_eq_getElem (by omega)⟩
        have hto : f.type = s ∧ f.offset = i := by
          have h1 : (fs.toList.map (fun f => (f.type, f.offset)))[i]? = some (f.type, f.offset) := by simp only [List.getElem?_map, hfi, Option.map_some]
          rw [hf] at h1
          have h3 : i = 0 ∨ i = 1 ∨ i = 2 := by omega
          rcases h3 with rfl | rfl | rfl <;> simp at h1 <;> exact ⟨h1.1.symm, h1.2.symm⟩
        obtain ⟨b, hb, hg⟩ := Lib.mapM_at hm i f hfi
        rw [hto.1, hto.2, hcs] at hg
        obtain ⟨z, hc, rfl, _⟩ := DataW.trod_string hs hg
        have h1 : cs[i]? = some (.string z) := by
          have := congrArg (·[0]?) hc
          simpa [List.getElem?_take, List.getElem?_drop] using this
        have h2 : (xs.map (·.1))[i]? = some (DataW.lit (.string z.data.toList) : DataW H) := by simp [hb]
        rw [hxs] at h2
        simp only [List.getElem?_map, Option.map_eq_some_iff, DataW.lit.injEq, Lit.string.injEq] at h2
        obtain ⟨s', hs', he'⟩ := h2
        rw [h1, List.getElem?_map, hs']
        have : (⟨s'.toArray⟩ : ByteArray) = z := ByteArray.ext (by rw [he'])
        simp [this]
      · rw [List.getElem?_eq_none (by omega), List.getElem?_eq_none (by simp; omega)]
    · cases h
set_option maxRecDepth 100000 in
theorem chunks3 (rows : List (List (List UInt8))) : ∀ cs : List Value, cs.length = rows.length * 3 → (∀ i r, rows[i]? = some r → (cs.drop (i * 3)).take 3 = r.map fun x => Value.string ⟨x.toArray⟩) → cs = rows.flatMap fun r => r.map fun x => Value.string ⟨x.toArray⟩ := by
  induction rows with
  | nil => intro cs hl _; simpa using hl
  | cons r rs ih =>
    intro cs hl h
    have h0 := h 0 r rfl
    rw [Nat.zero_mul, List.drop_zero] at h0
    have := ih (cs.drop 3) (by simp at hl ⊢; omega) fun i x hx => by
      have := h (i + 1) x (by simpa using hx)
      rw [List.drop_drop]
      rwa [show 3 + i * 3 = (i + 1) * 3 by omega]
    rw [List.flatMap_cons, ← this, ← h0, List.take_append_drop]
set_option maxRecDepth 100000 in
/-- an array of such structs -/
theorem cells_of_rows {H : Type} {enc : TypeId × Value → H} {P : Program} {w : World} {base : Nat} {sp : Nat → Bool} {held : Bool} {fuel : Nat} {t e s : TypeId} {n : Nat} {fs : Array Field} {cs : List Value} {rows : List (List (List UInt8))} {p : List MemPlace}
    (ht : P.underlying t = some (.array n e)) (hct : P.cellsOf t = n * 3)
    (he : P.underlying e = some (.struct fs)) (hf : fs.toList.map (fun f => (f.type, f.offset)) = [(s, 0), (s, 1), (s, 2)]) (hs : P.underlying s = some .string) (hcs : P.cellsOf s = 1) (hce : P.cellsOf e = 3)
    (h : DataW.trod enc P w base sp held fuel t cs = some (.agg (rows.map fun r => .agg (r.map fun x => .lit (.string x))), p)) : cs = rows.flatMap fun r => r.map fun x => Value.string ⟨x.toArray⟩ := by
  cases fuel with
  | zero => simp [DataW.trod] at h
  | succ fuel =>
    simp only [DataW.trod, ht, hce, hct] at h
    split at h
    · rename_i hl
      obtain ⟨xs, hm, hx⟩ := Option.map_eq_some_iff.1 h
      have hxs : xs.map (·.1) = rows.map fun r => (DataW.agg (r.map fun x => .lit (.string x)) : DataW H) := by
        have := congrArg Prod.fst hx
        simpa using this
      have hxl : xs.length = n := by simpa using Lib.mapM_length hm
      have hzl : rows.length = n := by
        have := congrArg List.length hxs
        simp at this
        omega
      refine chunks3 rows cs (by omega) fun i r hr => ?_
      have hi : i < n := by
        have := (List.getElem?_eq_some_iff.1 hr).1
        omega
      obtain ⟨b, hb, hg⟩ := Lib.mapM_at hm i i (by simp [hi])
      have h2 : (xs.map (·.1))[i]? = some b.1 := by simp [hb]
      rw [hxs, List.getElem?_map, hr] at h2
      obtain ⟨d, q⟩ := b
      simp only [Option.map_some, Option.some.injEq] at h2
      subst h2
      exact cells_of_three he hf hs hcs hce hg
    · cases h

def opDat {H : Type} : DataW H := .agg (opRows.map fun r => .agg (r.map fun x => .lit (.string x)))
def opArr : Array Value := (opRows.flatMap fun r => r.map fun x => Value.string ⟨x.toArray⟩).toArray
/-- the rows lie in the program's table -/
def opsIn (w : World) : Prop := ∀ i k : Nat, i < 9 → k < 3 → w.cell? ⟨0, i * 3 + k, none⟩ = some (.string ⟨(opB k i).toArray⟩)
set_option maxRecDepth 100000 in
theorem gOps : Tryz.prog.globalNamed "loop.example/g00735/impl.opTable" = some 0 := by kernel_rfl
set_option maxRecDepth 100000 in
theorem tOps : (Tryz.prog.globals[0]?).map (·.type) = some 107 := by kernel_rfl
set_option maxRecDepth 100000 in
theorem ops_var {W : World} {rest : List (String × DataW Unit)} (h : laidMet Tryz.prog (("loop.example/g00735/impl.opTable", opDat) :: rest) W) : W.var? Tryz.prog "loop.example/g00735/impl.opTable" = some opArr := by
  obtain ⟨ps, ⟨g', t', cs, fuel, p, q, hg', ht', hvar, hd, _, _⟩, _⟩ := h
  obtain rfl := Option.some.inj (gOps.symm.trans hg')
  obtain rfl := Option.some.inj (tOps.symm.trans ht')
  have hcs := cells_of_rows Tryz.underlying107 (by kernel_rfl) Tryz.underlying106 (s := 9) (by rfl) Tryz.underlying9 (by kernel_rfl) (by kernel_rfl) hd
  have e : cs = opArr := Array.toList_inj.1 (by simpa [opArr] using hcs)
  rw [hvar, e]
set_option maxRecDepth 100000 in
theorem opArr_at : ∀ i : Fin 9, ∀ k : Fin 3, opArr[i.val * 3 + k.val]? = some (.string ⟨(opB k.val i.val).toArray⟩) := by
  rintro ⟨i, hi⟩ ⟨k, hk⟩
  have h1 : i = 0 ∨ i = 1 ∨ i = 2 ∨ i = 3 ∨ i = 4 ∨ i = 5 ∨ i = 6 ∨ i = 7 ∨ i = 8 := by omega
  have h2 : k = 0 ∨ k = 1 ∨ k = 2 := by omega
  rcases h1 with rfl | rfl | rfl | rfl | rfl | rfl | rfl | rfl | rfl <;> rcases h2 with rfl | rfl | rfl <;> rfl
set_option maxRecDepth 100000 in
theorem ops_in {W : World} (h : W.var? Tryz.prog "loop.example/g00735/impl.opTable" = some opArr) : opsIn W := by
  intro i k hi hk
  rw [World.var?_cell gOps h]
  exact opArr_at ⟨i, hi⟩ ⟨k, hk⟩
set_option maxRecDepth 100000 in
theorem vars_ops {H : Type} (enc : TypeId × Value → H) {W : World} (sp : Nat → Bool) {ns : List String} {ds : List (DataW H)} {q : List MemPlace} (h : W.var? Tryz.prog "loop.example/g00735/impl.opTable" = some opArr)
    (hr : DataW.TrodVars enc Tryz.prog W sp ns ds q) : DataW.TrodVars enc Tryz.prog W sp ("loop.example/g00735/impl.opTable" :: ns) (opDat :: ds) (MemPlace.row ⟨0, 0, none⟩ opArr.size ++ [] ++ q) :=
  ⟨_, _, opArr, 3, [], q, gOps, tOps, h, by kernel_rfl, hr, rfl⟩
set_option maxRecDepth 100000 in
theorem ops_err {H : Type} (enc : TypeId × Value → H) {P : Program} {W : World} {n : String} {g : Nat} {ti : TypeId} {ms : Array (String × TypeId)} {x : Value} {sp : Nat → Bool} {ns : List String} {ds : List (DataW H)} {q : List MemPlace}
    (hg : P.globalNamed n = some g) (ht : (P.globals[g]?).map (·.type) = some ti) (hi : P.underlying ti = some (.interface ms)) (h : W.var? P n = some #[x]) (ix : IsIface x) (hr : DataW.TrodVars enc P W sp ns ds q) :
    DataW.TrodVars enc P W sp (n :: ns) (tok enc x :: ds) (.cell g 0 :: q) :=
  ⟨g, ti, #[x], 1, [], q, hg, ht, h, trod_held hi ix 0, hr, rfl⟩
set_option maxRecDepth 100000 in
theorem ops_nil {H : Type} (enc : TypeId × Value → H) {P : Program} {W : World} (sp : Nat → Bool) : DataW.TrodVars enc P W sp [] [] [] := rfl
set_option maxRecDepth 100000 in
theorem opsIn.lt {w : World} (h : opsIn w) : 0 < w.heap.size := by
  have hc := h 0 0 (by omega) (by omega)
  rcases Nat.lt_or_ge 0 w.heap.size with h | h
  · exact h
  · simp [World.cell?, Array.getElem?_eq_none h] at hc
set_option maxRecDepth 100000 in
theorem opsIn.below {w w' : World} (h : opsIn w) (hb : Below w.heap.size w w') : opsIn w' := fun i k hi hk => (hb.cell (p := ⟨_, _, none⟩) h.lt).trans (h i k hi hk)
end Go.Proofs.YtmojpiofdfmdgabGreatDoor
set_option linter.unusedVariables false
namespace Go.Proofs.YtmojpiofdfmdgabGreatDoor
open Go.ChangeShapes Go.WideShapes Go.ChangeAt Go.RowKit

/-- block g holds these cells, all of them free to be written -/
def bk (w : World) (g : Nat) (t : TypeId) (cs : List Value) : Prop := w.heap[g]? = some (.cells cs.toArray t (0, 0))
set_option maxRecDepth 100000 in
theorem bk.lt {w : World} {g : Nat} {t : TypeId} {cs : List Value} (h : bk w g t cs) : g < w.heap.size := (Array.getElem?_eq_some_iff.1 h).1
set_option maxRecDepth 100000 in
theorem bk.cell {w : World} {g : Nat} {t : TypeId} {cs : List Value} (h : bk w g t cs) (i : Nat) : w.cell? ⟨g, i, none⟩ = cs[i]? := by
  rw [cell_of_row w g i cs.toArray t (0, 0) h]; simp
set_option maxRecDepth 100000 in
theorem bk.frozen {w : World} {g : Nat} {t : TypeId} {cs : List Value} (h : bk w g t cs) (i : Nat) : w.frozen? ⟨g, i, none⟩ = false := by
  unfold bk at h; simp [World.frozen?, h]
set_option maxRecDepth 100000 in
theorem bk.below {w w' : World} {g B : Nat} {t : TypeId} {cs : List Value} (h : bk w g t cs) (hb : Below B w w') (hg : g < B) : bk w' g t cs := (hb.block g hg).trans h
set_option maxRecDepth 100000 in
theorem bk.alloc {w : World} {g : Nat} {t : TypeId} {cs : List Value} (h : bk w g t cs) (o : Obj) : bk (w.alloc o) g t cs := (Below.heap_alloc w o g h.lt).trans h
set_option maxRecDepth 100000 in
theorem bk.new (w : World) (t : TypeId) (cs : List Value) : bk (w.alloc (.cells cs.toArray t)) w.heap.size t cs := heap_alloc_new w _
set_option maxRecDepth 100000 in
theorem bk.set {w : World} {g : Nat} {t : TypeId} {cs : List Value} (h : bk w g t cs) (i : Nat) (u : Value) : bk (w.setCell ⟨g, i, none⟩ u) g t (cs.set i u) := by
  unfold bk at h ⊢
  simp [World.setCell, Array.getElem?_modify, h]
set_option maxRecDepth 100000 in
theorem bk.drew {w : World} {g : Nat} {t : TypeId} {cs : List Value} (h : bk w g t cs) : bk w.drew g t cs := h
set_option maxRecDepth 100000 in
theorem bk.drewN {w : World} {g : Nat} {t : TypeId} {cs : List Value} (h : bk w g t cs) (n : Nat) : bk (w.drewN n) g t cs := h
set_option maxRecDepth 100000 in
theorem below_set {B : Nat} {a w : World} {g i : Nat} {u : Value} (h : Below B a w) (hg : B ≤ g) : Below B a (w.setCell ⟨g, i, none⟩ u) := h.setCell (p := ⟨g, i, none⟩) hg u
set_option maxRecDepth 100000 in
theorem below_new {B : Nat} {a w : World} {o : Obj} (h : Below B a w) (hg : B ≤ w.heap.size) : Below B a (w.alloc o) := h.alloc hg o
end Go.Proofs.YtmojpiofdfmdgabGreatDoor
