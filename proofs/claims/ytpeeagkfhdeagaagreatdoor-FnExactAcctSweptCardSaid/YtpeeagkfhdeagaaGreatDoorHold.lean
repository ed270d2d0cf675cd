/- Holds: their layout, and what the law package's helpers do with them; no conditions. -/
import Derived.Test.YtpeeagkfhdeagaaGreatDoorField
import Derived.Test.YtpeeagkfhdeagaaGreatDoorStrS
set_option linter.unusedVariables false
namespace Go.Proofs.YtpeeagkfhdeagaaGreatDoor
open Go.ChangeShapes Go.WideShapes Go.ChangeAt Go.RowKit

/-- id, amount, due -/
abbrev HoldD := ByteArray × Int × Int
def noH : HoldD := (⟨#[]⟩, 0, 0)
def HoldR : Rep HoldD := Rep.pair Rep.str (Rep.pair (Rep.int .i64) (Rep.int .i64))
def HoldsR : Rep (List HoldD) := HoldR.slice
def hCells (x : HoldD) : List Value := [.string x.1, .int .i64 x.2.1, .int .i64 x.2.2]
set_option maxRecDepth 100000 in
theorem hold_rd {hi : Nat} {w : World} {cs : List Value} {x : HoldD} : HoldR.rd hi w cs x ↔ cs = hCells x := by
  constructor
  · rintro ⟨a, b, rfl, rfl, c, d, rfl, rfl, rfl⟩; rfl
  · rintro rfl; exact ⟨[_], [_, _], rfl, rfl, [_], [_], rfl, rfl, rfl⟩
set_option maxRecDepth 100000 in
theorem hold_own {w : World} {cs : List Value} {x : HoldD} {F : List Nat} : HoldR.own w cs x F ↔ cs = hCells x ∧ F = [] := by
  constructor
  · rintro ⟨a, b, G, H, rfl, rfl, ⟨rfl, rfl⟩, c, d, I, J, rfl, rfl, ⟨rfl, rfl⟩, ⟨rfl, rfl⟩⟩; exact ⟨rfl, rfl⟩
  · rintro ⟨rfl, rfl⟩; exact ⟨[_], [_, _], [], [], rfl, rfl, ⟨rfl, rfl⟩, [_], [_], [], [], rfl, rfl, ⟨rfl, rfl⟩, ⟨rfl, rfl⟩⟩
set_option maxRecDepth 100000 in
/-- a slice of holds: its value and its cells -/
theorem holds_rd {hi : Nat} {w : World} {v : Value} {l : List HoldD} (h : HoldsR.rd hi w [v] l) :
    ∃ A c, v = .slice A l.length c ∧ l.length ≤ c ∧ ∀ j x, l[j]? = some x → ∃ b off, A = some ⟨b, off, none⟩ ∧ b < hi ∧ w.cell? ⟨b, off + j * 3, none⟩ = some (.string x.1) ∧ w.cell? ⟨b, off + j * 3 + 1, none⟩ = some (.int .i64 x.2.1) ∧ w.cell? ⟨b, off + j * 3 + 2, none⟩ = some (.int .i64 x.2.2) := by
  obtain ⟨A, c, hv, hc, hj⟩ := h
  simp only [List.cons.injEq, and_true] at hv
  refine ⟨A, c, hv, hc, fun j x hx => ?_⟩
  obtain ⟨b, off, xs, hA, hb, hr, ha⟩ := hj j x hx
  rw [hold_rd] at hr
  subst hr
  exact ⟨b, off, hA, hb, ha 0 _ rfl, ha 1 _ rfl, ha 2 _ rfl⟩
set_option maxRecDepth 100000 in
/-- a row of holds in one block of one's own -/
theorem holds_mine {lo hi : Nat} {w : World} {b off c n : Nat} {l : List HoldD} (hn : n = l.length) (hc : n ≤ c) (h1 : lo ≤ b) (h2 : b < hi) (h : filled w b off 3 n n fun j => hCells (l.getD j (⟨#[]⟩, 0, 0))) : HoldsR.mine lo hi w [.slice (some ⟨b, off, none⟩) n c] l := by
  subst hn
  refine ⟨b :: List.flatten (l.map fun _ => []), ⟨some ⟨b, off, none⟩, c, rfl, hc, .inr ⟨b, off, _, rfl, rfl, by simp, fun j x G hx hG => ?_⟩⟩, ?_, ?_⟩
  · have hj := (List.getElem?_eq_some_iff.1 hx).1
    have hG' : G = [] := by rw [List.getElem?_map, hx] at hG; simpa using hG.symm
    subst hG'
    have hx' : l.getD j (⟨#[]⟩, 0, 0) = x := by rw [List.getD_eq_getElem?_getD, hx]; rfl
    have ha := h.at_ j hj
    rw [hx'] at ha
    exact ⟨_, hold_own.2 ⟨rfl, rfl⟩, ha, fun t ht => (h.cells hj t ht).2⟩
  · have : List.flatten (l.map fun _ => ([] : List Nat)) = [] := by simp
    rw [this]; simp
  · have : List.flatten (l.map fun _ => ([] : List Nat)) = [] := by simp
    rw [this]
    intro b' hb'
    rw [List.mem_singleton.1 hb']
    exact ⟨h1, h2⟩
set_option maxRecDepth 100000 in
theorem toHold_any (x : HoldD) (w : World) :
    Calls Tryz.prog 56 #[.agg #[.string x.1, .int .i64 x.2.1, .int .i64 x.2.2]] w fun e w' => e = .returned (.agg #[.string x.1, .int .i64 x.2.1, .int .i64 x.2.2]) ∧ Below w.heap.size w w' := by
  go_enter Tryz.func56, Tryz.ntmps56
  go_wp2
  exact bodyPost_ret (v := .agg #[.string x.1, .int .i64 x.2.1, .int .i64 x.2.2]) (by simp [results, Tryz.results56, go_sem]) rfl ⟨rfl, (((Below.refl _ _).alloc (Nat.le_refl _) _).alloc (by simp) _).alloc (by simp; omega) _⟩

set_option maxRecDepth 100000 in
theorem infoHold : (Tryz.prog.info? 79).map (fun i => (i.zero.map (·.cells), i.size, i.bytes)) = some (some #[.string ⟨#[]⟩, .int .i64 0, .int .i64 0], 3, 32) := by kernel_rfl
set_option maxRecDepth 100000 in
set_option maxHeartbeats 1600000 in
theorem toHolds_any (hi : Nat) (v : Value) (l : List HoldD) (w : World) (hn : l.length ≤ 1048576) (h : HoldsR.rd hi w [v] l) (hhi : hi ≤ w.heap.size) :
    Calls Tryz.prog 23 #[v] w fun e w' => ∃ u, e = .returned u ∧ HoldsR.mine w.heap.size w'.heap.size w' [u] l ∧ Below w.heap.size w w' := by
  obtain ⟨A, c, rfl, hc, h⟩ := holds_rd h
  have HR := Lib.hid h
  clear h
  have hmk := make_run (P := Tryz.prog) 31 79 #[.string ⟨#[]⟩, .int .i64 0, .int .i64 0] 3 32 Tryz.underlying31 infoHold l.length (by omega) (by omega)
  go_enter Tryz.func23, Tryz.ntmps23
  go_wp2
  go_loopw [4] (fun iv wr => ∃ i : Nat, i ≤ l.length ∧ iv = .int .i64 i ∧ Hid (filled wr w.heap.size 0 3 l.length i fun j => hCells (l.getD j (⟨#[]⟩, 0, 0))) ∧ w.heap.size < wr.heap.size ∧ Hid (Below w.heap.size w wr)) (fun iv _ => l.length - (intOf iv).toNat)
  case atStart => exact ⟨0, Nat.zero_le _, rfl, Lib.hid (filled.start (room_made w _ _ _)), by simp, Lib.hid ((Below.refl _ _).alloc (Nat.le_refl _) _)⟩
  case round =>
    obtain ⟨i, hi, rfl, HF, hz, HB⟩ := hrel
    by_cases hin : i < l.length
    · obtain ⟨x, hx⟩ : ∃ x, l[i]? = some x := ⟨_, List.getElem?_eq_getElem hin⟩
      obtain ⟨b, off, rfl, hbl, c0, c1, c2⟩ := HR.out i x hx
      have HX := Lib.hid hx
      clear hx
      have c0 := (HB.out.cell (p := ⟨b, off + i * 3, none⟩) (show b < w.heap.size by omega)).trans c0
      have c1 := (HB.out.cell (p := ⟨b, off + i * 3 + 1, none⟩) (show b < w.heap.size by omega)).trans c1
      have c2 := (HB.out.cell (p := ⟨b, off + i * 3 + 2, none⟩) (show b < w.heap.size by omega)).trans c2
      have g1 : (i : Int) < (l.length : Int) := by omega
      have g2 : 0 ≤ (i : Int) := by omega
      go_wp2_with fail
      refine (toHold_any x _).mono ?_
      rintro e w2 ⟨rfl, hb2⟩
      have HF2 : Hid (filled w2 w.heap.size 0 3 l.length i fun j => hCells (l.getD j (⟨#[]⟩, 0, 0))) := Lib.hid (HF.out.keep (hb2.block _ hz))
      obtain ⟨⟨u0, d0⟩, f0⟩ := HF2.out.cells hin 0 (by omega)
      obtain ⟨⟨u1, d1⟩, f1⟩ := HF2.out.cells hin 1 (by omega)
      obtain ⟨⟨u2, d2⟩, f2⟩ := HF2.out.cells hin 2 (by omega)
      simp only [Nat.zero_add, Nat.add_zero] at d0 f0 d1 f1 d2 f2
      have hz2 := hb2.size
      have HB2 : Hid (Below w.heap.size w w2) := Lib.hid (HB.out.trans (hb2.mono (by omega)))
      clear hb2
      go_wp2
      go_roundw
      case rel =>
        have hnx := HF2.out.next hin (fun j _ => rfl)
        rw [getD_of HX.out, Nat.zero_add] at hnx
        exact ⟨i + 1, by omega, by go_num, Lib.hid hnx, by simp; omega, Lib.hid (setsAt_below (hCells x) w2 w.heap.size (i * 3) HB2.out (Nat.le_refl _))⟩
      case measure => simp [intOf] <;> omega
    · obtain rfl : i = l.length := by omega
      go_wp2
      go_ret
      exact ⟨_, rfl, holds_mine rfl (Nat.le_refl _) (Nat.le_refl _) hz HF.out, HB.out⟩

set_option maxRecDepth 100000 in
theorem eqHold_any (x : HoldD) (w : World) :
    Calls Tryz.prog 62 #[.agg #[.string x.1, .int .i64 x.2.1, .int .i64 x.2.2], .agg #[.string x.1, .int .i64 x.2.1, .int .i64 x.2.2]] w fun e w' => e = .returned (.bool true) ∧ Below w.heap.size w w' := by
  go_enter Tryz.func62, Tryz.ntmps62
  go_wp2
  go_ret
  exact ⟨rfl, ((Below.refl _ _).alloc (Nat.le_refl _) _).alloc (by simp) _⟩
set_option maxRecDepth 100000 in
set_option maxHeartbeats 1600000 in
theorem eqHolds_any (hi1 hi2 : Nat) (va vb : Value) (l : List HoldD) (w : World) (hn : l.length ≤ 4611686018427387904) (h1 : HoldsR.rd hi1 w [va] l) (h2 : HoldsR.rd hi2 w [vb] l) (hh1 : hi1 ≤ w.heap.size) (hh2 : hi2 ≤ w.heap.size) :
    Calls Tryz.prog 30 #[va, vb] w fun e w' => e = .returned (.bool true) ∧ Below w.heap.size w w' := by
  obtain ⟨A1, c1, rfl, -, h1⟩ := holds_rd h1
  obtain ⟨A2, c2, rfl, -, h2⟩ := holds_rd h2
  have H1 := Lib.hid h1
  have H2 := Lib.hid h2
  clear h1 h2
  go_enter Tryz.func30, Tryz.ntmps30
  go_wp2
  go_loopw [5] (fun iv wr => ∃ k : Nat, k ≤ l.length ∧ iv = .int .i64 k ∧ Hid (Below w.heap.size w wr) ∧ w.heap.size ≤ wr.heap.size) (fun iv _ => l.length - (intOf iv).toNat)
  case atStart => exact ⟨0, Nat.zero_le _, rfl, Lib.hid (Below.refl _ _), Nat.le_refl _⟩
  case round =>
    obtain ⟨k, hk, rfl, HB, hz⟩ := hrel
    by_cases hlt : k < l.length
    · obtain ⟨x, hx⟩ : ∃ x, l[k]? = some x := ⟨_, List.getElem?_eq_getElem hlt⟩
      obtain ⟨b1, o1, rfl, hb1, x1, y1, v1⟩ := H1.out k x hx
      obtain ⟨b2, o2, rfl, hb2, x2, y2, v2⟩ := H2.out k x hx
      have x1 := (HB.out.cell (p := ⟨b1, _, none⟩) (show b1 < w.heap.size by omega)).trans x1
      have y1 := (HB.out.cell (p := ⟨b1, _, none⟩) (show b1 < w.heap.size by omega)).trans y1
      have v1 := (HB.out.cell (p := ⟨b1, _, none⟩) (show b1 < w.heap.size by omega)).trans v1
      have x2 := (HB.out.cell (p := ⟨b2, _, none⟩) (show b2 < w.heap.size by omega)).trans x2
      have y2 := (HB.out.cell (p := ⟨b2, _, none⟩) (show b2 < w.heap.size by omega)).trans y2
      have v2 := (HB.out.cell (p := ⟨b2, _, none⟩) (show b2 < w.heap.size by omega)).trans v2
      have g1 : (k : Int) < (l.length : Int) := by omega
      have g2 : 0 ≤ (k : Int) := by omega
      clear hx
      go_wp2
      go_region_held3 (fun w' => w'.cell? ⟨b1, o1 + k * 3, none⟩ = some (.string x.1) ∧ w'.cell? ⟨b1, o1 + k * 3 + 1, none⟩ = some (.int .i64 x.2.1) ∧ w'.cell? ⟨b1, o1 + k * 3 + 2, none⟩ = some (.int .i64 x.2.2) ∧ w'.cell? ⟨b2, o2 + k * 3, none⟩ = some (.string x.1) ∧ w'.cell? ⟨b2, o2 + k * 3 + 1, none⟩ = some (.int .i64 x.2.1) ∧ w'.cell? ⟨b2, o2 + k * 3 + 2, none⟩ = some (.int .i64 x.2.2)) (go_keep) ((go_at_call 62; refine (eqHold_any x _).mono ?_; rintro e w2 ⟨rfl, hb⟩; have q1 := (hb.cell (p := ⟨b1, o1 + k * 3, none⟩) (show b1 < wr.heap.size by omega)).trans x1; have q2 := (hb.cell (p := ⟨b1, o1 + k * 3 + 1, none⟩) (show b1 < wr.heap.size by omega)).trans y1; have q3 := (hb.cell (p := ⟨b1, o1 + k * 3 + 2, none⟩) (show b1 < wr.heap.size by omega)).trans v1; have q4 := (hb.cell (p := ⟨b2, o2 + k * 3, none⟩) (show b2 < wr.heap.size by omega)).trans x2; have q5 := (hb.cell (p := ⟨b2, o2 + k * 3 + 1, none⟩) (show b2 < wr.heap.size by omega)).trans y2; have q6 := (hb.cell (p := ⟨b2, o2 + k * 3 + 2, none⟩) (show b2 < wr.heap.size by omega)).trans v2))
      have hz2 := hb.size
      have HB2 : Hid (Below w.heap.size w w2) := Lib.hid ((HB.out.trans (below_drew _ _)).trans (hb.mono hz))
      clear hb
      go_wp2
      go_roundw
      case rel => exact ⟨k + 1, by omega, by go_num, HB2, by have : wr.heap.size ≤ w2.heap.size := hz2; omega⟩
      case measure => simp [intOf] <;> omega
    · go_wp2
      go_ret
      exact ⟨rfl, HB.out⟩

set_option maxRecDepth 100000 in
theorem szHold_any (x : HoldD) (left : Int) (w : World) (hs : x.1.size ≤ maxLen) (h0 : 0 ≤ left) (h1 : left ≤ 1048576) :
    Calls Tryz.prog 45 #[.agg #[.string x.1, .int .i64 x.2.1, .int .i64 x.2.2], .int .i64 left] w (szRes left x.1.size w) := by
  unfold maxLen at hs
  by_cases hlt : left - (x.1.size : Int) < 0
  · go_enter Tryz.func45, Tryz.ntmps45
    go_wp2
    go_ret
    exact ⟨_, rfl, .inl rfl, (Below.refl _ _).alloc (Nat.le_refl _) _⟩
  · go_enter Tryz.func45, Tryz.ntmps45
    go_wp2
    go_ret
    exact ⟨_, rfl, .inr ⟨rfl, by omega⟩, (Below.refl _ _).alloc (Nat.le_refl _) _⟩
def holdsSz (l : List HoldD) : Nat := l.length + (l.map fun x => x.1.size).sum
set_option maxRecDepth 100000 in
set_option maxHeartbeats 1600000 in
theorem szHolds_any (hi : Nat) (v : Value) (l : List HoldD) (left : Int) (w : World) (hn : l.length ≤ maxLen) (hs : ∀ x ∈ l, x.1.size ≤ maxLen) (h : HoldsR.rd hi w [v] l) (hh : hi ≤ w.heap.size) (h0 : 0 ≤ left) (h1 : left ≤ 1048576) :
    Calls Tryz.prog 17 #[v, .int .i64 left] w (szRes left (holdsSz l) w) := by
  obtain ⟨A, c, rfl, hc, h⟩ := holds_rd h
  have HR := Lib.hid h
  have HS := Lib.hid hs
  clear h hs
  unfold maxLen at hn
  by_cases hbig : left - (l.length : Int) < 0
  · go_enter Tryz.func17, Tryz.ntmps17
    go_wp2
    go_ret
    exact ⟨_, rfl, .inl rfl, Below.refl _ _⟩
  have hge : 0 ≤ left - (l.length : Int) := by omega
  go_enter Tryz.func17, Tryz.ntmps17
  go_wp2
  go_loopw [1, 5] (fun nv iv wr => ∃ (i : Nat) (r : Int), i ≤ l.length ∧ iv = .int .i64 i ∧ nv = .int .i64 r ∧ 0 ≤ r ∧ r ≤ 1048576 ∧ Hid (r = left - (l.length : Int) - (sumTo (fun x : HoldD => x.1.size) l i : Nat)) ∧ Hid (Below w.heap.size w wr) ∧ w.heap.size ≤ wr.heap.size) (fun _ iv _ => l.length - (intOf iv).toNat)
  case atStart => exact ⟨0, _, Nat.zero_le _, rfl, rfl, by omega, by omega, Lib.hid (by simp [sumTo]), Lib.hid (Below.refl _ _), Nat.le_refl _⟩
  case round =>
    obtain ⟨i, r, hi, rfl, rfl, hr0, hr1, HV, HB, hz⟩ := hrel
    by_cases hin : i < l.length
    · obtain ⟨x, hx⟩ : ∃ x, l[i]? = some x := ⟨_, List.getElem?_eq_getElem hin⟩
      obtain ⟨b, off, rfl, hbl, c0, c1, c2⟩ := HR.out i x hx
      have hxs := HS.out x (List.mem_of_getElem? hx)
      have HN := Lib.hid (sumTo_next (fun x : HoldD => x.1.size) l i x hx)
      clear hx
      have c0 := (HB.out.cell (p := ⟨b, off + i * 3, none⟩) (show b < w.heap.size by omega)).trans c0
      have c1 := (HB.out.cell (p := ⟨b, off + i * 3 + 1, none⟩) (show b < w.heap.size by omega)).trans c1
      have c2 := (HB.out.cell (p := ⟨b, off + i * 3 + 2, none⟩) (show b < w.heap.size by omega)).trans c2
      have g1 : (i : Int) < (l.length : Int) := by omega
      have g2 : 0 ≤ (i : Int) := by omega
      go_wp2_with fail
      refine (szHold_any x r _ hxs hr0 hr1).mono ?_
      rintro e w2 ⟨r2, rfl, hr2, hb2⟩
      have hz2 := hb2.size
      have HB2 : Hid (Below w.heap.size w w2) := Lib.hid (HB.out.trans (hb2.mono (by omega)))
      clear hb2
      rcases hr2 with rfl | ⟨hr2, hr3⟩
      · go_wp2
        go_ret
        exact ⟨_, rfl, .inl rfl, HB2.out⟩
      · have HR2 := Lib.hid hr2
        have hr4 : r2 ≤ 1048576 := by omega
        clear hr2
        go_wp2
        go_roundw
        case rel => exact ⟨i + 1, r2, by omega, by go_num, rfl, hr3, hr4, Lib.hid (by rw [HN.out, HR2.out, HV.out]; omega), HB2, by omega⟩
        case measure => simp [intOf] <;> omega
    · obtain rfl : i = l.length := by omega
      go_wp2
      go_ret
      exact ⟨r, rfl, .inr ⟨by rw [HV.out, sumTo_all]; unfold holdsSz; omega, hr0⟩, HB.out⟩
def holdMark (k : Int) (j : Nat) : HoldD := (⟨(markOf (k + 3 * (j : Int))).toArray⟩, k + 3 * (j : Int) + 1, k + 3 * (j : Int) + 1 + 1)
def holdsMark (k : Int) (n : Nat) : List HoldD := (List.range n).map (holdMark k)
set_option maxRecDepth 100000 in
theorem holdsMark_len (k : Int) (n : Nat) : (holdsMark k n).length = n := by simp [holdsMark]
set_option maxRecDepth 100000 in
theorem holdsMark_get (k : Int) (n j : Nat) (h : j < n) : (holdsMark k n).getD j (⟨#[]⟩, 0, 0) = holdMark k j := by simp [holdsMark, h]
set_option maxRecDepth 100000 in
theorem holdsMark_at (k : Int) (n j : Nat) (h : j < n) : (holdsMark k n)[j]? = some (holdMark k j) := by simp [holdsMark, h]
set_option maxRecDepth 100000 in
/-- a slice of holds of one's own: empty, or one block that may be written -/
theorem holds_own {lo hi : Nat} {w : World} {v : Value} {l : List HoldD} (h : HoldsR.mine lo hi w [v] l) :
    ∃ A c, v = .slice A l.length c ∧ l.length ≤ c ∧ (l = [] ∨ ∃ b off, A = some ⟨b, off, none⟩ ∧ lo ≤ b ∧ b < hi ∧ roomL w b off (l.length * 3)) := by
  obtain ⟨F, ⟨A, c, hv, hc, h⟩, -, hF⟩ := h
  simp only [List.cons.injEq, and_true] at hv
  refine ⟨A, c, hv, hc, ?_⟩
  rcases h with ⟨rfl, _⟩ | ⟨b, off, Fs, rfl, rfl, hl, h⟩
  · exact .inl rfl
  · have hb := hF b (List.mem_cons_self ..)
    refine .inr ⟨b, off, rfl, hb.1, hb.2, fun t ht => ?_⟩
    have hj : t / 3 < l.length := by omega
    obtain ⟨xs, h1, h2, h3⟩ := h (t / 3) _ _ (List.getElem?_eq_getElem hj) (List.getElem?_eq_getElem (by omega))
    rw [hold_own] at h1
    obtain ⟨rfl, -⟩ := h1
    have hk : HoldR.k = 3 := rfl
    rw [hk] at h2 h3
    have e : off + t = off + t / 3 * 3 + t % 3 := by omega
    rw [e]
    refine ⟨?_, h3 (t % 3) (by omega)⟩
    have hm : t % 3 = 0 ∨ t % 3 = 1 ∨ t % 3 = 2 := by omega
    rcases hm with m | m | m
    · rw [m]; exact ⟨_, h2 0 _ rfl⟩
    · rw [m]; exact ⟨_, h2 1 _ rfl⟩
    · rw [m]; exact ⟨_, h2 2 _ rfl⟩
set_option maxRecDepth 100000 in
set_option maxHeartbeats 1600000 in
theorem markHolds_any (lo hi : Nat) (v : Value) (l : List HoldD) (k : Int) (w : World) (hn : l.length ≤ 2000000) (hk0 : 0 < k) (hk1 : k ≤ 1000000) (h : HoldsR.mine lo hi w [v] l) (hh : hi ≤ w.heap.size) :
    Calls Tryz.prog 37 #[v, .int .i64 k] w fun e w' => e = .returned (.int .i64 (k + 3 * (l.length : Int))) ∧ HoldsR.mine lo hi w' [v] (holdsMark k l.length) ∧ Turned lo hi w w' := by
  obtain ⟨A, c, rfl, hc, hm⟩ := holds_own h
  clear h
  rcases hm with rfl | ⟨b, off, rfl, h1, h2, hm⟩
  · go_enter Tryz.func37, Tryz.ntmps37
    go_wp2
    go_loop [1, 5] (fun kv iv => iv = .int .i64 0 ∧ kv = .int .i64 k) (fun _ _ => 0)
    case atStart => exact ⟨rfl, rfl⟩
    case round =>
      obtain ⟨rfl, rfl⟩ := hrel
      go_wp2
      go_ret
      exact ⟨by simp, ⟨[], ⟨A, c, rfl, hc, .inl ⟨rfl, rfl⟩⟩, List.nodup_nil, by simp⟩, Turned.refl _ _ _⟩
  generalize l.length = n at hn hc hm ⊢
  have HM := Lib.hid hm
  clear hm
  go_enter Tryz.func37, Tryz.ntmps37
  go_wp2
  go_loopw [1, 5] (fun kv iv wr => ∃ i : Nat, i ≤ n ∧ iv = .int .i64 i ∧ kv = .int .i64 (k + 3 * (i : Int)) ∧ Hid (filled wr b off 3 n i fun j => hCells (holdMark k j)) ∧ Hid (Turned lo hi w wr) ∧ w.heap.size ≤ wr.heap.size) (fun _ iv _ => n - (intOf iv).toNat)
  case atStart => exact ⟨0, Nat.zero_le _, rfl, val_int (by simp), Lib.hid (filled.start HM.out), Lib.hid (Turned.refl _ _ _), Nat.le_refl _⟩
  case round =>
    obtain ⟨i, hi', rfl, rfl, HF, HT, hz⟩ := hrel
    by_cases hin : i < n
    · have g1 : (i : Int) < (n : Int) := by omega
      have g2 : 0 ≤ (i : Int) := by omega
      go_wp2_with fail
      refine (markText_any (k + 3 * (i : Int)) _ (by omega) (by omega)).mono ?_
      rintro e w2 ⟨rfl, hb2⟩
      have HF2 : Hid (filled w2 b off 3 n i fun j => hCells (holdMark k j)) := Lib.hid (HF.out.keep (hb2.block b (show b < _ by omega)))
      obtain ⟨⟨u0, d0⟩, f0⟩ := HF2.out.cells hin 0 (by omega)
      obtain ⟨⟨u1, d1⟩, f1⟩ := HF2.out.cells hin 1 (by omega)
      obtain ⟨⟨u2, d2⟩, f2⟩ := HF2.out.cells hin 2 (by omega)
      simp only [Nat.add_zero] at d0 f0
      have hz2 := hb2.size
      have HT2 : Hid (Turned lo hi w w2) := Lib.hid (HT.out.trans (Turned.of_below hb2))
      clear hb2
      go_wp2
      go_roundw
      case rel => exact ⟨i + 1, by omega, by go_num, val_int (by omega), Lib.hid (HF2.out.next hin (fun _ _ => rfl)), Lib.hid (((HT2.out.set _ _ h1 h2).set _ _ h1 h2).set _ _ h1 h2), by simp [World.setCell]; omega⟩
      case measure => simp [intOf] <;> omega
    · obtain rfl : i = n := by omega
      go_wp2
      go_ret
      refine ⟨rfl, ?_, HT.out⟩
      refine holds_mine (holdsMark_len k i).symm hc h1 h2 ⟨HF.out.room, fun j hj => ?_⟩
      rw [holdsMark_get k i j hj]
      exact HF.out.at_ j hj
set_option maxRecDepth 100000 in
theorem markH_size (k : Int) (h : k ≤ 1000000000) : (markOf k).length ≤ 21 := by
  have := mark_len k h
  unfold markOf
  simp; omega
set_option maxRecDepth 100000 in
set_option maxHeartbeats 1600000 in
theorem heldHolds_any (hi : Nat) (v : Value) (n : Nat) (k : Int) (w : World) (hn : n ≤ 2000000) (hk0 : 0 < k) (hk1 : k ≤ 1000000) (h : HoldsR.rd hi w [v] (holdsMark k n)) (hh : hi ≤ w.heap.size) :
    Calls Tryz.prog 40 #[v, .int .i64 k] w fun e w' => e = .returned (.int .i64 (k + 3 * (n : Int))) ∧ Below w.heap.size w w' := by
  obtain ⟨A, c, hv, hc, h'⟩ := holds_rd h
  rw [holdsMark_len] at hv hc
  have HR := Lib.hid h'
  clear h h'
  subst hv
  go_enter Tryz.func40, Tryz.ntmps40
  go_wp2
  go_loopw [1, 5] (fun kv iv wr => ∃ i : Nat, i ≤ n ∧ iv = .int .i64 i ∧ kv = .int .i64 (k + 3 * (i : Int)) ∧ Hid (Below w.heap.size w wr) ∧ w.heap.size ≤ wr.heap.size) (fun _ iv _ => n - (intOf iv).toNat)
  case atStart => exact ⟨0, Nat.zero_le _, rfl, val_int (by simp), Lib.hid (Below.refl _ _), Nat.le_refl _⟩
  case round =>
    obtain ⟨i, hi', rfl, rfl, HB, hz⟩ := hrel
    by_cases hin : i < n
    · obtain ⟨b, off, rfl, hb, c0, c1, c2⟩ := HR.out i _ (holdsMark_at k n i hin)
      have c0 := (HB.out.cell (p := ⟨b, _, none⟩) (show b < w.heap.size by omega)).trans c0
      have c1 := (HB.out.cell (p := ⟨b, _, none⟩) (show b < w.heap.size by omega)).trans c1
      have c2 := (HB.out.cell (p := ⟨b, _, none⟩) (show b < w.heap.size by omega)).trans c2
      simp only [holdMark] at c0 c1 c2
      have g1 : (i : Int) < (n : Int) := by omega
      have g2 : 0 ≤ (i : Int) := by omega
      have hml := markH_size (k + 3 * (i : Int)) (by omega)
      have HX : Hid (∀ w', Calls Tryz.prog 75 #[.int .i64 (k + 3 * (i : Int))] w' fun e w'' => e = .returned (.string ⟨(markOf (k + 3 * (i : Int))).toArray⟩) ∧ Below w'.heap.size w' w'') := Lib.hid fun w' => markText_any _ w' (by omega) (by omega)
      generalize markOf (k + 3 * (i : Int)) = mk at c0 hml HX
      go_wp2
      go_region_held3 (fun w' => w'.cell? ⟨b, off + i * 3, none⟩ = some (.string ⟨mk.toArray⟩)) (go_keep) ((go_at_call 75; refine (HX.out _).mono ?_; rintro e w2 ⟨rfl, hb2⟩; have q := (hb2.cell (p := ⟨b, off + i * 3, none⟩) (show b < wr.heap.size by omega)).trans c0))
      have c1 := (hb2.cell (p := ⟨b, off + i * 3 + 1, none⟩) (show b < wr.heap.size by omega)).trans c1
      have c2 := (hb2.cell (p := ⟨b, off + i * 3 + 2, none⟩) (show b < wr.heap.size by omega)).trans c2
      have hz2 : wr.heap.size ≤ w2.heap.size := hb2.size
      have HB2 : Hid (Below w.heap.size w w2) := Lib.hid ((HB.out.trans (below_drew _ _)).trans (hb2.mono hz))
      clear hb2
      go_wp2
      go_roundw
      case rel => exact ⟨i + 1, by omega, by go_num, val_int (by omega), HB2, by omega⟩
      case measure => simp [intOf] <;> omega
    · obtain rfl : i = n := by omega
      go_wp2
      go_ret
      exact ⟨rfl, HB.out⟩
end Go.Proofs.YtpeeagkfhdeagaaGreatDoor
