/- Bitmaps of eight bytes: PutBits and GetBits of both; no conditions. -/
import Derived.Test.YtdenopiailffcaaNumsB
import Derived.Test.YtdenopiailffcaaNumsI
import Derived.Test.YtdenopiailffcaaBytesAt
import Derived.Laws.ShiftsVar
import Derived.IntWalk
import Derived.RegionTactic
import Derived.BigRegion
set_option linter.unusedVariables false
namespace Go.Proofs.Ytdenopiailffcaa
open Go.ChangeShapes Go.WideShapes Go.ChangeAt Go.RowKit

/-- the weight of bit k in its byte -/
def wt (k : Int) : Int := 128 / 2 ^ ((k - 1) % 8).toNat
def setB (b : List Int) (k : Int) : List Int := if 1 ≤ k ∧ k ≤ 64 then b.set ((k - 1) / 8).toNat (bits BinOp.or IntKind.u8 (b.getD ((k - 1) / 8).toNat 0) (wt k)) else b
def putB (l : List Int) : List Int := l.foldl setB (List.replicate 8 0)
theorem setB_len (b : List Int) (k : Int) : (setB b k).length = b.length := by unfold setB; split <;> simp
theorem fold_len (l b : List Int) : (l.foldl setB b).length = b.length := by
  induction l generalizing b with
  | nil => rfl
  | cons x l ih => rw [List.foldl_cons, ih, setB_len]
theorem putB_len (l : List Int) : (putB l).length = 8 := by unfold putB; rw [fold_len]; rfl
theorem take_foldl (l : List Int) (k : Nat) (h : k < l.length) : putB (l.take (k + 1)) = setB (putB (l.take k)) (l.getD k 0) := by
  unfold putB
  rw [List.take_succ_eq_append_getElem h, List.foldl_append, List.getD_eq_getElem?_getD, List.getElem?_eq_getElem h]
  rfl

theorem bitPlace_any (k : Int) (w : World) (h1 : 1 ≤ k) (h2 : k ≤ 64) :
    Calls Try.prog 36 #[.int .i64 k] w fun e w' => e = .returned (.tuple #[.int .i64 ((k - 1) / 8), .int .u8 (wt k)]) ∧ ∃ n, w' = w.drewN n := by
  have r1 : IntKind.i64.wrap (k - 1) = k - 1 := IntWalk.i64_in _ (by omega)
  go_enter Try.func36, Try.ntmps36
  go_wp2
  go_quiet (fail)
  go_wp2
  go_ret2
  exact ⟨rfl, _, rfl⟩
theorem in_any (k a b : Int) (w : World) :
    Calls Try.prog 35 #[.int .i64 k, .int .i64 a, .int .i64 b] w fun e w' => e = .returned (.bool (decide (a ≤ k) && decide (k ≤ b))) ∧ w = w' := by
  by_cases h : a ≤ k
  · go_enter Try.func35, Try.ntmps35
    go_wp2
    go_ret
    exact ⟨ret_bool (by simp [h]), rfl⟩
  · have hd : decide (a ≤ k) = false := decide_eq_false h
    go_enter Try.func35, Try.ntmps35
    go_wp2
    go_ret
    exact ⟨ret_bool (by simp), rfl⟩

/-- the row of the bitmap -/
def bmap (b : Nat) (w : World) (l : List Int) : Prop := w.rowIs b 5 8 (fun j => .int .u8 (l.getD j 0))
theorem bmap.start (w : World) : bmap w.heap.size (w.alloc (.cells (madeCells #[.int .u8 0] 8) 5)) (putB []) := (World.rowIs_made w (.int .u8 0) 8 5).congr fun j hj => by
  have : j = 0 ∨ j = 1 ∨ j = 2 ∨ j = 3 ∨ j = 4 ∨ j = 5 ∨ j = 6 ∨ j = 7 := by omega
  rcases this with rfl | rfl | rfl | rfl | rfl | rfl | rfl | rfl <;> rfl
theorem bmap.set {b : Nat} {w : World} {l : List Int} {k y : Int} {i : Nat} (h : bmap b w l) (h1 : 1 ≤ k) (h2 : k ≤ 64) (hl : l.length = 8) (hi : (k - 1) / 8 = (i : Int)) (hy : y = bits BinOp.or IntKind.u8 (l.getD i 0) (wt k)) : bmap b (w.setCell ⟨b, i, none⟩ (.int .u8 y)) (setB l k) := by
  have hs : setB l k = l.set i (bits BinOp.or IntKind.u8 (l.getD i 0) (wt k)) := by unfold setB; rw [if_pos ⟨h1, h2⟩, hi, Int.toNat_natCast]
  rw [hs]
  refine (World.rowIs.set h i _).congr fun j hj => ?_
  by_cases e : j = i
  · subst e
    rw [if_pos rfl, List.getD_eq_getElem?_getD, List.getElem?_set_self (by omega), hy]
    rfl
  · rw [if_neg e]
    congr 1
    rw [List.getD_eq_getElem?_getD, List.getD_eq_getElem?_getD, List.getElem?_set_ne (Ne.symm e)]
theorem bmap.done {b lo : Nat} {w : World} {l : List Int} (h : bmap b w l) (hl : l.length = 8) (hlo : lo ≤ b) : nums .u8 lo w.heap.size w (.slice (some ⟨b, 0, none⟩) 8 8) l :=
  ⟨some ⟨b, 0, none⟩, 8, by rw [hl], by omega, fun j hj => ⟨b, 0, rfl, hlo, World.rowIs.lt h, by rw [Nat.zero_add]; exact World.rowIs.cell h (by omega), World.rowIs.frozen h _⟩⟩
theorem makeEight (w : World) : (Instr.makeSlice 22 (.int .i64 8) (.int .i64 8)).run Try.prog w = .ok (.slice (some ⟨w.heap.size, 0, none⟩) 8 8) (w.alloc (.cells (madeCells #[.int .u8 0] 8) 5)) :=
  run_make_row' (P := Try.prog) 22 5 (.int .u8 0) 1 Try.underlying22 infoU8 rfl .i64 .i64 8 (by omega) (by omega) w
def resN (L : List Int) (w : World) (e : Ending) (w' : World) : Prop := ∃ v, e = .returned v ∧ nums .u8 w.heap.size w'.heap.size w' v L ∧ Below w.heap.size w w'

set_option maxRecDepth 100000 in
set_option maxHeartbeats 1600000 in
theorem specPutBits_any (hi : Nat) (v : Value) (l : List Int) (w : World) (hn : l.length ≤ 1073741824) (h : rd .i64 hi w v l) (hhi : hi ≤ w.heap.size) :
    Calls Try.prog 18 #[v] w (resN (putB l) w) := by
  obtain ⟨A, c, rfl, hc, hj⟩ := h
  have HR := Lib.hid hj
  clear hj
  have hmk := fun w => makeEight w
  go_enter Try.func18, Try.ntmps18
  go_wp2
  go_loopw [5, 9] (fun _ iv wr => ∃ k : Nat, k ≤ l.length ∧ iv = .int .i64 (k : Int) ∧ bmap w.heap.size wr (putB (l.take k)) ∧ Below w.heap.size w wr) (fun _ iv _ => l.length - (intOf iv).toNat)
  case atStart => exact ⟨0, Nat.zero_le _, rfl, bmap.start w, (Below.refl _ _).alloc (Nat.le_refl _) _⟩
  case round =>
    obtain ⟨k, hk, rfl, hm, hb⟩ := hrel
    have HM := Lib.hid hm
    by_cases hlt : k < l.length
    · obtain ⟨b, off, rfl, hbl, hcell⟩ := HR.out k hlt
      have hcell := (hb.cell (p := ⟨b, off + k, none⟩) (show b < w.heap.size by omega)).trans hcell
      have HT := Lib.hid (take_foldl l k hlt)
      have HL := Lib.hid (putB_len (l.take k))
      generalize l.getD k 0 = x at hcell HT
      have g1 : (k : Int) < (l.length : Int) := by omega
      have g2 : 0 ≤ (k : Int) := by omega
      by_cases hx : 1 ≤ x ∧ x ≤ 64
      · obtain ⟨hx1, hx2⟩ := hx
        obtain ⟨i, hi'⟩ : ∃ i : Nat, (x - 1) / 8 = (i : Int) := ⟨((x - 1) / 8).toNat, by omega⟩
        have hi8 : i < 8 := by omega
        have hdst : wr.cell? ⟨w.heap.size, i, none⟩ = _ := World.rowIs.cell hm hi8
        have hfr := World.rowIs.frozen hm i
        have r1 : IntKind.i64.wrap (x - 1) = x - 1 := IntWalk.i64_in _ (by omega)
        have g3 : (0 : Int) ≤ (i : Int) := by omega
        have g4 : (i : Int) < 8 := by omega
        have d1 : decide (1 ≤ x) = true := decide_eq_true hx1
        have d2 : decide (x ≤ 64) = true := decide_eq_true hx2
        have HI := Lib.hid hi'
        clear hm
        go_wp2_with (go_at_call 35; refine (in_any x 1 64 _).mono ?_; rintro e w1 ⟨rfl, rfl⟩)
        go_region
        go_wp2
        go_roundw
        case rel => exact ⟨k + 1, by omega, by go_num, by rw [HT.out]; exact HM.out.set hx1 hx2 HL.out HI.out rfl, (hb.setCell (Nat.le_refl _) _).drew⟩
        case measure => simp [intOf] <;> omega
      · have hd : (decide (1 ≤ x) && decide (x ≤ 64)) = false := by
          cases hq : (decide (1 ≤ x) && decide (x ≤ 64))
          · rfl
          · simp only [Bool.and_eq_true, decide_eq_true_eq] at hq; exact absurd hq hx
        have HS : Hid (setB (putB (l.take k)) x = putB (l.take k)) := Lib.hid (by unfold setB; rw [if_neg hx])
        have HD := Lib.hid hd
        clear hm hx hd
        go_wp2_with (go_at_call 35; refine (in_any x 1 64 _).mono ?_; rw [HD.out]; rintro e w1 ⟨rfl, rfl⟩)
        go_roundw
        case rel => exact ⟨k + 1, by omega, by go_num, by rw [HT.out, HS.out]; exact HM.out, hb⟩
        case measure => simp [intOf] <;> omega
    · obtain rfl : k = l.length := by omega
      have HN := Lib.hid (hm.done (putB_len _) (Nat.le_refl _))
      clear hm
      go_wp2
      go_ret
      have := HN.out
      rw [List.take_of_length_le (Nat.le_refl _)] at this
      exact ⟨_, rfl, this, hb⟩

set_option maxRecDepth 100000 in
set_option maxHeartbeats 1600000 in
theorem implPutBits_any (hi : Nat) (v : Value) (l : List Int) (w : World) (hn : l.length ≤ 1073741824) (h : rd .i64 hi w v l) (hhi : hi ≤ w.heap.size) :
    Calls Try.prog 20 #[v] w (resN (putB l) w) := by
  obtain ⟨A, c, rfl, hc, hj⟩ := h
  have HR := Lib.hid hj
  clear hj
  have hmk := fun w => makeEight w
  go_enter Try.func20, Try.ntmps20
  go_wp2
  go_loopw [5, 6, 7, 11] (fun _ _ _ iv wr => ∃ k : Nat, k ≤ l.length ∧ iv = .int .i64 (k : Int) ∧ bmap w.heap.size wr (putB (l.take k)) ∧ Below w.heap.size w wr) (fun _ _ _ iv _ => l.length - (intOf iv).toNat)
  case atStart => exact ⟨0, Nat.zero_le _, rfl, bmap.start w, (Below.refl _ _).alloc (Nat.le_refl _) _⟩
  case round =>
    obtain ⟨k, hk, rfl, hm, hb⟩ := hrel
    have HM := Lib.hid hm
    by_cases hlt : k < l.length
    · obtain ⟨b, off, rfl, hbl, hcell⟩ := HR.out k hlt
      have hcell := (hb.cell (p := ⟨b, off + k, none⟩) (show b < w.heap.size by omega)).trans hcell
      have HT := Lib.hid (take_foldl l k hlt)
      have HL := Lib.hid (putB_len (l.take k))
      generalize l.getD k 0 = x at hcell HT
      have g1 : (k : Int) < (l.length : Int) := by omega
      have g2 : 0 ≤ (k : Int) := by omega
      by_cases hx : 1 ≤ x ∧ x ≤ 64
      · obtain ⟨hx1, hx2⟩ := hx
        obtain ⟨i, hi'⟩ : ∃ i : Nat, (x - 1) / 8 = (i : Int) := ⟨((x - 1) / 8).toNat, by omega⟩
        have hi8 : i < 8 := by omega
        have g3 : (0 : Int) ≤ (i : Int) := by omega
        have g4 : (i : Int) < 8 := by omega
        have HI := Lib.hid hi'
        clear hm
        go_wp2_with fail
        refine (bitPlace_any x _ hx1 hx2).mono ?_
        rw [HI.out]
        rintro e w1 ⟨rfl, q, rfl⟩
        have hm := HM.out
        have hdst : (wr.drewN q).cell? ⟨w.heap.size, i, none⟩ = _ := World.rowIs.cell hm hi8
        have hfr : (wr.drewN q).frozen? ⟨w.heap.size, i, none⟩ = _ := World.rowIs.frozen hm i
        clear hm
        go_wp2
        go_roundw
        case rel => exact ⟨k + 1, by omega, by go_num, by rw [HT.out]; exact HM.out.set hx1 hx2 HL.out HI.out rfl, (below_drewN hb q).setCell (Nat.le_refl _) _⟩
        case measure => simp [intOf] <;> omega
      · have HS : Hid (setB (putB (l.take k)) x = putB (l.take k)) := Lib.hid (by unfold setB; rw [if_neg hx])
        by_cases hx1 : x < 1
        · clear hm hx
          go_wp2
          go_roundw
          case rel => exact ⟨k + 1, by omega, by go_num, by rw [HT.out, HS.out]; exact HM.out, hb⟩
          case measure => simp [intOf] <;> omega
        · have hx2 : 64 < x := by omega
          clear hm hx
          go_wp2
          go_roundw
          case rel => exact ⟨k + 1, by omega, by go_num, by rw [HT.out, HS.out]; exact HM.out, hb⟩
          case measure => simp [intOf] <;> omega
    · obtain rfl : k = l.length := by omega
      have HN := Lib.hid (hm.done (putB_len _) (Nat.le_refl _))
      clear hm
      go_wp2
      go_ret
      have := HN.out
      rw [List.take_of_length_le (Nat.le_refl _)] at this
      exact ⟨_, rfl, this, hb⟩

/-- is bit k (from 1 on) of these bytes set? -/
def bitAt (p : List Int) (i : Nat) : Bool := decide (p.getD (i / 8) 0 / 2 ^ (7 - i % 8) % 2 = 1)
def getB (p : List Int) (n : Nat) : List Int := ((List.range n).filter (bitAt p)).map fun (i : Nat) => (i : Int) + 1
theorem getB_step (p : List Int) (n : Nat) : getB p (n + 1) = getB p n ++ (if bitAt p n = true then [(n : Int) + 1] else []) := by
  unfold getB
  rw [List.range_succ, List.filter_append, List.map_append]
  congr 1
  cases h : bitAt p n <;> simp [h]
theorem getB_len (p : List Int) (n : Nat) : (getB p n).length ≤ n := by
  unfold getB
  rw [List.length_map]
  exact Nat.le_trans (List.length_filter_le _ _) (by simp)
theorem bit_and : ∀ x < 256, ∀ j < 8, (bits BinOp.and IntKind.u8 ((x : Nat) : Int) (128 / 2 ^ (((j : Nat) : Int)).toNat) != 0) = decide (((x : Nat) : Int) / 2 ^ (7 - j) % 2 = 1) := by decide +kernel
theorem bit_wt {x : Int} (i : Nat) (h0 : 0 ≤ x) (h1 : x ≤ 255) : (bits BinOp.and IntKind.u8 x (wt ((i : Int) + 1)) != 0) = decide (x / 2 ^ (7 - i % 8) % 2 = 1) := by
  have := bit_and x.toNat (by omega) (i % 8) (by omega)
  rw [Int.toNat_of_nonneg h0] at this
  rw [← this]
  unfold wt
  have e : (((i : Int) + 1 - 1) % 8) = ((i % 8 : Nat) : Int) := by omega
  rw [e]
def bIn (l : List Int) (a : Int) : Bool := decide (0 ≤ a) && decide (a + 8 ≤ l.length)
def bPart (l : List Int) (a : Int) : List Int := (l.drop a.toNat).take 8
def bGet (l : List Int) (a : Int) : List Int := if bIn l a = true then getB (bPart l a) 64 else []
def bEnd (l : List Int) (a : Int) : Int := if bIn l a = true then a + 8 else 0
/-- what GetBits comes to -/
def resG (l : List Int) (a : Int) (w : World) (e : Ending) (w' : World) : Prop := ∃ v, e = .returned (.tuple #[v, .int .i64 (bEnd l a), .bool (bIn l a)]) ∧ nums .i64 w.heap.size w'.heap.size w' v (bGet l a) ∧ Below w.heap.size w w'
theorem resG_no {l : List Int} {a : Int} {w w' : World} (h : bIn l a = false) (hb : Below w.heap.size w w') : resG l a w (.returned (.tuple #[.slice none 0 0, .int .i64 0, .bool false])) w' := by
  refine ⟨.slice none 0 0, ?_, ?_, hb⟩
  · simp [bEnd, h]
  · have : bGet l a = [] := by simp [bGet, h]
    rw [this]
    exact nums_none _ _ _ _
theorem resG_yes {l : List Int} {a : Int} {w w' : World} {v : Value} (h : bIn l a = true) (hn : nums .i64 w.heap.size w'.heap.size w' v (getB (bPart l a) 64)) (hb : Below w.heap.size w w') : resG l a w (.returned (.tuple #[v, .int .i64 (a + 8), .bool true])) w' := by
  refine ⟨v, ?_, ?_, hb⟩
  · simp [bEnd, h]
  · have : bGet l a = getB (bPart l a) 64 := by simp [bGet, h]
    rw [this]
    exact hn
theorem bGet_len (l : List Int) (a : Int) : (bGet l a).length ≤ 64 := by
  unfold bGet; split
  · exact getB_len _ _
  · simp
theorem bIn_no {l : List Int} {a : Int} (h : a < 0 ∨ (l.length : Int) - 8 < a) : bIn l a = false := by
  cases hg : bIn l a
  · rfl
  · simp only [bIn, Bool.and_eq_true, decide_eq_true_eq] at hg; omega
theorem bPart_get {l : List Int} {b0 : Nat} (j : Nat) (hj : j < 8) : (bPart l (b0 : Int)).getD j 0 = l.getD (b0 + j) 0 := by
  unfold bPart
  rw [List.getD_eq_getElem?_getD, List.getD_eq_getElem?_getD, List.getElem?_take_of_lt hj, List.getElem?_drop]
  rfl

set_option maxRecDepth 100000 in
set_option maxHeartbeats 1600000 in
theorem specGetBits_any (hi : Nat) (v : Value) (l : List Int) (a : Int) (w : World) (hn : l.length ≤ 1073741824) (ha : a ≤ 9223372036854775807) (hl : isBytes l) (h : rd .u8 hi w v l) (hhi : hi ≤ w.heap.size) :
    Calls Try.prog 23 #[v, .int .i64 a] w (resG l a w) := by
  obtain ⟨A, c, rfl, hc, hj⟩ := h
  by_cases h0 : a < 0
  · have HN := Lib.hid (bIn_no (l := l) (.inl h0))
    clear hj
    go_enter Try.func23, Try.ntmps23
    go_wp2
    go_ret3
    exact resG_no HN.out (Below.refl _ _)
  by_cases h1 : (l.length : Int) - 8 < a
  · have HN := Lib.hid (bIn_no (l := l) (.inr h1))
    clear hj
    go_enter Try.func23, Try.ntmps23
    go_wp2
    go_ret3
    exact resG_no HN.out (Below.refl _ _)
  have HI := Lib.hid (show bIn l a = true by simp [bIn]; omega)
  obtain ⟨b0, rfl⟩ : ∃ b0 : Nat, a = b0 := ⟨a.toNat, by omega⟩
  have HR := Lib.hid hj
  have HG := Lib.hid (fun j hj => bPart_get (l := l) (b0 := b0) j hj)
  have hpb : isBytes (bPart l (b0 : Int)) := fun z hz => hl z (List.mem_of_mem_drop (List.mem_of_mem_take hz))
  generalize hp : bPart l (b0 : Int) = p at *
  have HP := Lib.hid hp
  clear hj hp
  go_enter Try.func23, Try.ntmps23
  go_wp2
  go_loopw [7, 8] (fun bv iv wr => ∃ k : Nat, k ≤ 64 ∧ iv = .int .i64 ((k : Int) + 1) ∧ wr.ownsRow w.heap.size 3 1 bv (getB p k).length ((getB p k).map (Value.int .i64)) ∧ Below w.heap.size w wr) (fun _ iv _ => 65 - (intOf iv).toNat)
  case atStart =>
    refine ⟨0, Nat.zero_le _, rfl, ⟨rfl, Or.inr ⟨w.heap.size, 0, #[], rfl, Nat.le_refl _, ?_, Nat.le_refl _, Nat.zero_le _, rfl, rfl⟩⟩, (Below.refl _ _).alloc (Nat.le_refl _) _⟩
    show (w.heap.push _)[w.heap.size]? = _
    simp
  case round =>
    obtain ⟨k, hk, rfl, hown, hb⟩ := hrel
    by_cases hlt : k < 64
    · obtain ⟨b, off, rfl, hbl, hcell⟩ := HR.out (b0 + k / 8) (by omega)
      have hcell := (hb.cell (p := ⟨b, off + (b0 + k / 8), none⟩) (show b < w.heap.size by omega)).trans hcell
      rw [← HG.out (k / 8) (by omega)] at hcell
      have hx := hpb.getD (k / 8)
      have HT := Lib.hid (getB_step p k)
      have HA := Lib.hid (show bitAt p k = decide (p.getD (k / 8) 0 / 2 ^ (7 - k % 8) % 2 = 1) from rfl)
      have htk := getB_len p k
      have htl : (getB p k).length + 1 ≤ 9223372036854775807 := by omega
      have htb : ((getB p k).length + 1) * 8 ≤ 140737488355328 := by omega
      generalize p.getD (k / 8) 0 = x at hx hcell HA
      generalize getB p k = M at hown HT htl htb htk
      obtain ⟨hx0, hx1⟩ := hx
      clear htk
      obtain ⟨m, hm⟩ : ∃ m : Nat, m = k / 8 := ⟨_, rfl⟩
      obtain ⟨j, hjj⟩ : ∃ j : Nat, j = k % 8 := ⟨_, rfl⟩
      rw [← hm] at hcell
      rw [← hjj] at HA
      have q0 : ((k : Int) + 1 - 1) / 8 = (m : Int) := by omega
      have q1 : (k : Int) / 8 = (m : Int) := by omega
      have q2 : (k : Int) % 8 = (j : Int) := by omega
      have q3 : (b0 : Int) + (m : Int) < (l.length : Int) := by omega
      have q4 : (0 : Int) ≤ (b0 : Int) + (m : Int) := by omega
      have q5 : ((b0 : Int) + (m : Int)).toNat = b0 + m := by omega
      have q6 : (7 - (j : Int)).toNat = 7 - j := by omega
      have q7 : (j : Int) ≤ 7 := by omega
      clear hm hjj
      have q8 : 0 ≤ x / 2 ^ (7 - j) := Int.ediv_nonneg hx0 (Int.le_of_lt (Int.pow_pos (by decide)))
      cases hbt : bitAt p k
      · have e1 : (x / 2 ^ (7 - j) % 2 == 1) = false := by
          rw [HA.out] at hbt
          exact beq_eq_false_iff_ne.2 (of_decide_eq_false hbt)
        have HT : Hid (getB p (k + 1) = M) := Lib.hid (by rw [HT.out, hbt]; simp)
        have HO := Lib.hid hown
        clear hbt hown
        go_wp2
        go_roundw
        case rel => exact ⟨k + 1, by omega, by go_num, by rw [HT.out]; exact HO.out, hb⟩
        case measure => simp [intOf] <;> omega
      · have e1 : (x / 2 ^ (7 - j) % 2 == 1) = true := by
          rw [HA.out] at hbt
          exact beq_iff_eq.2 (of_decide_eq_true hbt)
        have HT : Hid (getB p (k + 1) = M ++ [(k : Int) + 1]) := Lib.hid (by rw [HT.out, hbt]; simp)
        clear hbt
        go_wp2_with (at_builtin; refine app_one (Value.int .i64) (int_one .i64) 32 3 (.int .i64 0) 8 Try.underlying32 infoI64 rfl _ _ rfl (by rfl) w wr _ M _ (by rfl) (by rfl) hown hb htl htb ?_)
        intro v' w1 hown' hb'
        clear hown hb
        go_wp2
        go_roundw
        case rel => exact ⟨k + 1, by omega, by go_num, by rw [HT.out]; simpa using hown', hb'⟩
        case measure => simp [intOf] <;> omega
    · obtain rfl : k = 64 := by omega
      have HN := Lib.hid (nums_of_own hown)
      clear hown
      go_wp2
      go_ret3
      exact resG_yes HI.out (by rw [HP.out]; exact HN.out) hb

set_option maxRecDepth 100000 in
set_option maxHeartbeats 1600000 in
theorem implGetBits_any (hi : Nat) (v : Value) (l : List Int) (a : Int) (w : World) (hn : l.length ≤ 1073741824) (ha : a ≤ 9223372036854775807) (hl : isBytes l) (h : rd .u8 hi w v l) (hhi : hi ≤ w.heap.size) :
    Calls Try.prog 24 #[v, .int .i64 a] w (resG l a w) := by
  have H := Lib.hid h
  by_cases hbad : a < 0 ∨ (l.length : Int) - 8 < a
  · have HN := Lib.hid (bIn_no (l := l) hbad)
    have HB := Lib.hid hbad
    clear hbad h
    go_enter Try.func24, Try.ntmps24
    go_wp2_with fail
    refine (bytesAt_no hi _ l a 8 w hn (by decide) H.out HB.out).mono ?_
    rintro e w1 ⟨rfl, rfl⟩
    go_wp2
    go_ret3
    exact resG_no HN.out (Below.refl _ _)
  have HI := Lib.hid (show bIn l a = true by simp [bIn]; omega)
  obtain ⟨b0, rfl⟩ : ∃ b0 : Nat, a = b0 := ⟨a.toNat, by omega⟩
  have hpb : isBytes (bPart l (b0 : Int)) := fun z hz => hl z (List.mem_of_mem_drop (List.mem_of_mem_take hz))
  have hpp : (l.drop b0).take 8 = bPart l (b0 : Int) := rfl
  have hpl : (bPart l (b0 : Int)).length = 8 := by unfold bPart; rw [List.length_take, List.length_drop]; omega
  have HPP := Lib.hid hpp
  clear h hpp
  go_enter Try.func24, Try.ntmps24
  go_wp2_with fail
  refine (bytesAt_yes hi _ l b0 8 w hn (by decide) (by decide) H.out (by omega)).mono ?_
  rw [HPP.out]
  generalize hp : bPart l (b0 : Int) = p at *
  rintro e w1 ⟨u, rfl, hu, rfl⟩
  have HP := Lib.hid hp
  obtain ⟨A1, c1, rfl, -, hj⟩ := hu
  rw [hpl] at hj ⊢
  have HR := Lib.hid hj
  clear hp hj hpl
  go_wp2
  go_loopw [9, 10, 11, 12] (fun bv iv _ _ wr => ∃ k : Nat, k ≤ 64 ∧ iv = .int .i64 ((k : Int) + 1) ∧ wr.ownsRow w.heap.size 3 1 bv (getB p k).length ((getB p k).map (Value.int .i64)) ∧ Below w.heap.size w wr) (fun _ iv _ _ _ => 65 - (intOf iv).toNat)
  case atStart => exact ⟨0, Nat.zero_le _, rfl, ⟨rfl, Or.inl ⟨rfl, rfl⟩⟩, Below.refl _ _⟩
  case round =>
    obtain ⟨k, hk, rfl, hown, hb⟩ := hrel
    by_cases hlt : k < 64
    · obtain ⟨b, off, rfl, hbl, hcell⟩ := HR.out (k / 8) (by omega)
      have hcell := (hb.cell (p := ⟨b, off + k / 8, none⟩) (show b < w.heap.size by omega)).trans hcell
      have hx := hpb.getD (k / 8)
      have HT := Lib.hid (getB_step p k)
      have HA := Lib.hid (show bitAt p k = decide (p.getD (k / 8) 0 / 2 ^ (7 - k % 8) % 2 = 1) from rfl)
      have htk := getB_len p k
      have htl : (getB p k).length + 1 ≤ 9223372036854775807 := by omega
      have htb : ((getB p k).length + 1) * 8 ≤ 140737488355328 := by omega
      generalize p.getD (k / 8) 0 = x at hx hcell HA
      generalize getB p k = M at hown HT htl htb htk
      obtain ⟨hx0, hx1⟩ := hx
      have HW := Lib.hid (bit_wt k hx0 hx1)
      clear htk
      obtain ⟨m, hm⟩ : ∃ m : Nat, m = k / 8 := ⟨_, rfl⟩
      rw [← hm] at hcell
      have hq0 : ((k : Int) + 1 - 1) / 8 = (m : Int) := by omega
      have Q0 := Lib.hid hq0
      have q3 : (m : Int) < 8 := by omega
      have q4 : (0 : Int) ≤ (m : Int) := by omega
      clear hm hq0
      cases hbt : bitAt p k
      · have e1 : (bits BinOp.and IntKind.u8 x (wt ((k : Int) + 1)) != 0) = false := by
          rw [HA.out] at hbt
          rw [HW.out, hbt]
        have HT : Hid (getB p (k + 1) = M) := Lib.hid (by rw [HT.out, hbt]; simp)
        have HO := Lib.hid hown
        clear hbt hown
        go_wp2_with fail
        refine (bitPlace_any ((k : Int) + 1) _ (by omega) (by omega)).mono ?_
        rw [Q0.out]
        rintro e w1 ⟨rfl, q, rfl⟩
        go_wp2
        go_roundw
        case rel => exact ⟨k + 1, by omega, by go_num, by rw [HT.out]; exact HO.out, below_drewN hb q⟩
        case measure => simp [intOf] <;> omega
      · have e1 : (bits BinOp.and IntKind.u8 x (wt ((k : Int) + 1)) != 0) = true := by
          rw [HA.out] at hbt
          rw [HW.out, hbt]
        have HT : Hid (getB p (k + 1) = M ++ [(k : Int) + 1]) := Lib.hid (by rw [HT.out, hbt]; simp)
        clear hbt
        go_wp2_with fail
        refine (bitPlace_any ((k : Int) + 1) _ (by omega) (by omega)).mono ?_
        rw [Q0.out]
        rintro e w1 ⟨rfl, q, rfl⟩
        have hbq := below_drewN hb q
        have hownq : (wr.drewN q).ownsRow w.heap.size 3 1 _ M.length (M.map (Value.int .i64)) := hown
        go_wp2_with (at_builtin; refine app_one (Value.int .i64) (int_one .i64) 32 3 (.int .i64 0) 8 Try.underlying32 infoI64 rfl _ _ rfl (by rfl) w (wr.drewN q) _ M _ (by rfl) (by rfl) hownq hbq htl htb ?_)
        intro v' w1 hown' hb'
        clear hown hb hownq hbq
        go_wp2
        go_roundw
        case rel => exact ⟨k + 1, by omega, by go_num, by rw [HT.out]; simpa using hown', hb'⟩
        case measure => simp [intOf] <;> omega
    · obtain rfl : k = 64 := by omega
      have HN := Lib.hid (nums_of_own hown)
      clear hown
      go_wp2
      go_ret3
      exact resG_yes HI.out (by rw [HP.out]; exact HN.out) hb
end Go.Proofs.Ytdenopiailffcaa
