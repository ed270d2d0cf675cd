/- Bitmaps of eight bytes: PutBits and GetBits of both; no conditions. -/
import Derived.Test.YtiolebpoofkpmaaGreatDoorMrp9
import Derived.Test.YtiolebpoofkpmaaGreatDoorMrp14
import Derived.Test.YtiolebpoofkpmaaGreatDoorMrp12
import Derived.Laws.ShiftsVar
import Derived.IntWalk
import Derived.RegionTactic
import Derived.BigRegion
import Derived.Test.YtiolebpoofkpmaaGreatDoorMrp8
import Derived.Deep.MidRow
import Derived.Test.YtiolebpoofkpmaaGreatDoorMrp4
import Derived.WalkSmall
set_option linter.unusedVariables false
namespace Go.Proofs.YtiolebpoofkpmaaGreatDoor
open Go.ChangeShapes Go.WideShapes Go.ChangeAt Go.RowKit

/-- the weight of bit k in its byte -/
def wt (k : Int) : Int := 128 / 2 ^ ((k - 1) % 8).toNat
def setB (b : List Int) (k : Int) : List Int := if 1 ≤ k ∧ k ≤ 64 then b.set ((k - 1) / 8).toNat (bits BinOp.or IntKind.u8 (b.getD ((k - 1) / 8).toNat 0) (wt k)) else b
def putB (l : List Int) : List Int := l.foldl setB (List.replicate 8 0)
set_option maxRecDepth 100000 in
theorem bitPlace_any (k : Int) (w : World) (h1 : 1 ≤ k) (h2 : k ≤ 64) :
    Calls Tryz.prog 95 #[.int .i64 k] w fun e w' => e = .returned (.tuple #[.int .i64 ((k - 1) / 8), .int .u8 (wt k)]) ∧ ∃ n, w' = w.drewN n := by
  have r1 : IntKind.i64.wrap (k - 1) = k - 1 := IntWalk.i64_in _ (by omega)
  go_enter Tryz.func95, Tryz.ntmps95
  go_wp2
  go_quiet (fail)
  go_wp2
  go_ret2
  exact ⟨rfl, _, rfl⟩
/-- the row of the bitmap -/
def bmap (b : Nat) (w : World) (l : List Int) : Prop := w.rowIs b 5 8 (fun j => .int .u8 (l.getD j 0))
set_option maxRecDepth 100000 in
theorem bmap.start (w : World) : bmap w.heap.size (w.alloc (.cells (madeCells #[.int .u8 0] 8) 5)) (putB []) := (World.rowIs_made w (.int .u8 0) 8 5).congr fun j hj => by
  have : j = 0 ∨ j = 1 ∨ j = 2 ∨ j = 3 ∨ j = 4 ∨ j = 5 ∨ j = 6 ∨ j = 7 := by omega
  rcases this with rfl | rfl | rfl | rfl | rfl | rfl | rfl | rfl <;> rfl
set_option maxRecDepth 100000 in
theorem bmap.set {b : Nat} {w : World} {l : List Int} {k y : Int} {i : Nat} (h : bmap b w l) (h1 : 1 ≤ k) (h2 : k ≤ 64) (hl : l.length = 8) (hi : (k - 1) / 8 = (i : Int)) (hy : y = bits BinOp.or IntKind.u8 (l.getD i 0) (wt k)) : bmap b (w.setCell ⟨b, i, none⟩ (.int .u8 y)) (setB l k) := by
  have hs : setB l k = l.set i (bits BinOp.or IntKind.u8 (l.getD i 0) (wt k)) := by unfold setB; rw [if_pos ⟨h1, h2⟩, hi, Int.toNat_natCast]
  rw [hs]
  refine (World.rowIs.set h i _).congr fun j hj => ?_
  by_cases e : j = i
  · subst e
    rw [if_pos rfl, List.getD_eq_getElem?_getD, List.getElem?_set_self (by omega), hy]
    rfl
  · rw [if_neg e]
    congr 1
    rw [List.getD_eq_getElem?_getD, List.getD_eq_getElem?_getD, List.getElem?_set_ne (Ne.symm e)]
set_option maxRecDepth 100000 in
theorem bmap.done {b lo : Nat} {w : World} {l : List Int} (h : bmap b w l) (hl : l.length = 8) (hlo : lo ≤ b) : nums .u8 lo w.heap.size w (.slice (some ⟨b, 0, none⟩) 8 8) l :=
  ⟨some ⟨b, 0, none⟩, 8, by rw [hl], by omega, fun j hj => ⟨b, 0, rfl, hlo, World.rowIs.lt h, by rw [Nat.zero_add]; exact World.rowIs.cell h (by omega), World.rowIs.frozen h _⟩⟩
/-- is bit k (from 1 on) of these bytes set? -/
def bitAt (p : List Int) (i : Nat) : Bool := decide (p.getD (i / 8) 0 / 2 ^ (7 - i % 8) % 2 = 1)
def getB (p : List Int) (n : Nat) : List Int := ((List.range n).filter (bitAt p)).map fun (i : Nat) => (i : Int) + 1
set_option maxRecDepth 100000 in
theorem getB_step (p : List Int) (n : Nat) : getB p (n + 1) = getB p n ++ (if bitAt p n = true then [(n : Int) + 1] else []) := by
  unfold getB
  rw [List.range_succ, List.filter_append, List.map_append]
  congr 1
  cases h : bitAt p n <;> simp [h]
set_option maxRecDepth 100000 in
theorem getB_len (p : List Int) (n : Nat) : (getB p n).length ≤ n := by
  unfold getB
  rw [List.length_map]
  exact Nat.le_trans (List.length_filter_le _ _) (by simp)
set_option maxRecDepth 100000 in
theorem bit_and : ∀ x < 256, ∀ j < 8, (bits BinOp.and IntKind.u8 ((x : Nat) : Int) (128 / 2 ^ (((j : Nat) : Int)).toNat) != 0) = decide (((x : Nat) : Int) / 2 ^ (7 - j) % 2 = 1) := by decide +kernel
set_option maxRecDepth 100000 in
theorem bit_wt {x : Int} (i : Nat) (h0 : 0 ≤ x) (h1 : x ≤ 255) : (bits BinOp.and IntKind.u8 x (wt ((i : Int) + 1)) != 0) = decide (x / 2 ^ (7 - i % 8) % 2 = 1) := by
  have := bit_and x.toNat (by omega) (i % 8) (by omega)
  rw [Int.toNat_of_nonneg h0] at this
  rw [← this]
  unfold wt
  have e : (((i : Int) + 1 - 1) % 8) = ((i % 8 : Nat) : Int) := by omega
  rw [e]
def bIn (l : List Int) (a : Int) : Bool := decide (0 ≤ a) && decide (a + 8 ≤ l.length)
def bPart (l : List Int) (a : Int) : List Int := (l.drop a.toNat).take 8
def bGet (l : List Int) (a : Int) : List Int := if bIn l a = true then getB (bPart l a) 64 else []
def bEnd (l : List Int) (a : Int) : Int := if bIn l a = true then a + 8 else 0
/-- what GetBits comes to -/
def resG (l : List Int) (a : Int) (w : World) (e : Ending) (w' : World) : Prop := ∃ v, e = .returned (.tuple #[v, .int .i64 (bEnd l a), .bool (bIn l a)]) ∧ nums .i64 w.heap.size w'.heap.size w' v (bGet l a) ∧ Below w.heap.size w w'
set_option maxRecDepth 100000 in
theorem resG_no {l : List Int} {a : Int} {w w' : World} (h : bIn l a = false) (hb : Below w.heap.size w w') : resG l a w (.returned (.tuple #[.slice none 0 0, .int .i64 0, .bool false])) w' := by
  refine ⟨.slice none 0 0, ?_, ?_, hb⟩
  · simp [bEnd, h]
  · have : bGet l a = [] := by simp [bGet, h]
    rw [this]
    exact nums_none _ _ _ _
set_option maxRecDepth 100000 in
theorem resG_yes {l : List Int} {a : Int} {w w' : World} {v : Value} (h : bIn l a = true) (hn : nums .i64 w.heap.size w'.heap.size w' v (getB (bPart l a) 64)) (hb : Below w.heap.size w w') : resG l a w (.returned (.tuple #[v, .int .i64 (a + 8), .bool true])) w' := by
  refine ⟨v, ?_, ?_, hb⟩
  · simp [bEnd, h]
  · have : bGet l a = getB (bPart l a) 64 := by simp [bGet, h]
    rw [this]
    exact hn
set_option maxRecDepth 100000 in
theorem bIn_no {l : List Int} {a : Int} (h : a < 0 ∨ (l.length : Int) - 8 < a) : bIn l a = false := by
  cases hg : bIn l a
  · rfl
  · simp only [bIn, Bool.and_eq_true, decide_eq_true_eq] at hg; omega
set_option maxRecDepth 100000 in
theorem bPart_get {l : List Int} {b0 : Nat} (j : Nat) (hj : j < 8) : (bPart l (b0 : Int)).getD j 0 = l.getD (b0 + j) 0 := by
  unfold bPart
  rw [List.getD_eq_getElem?_getD, List.getD_eq_getElem?_getD, List.getElem?_take_of_lt hj, List.getElem?_drop]
  rfl

set_option maxRecDepth 100000 in
set_option maxHeartbeats 1600000 in
theorem specGetBits_any (hi : Nat) (v : Value) (l : List Int) (a : Int) (w : World) (hn : l.length ≤ 1073741824) (ha : a ≤ 9223372036854775807) (hl : isBytes l) (h : rd .u8 hi w v l) (hhi : hi ≤ w.heap.size) :
    Calls Tryz.prog 39 #[v, .int .i64 a] w (resG l a w) := by
  obtain ⟨A, c, rfl, hc, hj⟩ := h
  by_cases h0 : a < 0
  · have HN := Lib.hid (bIn_no (l := l) (.inl h0))
    clear hj
    go_enter Tryz.func39, Tryz.ntmps39
    go_wp2
    go_ret3
    exact resG_no HN.out (Below.refl _ _)
  by_cases h1 : (l.length : Int) - 8 < a
  · have HN := Lib.hid (bIn_no (l := l) (.inr h1))
    clear hj
    go_enter Tryz.func39, Tryz.ntmps39
    go_wp2
    go_ret3
    exact resG_no HN.out (Below.refl _ _)
  have HI := Lib.hid (show bIn l a = true by simp [bIn]; omega)
  obtain ⟨b0, rfl⟩ : ∃ b0 : Nat, a = b0 := ⟨a.toNat, by omega⟩
  have HR := Lib.hid hj
  have HG := Lib.hid (fun j hj => bPart_get (l := l) (b0 := b0) j hj)
  have hpb : isBytes (bPart l (b0 : Int)) := fun z hz => hl z (List.mem_of_mem_drop (List.mem_of_mem_take hz))
  generalize hp : bPart l (b0 : Int) = p at *
  have HP := Lib.hid hp
  clear hj hp
  go_enter Tryz.func39, Tryz.ntmps39
  go_wp2
  go_loopw [7, 8] (fun bv iv wr => ∃ k : Nat, k ≤ 64 ∧ iv = .int .i64 ((k : Int) + 1) ∧ wr.ownsRow w.heap.size 3 1 bv (getB p k).length ((getB p k).map (Value.int .i64)) ∧ Below w.heap.size w wr) (fun _ iv _ => 65 - (intOf iv).toNat)
  case atStart =>
    refine ⟨0, Nat.zero_le _, rfl, ⟨rfl, Or.inr ⟨w.heap.size, 0, #[], rfl, Nat.le_refl _, ?_, Nat.le_refl _, Nat.zero_le _, rfl, rfl⟩⟩, (Below.refl _ _).alloc (Nat.le_refl _) _⟩
    show (w.heap.push _)[w.heap.size]? = _
    simp
  case round =>
    obtain ⟨k, hk, rfl, hown, hb⟩ := hrel
    by_cases hlt : k < 64
    · obtain ⟨b, off, rfl, hbl, hcell⟩ := HR.out (b0 + k / 8) (by omega)
      have hcell := (hb.cell (p := ⟨b, off + (b0 + k / 8), none⟩) (show b < w.heap.size by omega)).trans hcell
      rw [← HG.out (k / 8) (by omega)] at hcell
      have hx := hpb.getD (k / 8)
      have HT := Lib.hid (getB_step p k)
      have HA := Lib.hid (show bitAt p k = decide (p.getD (k / 8) 0 / 2 ^ (7 - k % 8) % 2 = 1) from rfl)
      have htk := getB_len p k
      have htl : (getB p k).length + 1 ≤ 9223372036854775807 := by omega
      have htb : ((getB p k).length + 1) * 8 ≤ 140737488355328 := by omega
      generalize p.getD (k / 8) 0 = x at hx hcell HA
      generalize getB p k = M at hown HT htl htb htk
      obtain ⟨hx0, hx1⟩ := hx
      clear htk
      obtain ⟨m, hm⟩ : ∃ m : Nat, m = k / 8 := ⟨_, rfl⟩
      obtain ⟨j, hjj⟩ : ∃ j : Nat, j = k % 8 := ⟨_, rfl⟩
      rw [← hm] at hcell
      rw [← hjj] at HA
      have q0 : ((k : Int) + 1 - 1) / 8 = (m : Int) := by omega
      have q1 : (k : Int) / 8 = (m : Int) := by omega
      have q2 : (k : Int) % 8 = (j : Int) := by omega
      have q3 : (b0 : Int) + (m : Int) < (l.length : Int) := by omega
      have q4 : (0 : Int) ≤ (b0 : Int) + (m : Int) := by omega
      have q5 : ((b0 : Int) + (m : Int)).toNat = b0 + m := by omega
      have q6 : (7 - (j : Int)).toNat = 7 - j := by omega
      have q7 : (j : Int) ≤ 7 := by omega
      clear hm hjj
      have q8 : 0 ≤ x / 2 ^ (7 - j) := Int.ediv_nonneg hx0 (Int.le_of_lt (Int.pow_pos (by decide)))
      cases hbt : bitAt p k
      · have e1 : (x / 2 ^ (7 - j) % 2 == 1) = false := by
          rw [HA.out] at hbt
          exact beq_eq_false_iff_ne.2 (of_decide_eq_false hbt)
        have HT : Hid (getB p (k + 1) = M) := Lib.hid (by rw [HT.out, hbt]; simp)
        have HO := Lib.hid hown
        clear hbt hown
        go_wp2
        go_roundw
        case rel => exact ⟨k + 1, by omega, by go_num, by rw [HT.out]; exact HO.out, hb⟩
        case measure => simp [intOf] <;> omega
      · have e1 : (x / 2 ^ (7 - j) % 2 == 1) = true := by
          rw [HA.out] at hbt
          exact beq_iff_eq.2 (of_decide_eq_true hbt)
        have HT : Hid (getB p (k + 1) = M ++ [(k : Int) + 1]) := Lib.hid (by rw [HT.out, hbt]; simp)
        clear hbt
        go_wp2_with (at_builtin; refine app_one (Value.int .i64) (int_one .i64) 44 3 (.int .i64 0) 8 Tryz.underlying44 infoI64 rfl _ _ rfl (by rfl) w wr _ M _ (by rfl) (by rfl) hown hb htl htb ?_)
        intro v' w1 hown' hb'
        clear hown hb
        go_wp2
        go_roundw
        case rel => exact ⟨k + 1, by omega, by go_num, by rw [HT.out]; simpa using hown', hb'⟩
        case measure => simp [intOf] <;> omega
    · obtain rfl : k = 64 := by omega
      have HN := Lib.hid (nums_of_own hown)
      clear hown
      go_wp2
      go_ret3
      exact resG_yes HI.out (by rw [HP.out]; exact HN.out) hb

/-- as resG; the numbers lie in a row of the call's own -/
def resGo (l : List Int) (a : Int) (w : World) (e : Ending) (w' : World) : Prop := ∃ v, e = .returned (.tuple #[v, .int .i64 (bEnd l a), .bool (bIn l a)]) ∧ ow 3 .i64 w.heap.size w' v (bGet l a) ∧ Below w.heap.size w w'
set_option maxRecDepth 100000 in
theorem resGo_no {l : List Int} {a : Int} {w w' : World} (h : bIn l a = false) (hb : Below w.heap.size w w') : resGo l a w (.returned (.tuple #[.slice none 0 0, .int .i64 0, .bool false])) w' := by
  refine ⟨.slice none 0 0, ?_, ?_, hb⟩
  · simp [bEnd, h]
  · have : bGet l a = [] := by simp [bGet, h]
    rw [this]
    exact ow_none _ _ _ _
set_option maxRecDepth 100000 in
theorem resGo_yes {l : List Int} {a : Int} {w w' : World} {v : Value} (h : bIn l a = true) (hn : w'.ownsRow w.heap.size 3 1 v (getB (bPart l a) 64).length ((getB (bPart l a) 64).map (Value.int .i64))) (hb : Below w.heap.size w w') : resGo l a w (.returned (.tuple #[v, .int .i64 (a + 8), .bool true])) w' := by
  refine ⟨v, ?_, ?_, hb⟩
  · simp [bEnd, h]
  · have : bGet l a = getB (bPart l a) 64 := by simp [bGet, h]
    rw [this]
    exact hn
set_option maxRecDepth 100000 in
set_option maxHeartbeats 1600000 in
theorem implGetBits_own (hi : Nat) (v : Value) (l : List Int) (a : Int) (w : World) (hn : l.length ≤ 1073741824) (ha : a ≤ 9223372036854775807) (hl : isBytes l) (h : rd .u8 hi w v l) (hhi : hi ≤ w.heap.size) :
    Calls Tryz.prog 73 #[v, .int .i64 a] w (resGo l a w) := by
  have H := Lib.hid h
  by_cases hbad : a < 0 ∨ (l.length : Int) - 8 < a
  · have HN := Lib.hid (bIn_no (l := l) hbad)
    have HB := Lib.hid hbad
    clear hbad h
    go_enter Tryz.func73, Tryz.ntmps73
    go_wp2_with fail
    refine (bytesAt_no hi _ l a 8 w hn (by decide) H.out HB.out).mono ?_
    rintro e w1 ⟨rfl, rfl⟩
    go_wp2
    go_ret3
    exact resGo_no HN.out (Below.refl _ _)
  have HI := Lib.hid (show bIn l a = true by simp [bIn]; omega)
  obtain ⟨b0, rfl⟩ : ∃ b0 : Nat, a = b0 := ⟨a.toNat, by omega⟩
  have hpb : isBytes (bPart l (b0 : Int)) := fun z hz => hl z (List.mem_of_mem_drop (List.mem_of_mem_take hz))
  have hpp : (l.drop b0).take 8 = bPart l (b0 : Int) := rfl
  have hpl : (bPart l (b0 : Int)).length = 8 := by unfold bPart; rw [List.length_take, List.length_drop]; omega
  have HPP := Lib.hid hpp
  clear h hpp
  go_enter Tryz.func73, Tryz.ntmps73
  go_wp2_with fail
  refine (bytesAt_yes hi _ l b0 8 w hn (by decide) (by decide) H.out (by omega)).mono ?_
  rw [HPP.out]
  generalize hp : bPart l (b0 : Int) = p at *
  rintro e w1 ⟨u, rfl, hu, rfl⟩
  have HP := Lib.hid hp
  obtain ⟨A1, c1, rfl, -, hj⟩ := hu
  rw [hpl] at hj ⊢
  have HR := Lib.hid hj
  clear hp hj hpl
  go_wp2
  go_loopw [9, 10, 11, 12] (fun bv iv _ _ wr => ∃ k : Nat, k ≤ 64 ∧ iv = .int .i64 ((k : Int) + 1) ∧ wr.ownsRow w.heap.size 3 1 bv (getB p k).length ((getB p k).map (Value.int .i64)) ∧ Below w.heap.size w wr) (fun _ iv _ _ _ => 65 - (intOf iv).toNat)
  case atStart => exact ⟨0, Nat.zero_le _, rfl, ⟨rfl, Or.inl ⟨rfl, rfl⟩⟩, Below.refl _ _⟩
  case round =>
    obtain ⟨k, hk, rfl, hown, hb⟩ := hrel
    by_cases hlt : k < 64
    · obtain ⟨b, off, rfl, hbl, hcell⟩ := HR.out (k / 8) (by omega)
      have hcell := (hb.cell (p := ⟨b, off + k / 8, none⟩) (show b < w.heap.size by omega)).trans hcell
      have hx := hpb.getD (k / 8)
      have HT := Lib.hid (getB_step p k)
      have HA := Lib.hid (show bitAt p k = decide (p.getD (k / 8) 0 / 2 ^ (7 - k % 8) % 2 = 1) from rfl)
      have htk := getB_len p k
      have htl : (getB p k).length + 1 ≤ 9223372036854775807 := by omega
      have htb : ((getB p k).length + 1) * 8 ≤ 140737488355328 := by omega
      generalize p.getD (k / 8) 0 = x at hx hcell HA
      generalize getB p k = M at hown HT htl htb htk
      obtain ⟨hx0, hx1⟩ := hx
      have HW := Lib.hid (bit_wt k hx0 hx1)
      clear htk
      obtain ⟨m, hm⟩ : ∃ m : Nat, m = k / 8 := ⟨_, rfl⟩
      rw [← hm] at hcell
      have hq0 : ((k : Int) + 1 - 1) / 8 = (m : Int) := by omega
      have Q0 := Lib.hid hq0
      have q3 : (m : Int) < 8 := by omega
      have q4 : (0 : Int) ≤ (m : Int) := by omega
      clear hm hq0
      cases hbt : bitAt p k
      · have e1 : (bits BinOp.and IntKind.u8 x (wt ((k : Int) + 1)) != 0) = false := by
          rw [HA.out] at hbt
          rw [HW.out, hbt]
        have HT : Hid (getB p (k + 1) = M) := Lib.hid (by rw [HT.out, hbt]; simp)
        have HO := Lib.hid hown
        clear hbt hown
        go_wp2_with fail
        refine (bitPlace_any ((k : Int) + 1) _ (by omega) (by omega)).mono ?_
        rw [Q0.out]
        rintro e w1 ⟨rfl, q, rfl⟩
        go_wp2
        go_roundw
        case rel => exact ⟨k + 1, by omega, by go_num, by rw [HT.out]; exact HO.out, below_drewN hb q⟩
        case measure => simp [intOf] <;> omega
      · have e1 : (bits BinOp.and IntKind.u8 x (wt ((k : Int) + 1)) != 0) = true := by
          rw [HA.out] at hbt
          rw [HW.out, hbt]
        have HT : Hid (getB p (k + 1) = M ++ [(k : Int) + 1]) := Lib.hid (by rw [HT.out, hbt]; simp)
        clear hbt
        go_wp2_with fail
        refine (bitPlace_any ((k : Int) + 1) _ (by omega) (by omega)).mono ?_
        rw [Q0.out]
        rintro e w1 ⟨rfl, q, rfl⟩
        have hbq := below_drewN hb q
        have hownq : (wr.drewN q).ownsRow w.heap.size 3 1 _ M.length (M.map (Value.int .i64)) := hown
        go_wp2_with (at_builtin; refine app_one (Value.int .i64) (int_one .i64) 44 3 (.int .i64 0) 8 Tryz.underlying44 infoI64 rfl _ _ rfl (by rfl) w (wr.drewN q) _ M _ (by rfl) (by rfl) hownq hbq htl htb ?_)
        intro v' w1 hown' hb'
        clear hown hb hownq hbq
        go_wp2
        go_roundw
        case rel => exact ⟨k + 1, by omega, by go_num, by rw [HT.out]; simpa using hown', hb'⟩
        case measure => simp [intOf] <;> omega
    · obtain rfl : k = 64 := by omega
      have HN := Lib.hid hown
      clear hown
      go_wp2
      go_ret3
      exact resGo_yes HI.out (by rw [HP.out]; exact HN.out) hb
set_option maxRecDepth 100000 in
theorem implGetBits_any (hi : Nat) (v : Value) (l : List Int) (a : Int) (w : World) (hn : l.length ≤ 1073741824) (ha : a ≤ 9223372036854775807) (hl : isBytes l) (h : rd .u8 hi w v l) (hhi : hi ≤ w.heap.size) :
    Calls Tryz.prog 73 #[v, .int .i64 a] w (resG l a w) :=
  (implGetBits_own hi v l a w hn ha hl h hhi).mono fun _ _ ⟨v, h1, h2, h3⟩ => ⟨v, h1, h2.nums, h3⟩
end Go.Proofs.YtiolebpoofkpmaaGreatDoor
set_option linter.unusedVariables false
namespace Go.Proofs.YtiolebpoofkpmaaGreatDoor
open Go.ChangeShapes Go.WideShapes Go.ChangeAt Go.RowKit

set_option maxRecDepth 100000 in
theorem or_byte : ∀ x < 256, ∀ a < 8, (∀ c < 8, (decide (bits BinOp.or IntKind.u8 ((x : Nat) : Int) (128 / 2 ^ (a : Nat)) / 2 ^ (7 - c) % 2 = 1) = (decide (((x : Nat) : Int) / 2 ^ (7 - c) % 2 = 1) || decide (c = a)))) ∧ 0 ≤ bits BinOp.or IntKind.u8 ((x : Nat) : Int) (128 / 2 ^ (a : Nat)) ∧ bits BinOp.or IntKind.u8 ((x : Nat) : Int) (128 / 2 ^ (a : Nat)) ≤ 255 := by decide +kernel
def okB (p : List Int) : Prop := p.length = 8 ∧ ∀ i, 0 ≤ p.getD i 0 ∧ p.getD i 0 ≤ 255
set_option maxRecDepth 100000 in
theorem getD_set (p : List Int) (i j : Nat) (x : Int) (h : i < p.length) : (p.set i x).getD j 0 = if j = i then x else p.getD j 0 := by
  rw [List.getD_eq_getElem?_getD, List.getD_eq_getElem?_getD, List.getElem?_set]
  by_cases e : i = j
  · subst e; simp [h]
  · rw [if_neg e, if_neg (fun h => e h.symm)]
set_option maxRecDepth 100000 in
theorem setB_bit {p : List Int} (hp : okB p) {k : Int} (h1 : 1 ≤ k) (h2 : k ≤ 64) : okB (setB p k) ∧ ∀ i, i < 64 → bitAt (setB p k) i = (bitAt p i || decide ((i : Int) = k - 1)) := by
  obtain ⟨n, rfl⟩ : ∃ n : Nat, k = n + 1 := ⟨(k - 1).toNat, by omega⟩
  have e1 : ((n : Int) + 1 - 1) / 8 = (n / 8 : Nat) := by omega
  have e2 : ((n : Int) + 1 - 1) % 8 = (n % 8 : Nat) := by omega
  have hn : n < 64 := by omega
  have hset : setB p (n + 1) = p.set (n / 8) (bits BinOp.or IntKind.u8 (p.getD (n / 8) 0) (128 / 2 ^ (n % 8))) := by
    unfold setB wt
    rw [if_pos ⟨h1, h2⟩, e1, e2]
    rfl
  have hb := hp.2 (n / 8)
  obtain ⟨x, hx⟩ : ∃ x : Nat, p.getD (n / 8) 0 = x := ⟨(p.getD (n / 8) 0).toNat, by omega⟩
  obtain ⟨hc, hl, hu⟩ := or_byte x (by omega) (n % 8) (by omega)
  have hlen : n / 8 < p.length := by rw [hp.1]; omega
  refine ⟨⟨by rw [hset, List.length_set]; exact hp.1, fun i => ?_⟩, fun i hi => ?_⟩
  · rw [hset, getD_set _ _ _ _ hlen, hx]
    split
    · exact ⟨hl, hu⟩
    · exact hp.2 i
  · unfold bitAt
    rw [hset, getD_set _ _ _ _ hlen, hx]
    by_cases e : i / 8 = n / 8
    · rw [if_pos e, hc (i % 8) (by omega), e, hx]
      congr 1
      rw [decide_eq_decide]
      omega
    · rw [if_neg e]
      have : decide ((i : Int) = (n : Int) + 1 - 1) = false := by rw [decide_eq_false_iff_not]; omega
      rw [this, Bool.or_false]
set_option maxRecDepth 100000 in
theorem fold_bit (L : List Int) : ∀ p : List Int, okB p → (∀ k ∈ L, 1 ≤ k ∧ k ≤ 64) → okB (L.foldl setB p) ∧ ∀ i, i < 64 → bitAt (L.foldl setB p) i = (bitAt p i || decide ((i : Int) + 1 ∈ L)) := by
  induction L with
  | nil => intro p hp _; exact ⟨hp, fun i _ => by simp⟩
  | cons k L ih =>
    intro p hp hk
    have h1 := hk k (List.mem_cons_self ..)
    obtain ⟨g1, g2⟩ := setB_bit hp h1.1 h1.2
    obtain ⟨g3, g4⟩ := ih (setB p k) g1 (fun z hz => hk z (List.mem_cons_of_mem _ hz))
    refine ⟨g3, fun i hi => ?_⟩
    rw [List.foldl_cons, g4 i hi, g2 i hi, Bool.or_assoc]
    congr 1
    rw [← Bool.decide_or, decide_eq_decide, List.mem_cons]
    constructor
    · rintro (h | h)
      · exact .inl (by omega)
      · exact .inr h
    · rintro (h | h)
      · exact .inl (by omega)
      · exact .inr h
set_option maxRecDepth 100000 in
theorem zero_bit : okB (List.replicate 8 0) ∧ ∀ i, i < 64 → bitAt (List.replicate 8 0) i = false := by
  constructor
  · refine ⟨rfl, fun i => ?_⟩
    rw [List.getD_eq_getElem?_getD, List.getElem?_replicate]
    split <;> simp
  · decide +kernel
set_option maxRecDepth 100000 in
theorem putB_bit {L : List Int} (h : ∀ k ∈ L, 1 ≤ k ∧ k ≤ 64) : okB (putB L) ∧ ∀ i, i < 64 → bitAt (putB L) i = decide ((i : Int) + 1 ∈ L) := by
  obtain ⟨g1, g2⟩ := fold_bit L _ zero_bit.1 h
  exact ⟨g1, fun i hi => by show bitAt (L.foldl setB _) i = _; rw [g2 i hi, zero_bit.2 i hi, Bool.false_or]⟩
end Go.Proofs.YtiolebpoofkpmaaGreatDoor
set_option linter.unusedVariables false
namespace Go.Proofs.YtiolebpoofkpmaaGreatDoor
open Go.ChangeShapes Go.WideShapes Go.ChangeAt Go.RowKit

set_option maxRecDepth 100000 in
set_option maxHeartbeats 1600000 in
theorem implFieldOf_any (hi : Nat) (v : Value) (m : MsgD) (no : Int) (w : World) (hn : m.2.length ≤ 1048576) (h : FieldsR.rd hi w [v] m.2) (hh : hi ≤ w.heap.size) :
    Calls Tryz.prog 78 #[.agg #[.string m.1, v], .int .i64 no] w fun e w' => e = .returned (.tuple #[.string (fldTxt m.2 no), .bool (fldHas m.2 no)]) ∧ Below w.heap.size w w' := by
  obtain ⟨A, c, rfl, hc, h'⟩ := fields_rd h
  have HR := Lib.hid h'
  clear h' h
  go_enter Tryz.func78, Tryz.ntmps78
  go_wp2
  have HB0 : Hid (Below w.heap.size w (w.alloc (.cells #[.string m.1, .slice A m.2.length c] 33))) := Lib.hid ((Below.refl _ _).alloc (Nat.le_refl _) _)
  go_loopw [11] (fun iv wr => ∃ i : Nat, i ≤ m.2.length ∧ iv = .int .i64 i ∧ Hid (∀ j y, j < i → m.2[j]? = some y → y.1 ≠ no) ∧ Hid (Below w.heap.size w wr) ∧ w.heap.size ≤ wr.heap.size) (fun iv _ => m.2.length - (intOf iv).toNat)
  case atStart => exact ⟨0, Nat.zero_le _, rfl, Lib.hid (fun j y hj => absurd hj (by omega)), HB0, by simp⟩
  case round =>
    obtain ⟨i, hi', rfl, HN, HB, hz⟩ := hrel
    by_cases hin : i < m.2.length
    · obtain ⟨x, hx⟩ : ∃ x, m.2[i]? = some x := ⟨_, List.getElem?_eq_getElem hin⟩
      obtain ⟨b, off, rfl, hbl, c0, c1⟩ := HR.out i x hx
      have HX := Lib.hid hx
      have c0 := (HB.out.cell (p := ⟨b, off + i * 2, none⟩) (show b < w.heap.size by omega)).trans c0
      have c1 := (HB.out.cell (p := ⟨b, off + i * 2 + 1, none⟩) (show b < w.heap.size by omega)).trans c1
      have g1 : (i : Int) < (m.2.length : Int) := by omega
      have g2 : 0 ≤ (i : Int) := by omega
      clear hx
      by_cases he : x.1 = no
      · have HF := Lib.hid (find_at HN.out HX.out he)
        have he' : (x.1 == no) = true := by simpa using he
        clear he
        go_wp2
        go_ret2
        rw [HF.out.1, HF.out.2]
        exact ⟨rfl, HB.out.alloc hz _⟩
      · have he' : (x.1 == no) = false := by simpa using he
        have HE := Lib.hid he
        clear he
        go_wp2
        go_roundw
        case rel => exact ⟨i + 1, by omega, by go_num, Lib.hid (fun j y hj hy => by
          by_cases e : j = i
          · subst e; rw [HX.out] at hy; cases hy; exact HE.out
          · exact HN.out j y (by omega) hy), Lib.hid (HB.out.alloc hz _), by simp; omega⟩
        case measure => simp [intOf] <;> omega
    · obtain rfl : i = m.2.length := by omega
      have HF := Lib.hid (find_none HN.out)
      go_wp2
      go_ret2
      rw [HF.out.1, HF.out.2]
      exact ⟨rfl, HB.out⟩
set_option maxRecDepth 100000 in
/-- the answer is a message whose list is a row of the call's own -/
theorem mine_own {lo hi : Nat} {w : World} {v : Value} {L : List FieldD} (h : owE 48 2 fCells lo w v L) (hh : w.heap.size ≤ hi) : FieldsR.mine lo hi w [v] L := by
  rcases h.filled (fun _ => rfl) noF with ⟨rfl, A, c, rfl⟩ | ⟨g, c, rfl, hc, h1, h2, hf⟩
  · exact ⟨[], ⟨A, c, rfl, Nat.zero_le _, .inl ⟨rfl, rfl⟩⟩, List.nodup_nil, by simp⟩
  · exact fields_mine rfl hc h1 (by omega) hf
end Go.Proofs.YtiolebpoofkpmaaGreatDoor
set_option linter.unusedVariables false
namespace Go.Proofs.YtiolebpoofkpmaaGreatDoor
open Go.ChangeShapes Go.WideShapes Go.ChangeAt Go.RowKit

set_option maxRecDepth 100000 in
theorem textIn_any (hi : Nat) (v : Value) (m : MsgD) (no : Int) (w : World) (hn : m.2.length ≤ 1048576) (h : FieldsR.rd hi w [v] m.2) (hh : hi ≤ w.heap.size) :
    Calls Tryz.prog 61 #[.agg #[.string m.1, v], .int .i64 no] w fun e w' => e = .returned (.string (fldTxt m.2 no)) ∧ Below w.heap.size w w' := by
  obtain ⟨A, c, rfl, hc, h'⟩ := fields_rd h
  have HF := Lib.hid (fun V (hV : Below w.heap.size w V) => implFieldOf_any hi (.slice A m.2.length c) m no V hn (Rep.below (R := FieldsR) h hV hh) (Nat.le_trans hh hV.size))
  have HB0 : Hid (∀ o, Below w.heap.size w (w.alloc o)) := Lib.hid fun o => (Below.refl _ _).alloc (Nat.le_refl _) o
  clear h h'
  go_enter Tryz.func61, Tryz.ntmps61
  go_wp2_with fail
  refine (HF.out _ (HB0.out _)).mono ?_
  rintro e w1 ⟨rfl, hb⟩
  have HB1 : Hid (Below w.heap.size w w1) := Lib.hid ((HB0.out _).trans (hb.mono (by simp)))
  clear hb
  go_wp2
  go_ret
  exact ⟨rfl, HB1.out⟩
set_option maxRecDepth 100000 in
theorem numberIn_any (hi : Nat) (v : Value) (m : MsgD) (no : Int) (w : World) (p : Addr) (hg : 1 < w.heap.size) (hce : w.cell? ⟨1, 0, none⟩ = some (.iface 207 (.pointer (some p)))) (hn : m.2.length ≤ 1048576) (h : FieldsR.rd hi w [v] m.2) (hh : hi ≤ w.heap.size) :
    Calls Tryz.prog 63 #[.agg #[.string m.1, v], .int .i64 no] w fun e w' => e = .returned (.int .i64 (numIn (fldTxt m.2 no))) ∧ Below w.heap.size w w' := by
  obtain ⟨A, c, rfl, hc, h'⟩ := fields_rd h
  have HF := Lib.hid (fun V (hV : Below w.heap.size w V) => textIn_any hi (.slice A m.2.length c) m no V hn (Rep.below (R := FieldsR) h hV hh) (Nat.le_trans hh hV.size))
  have HN := Lib.hid (fun V (hV : Below w.heap.size w V) => implNarrow_any (fldTxt m.2 no) V p (Nat.lt_of_lt_of_le hg hV.size) ((hV.cell (p := ⟨_, 0, none⟩) hg).trans hce))
  have HB0 : Hid (∀ o, Below w.heap.size w (w.alloc o)) := Lib.hid fun o => (Below.refl _ _).alloc (Nat.le_refl _) o
  have HV : Hid (numIn (fldTxt m.2 no) = if narOk (fldTxt m.2 no) = true then narVal (fldTxt m.2 no) else -1) := Lib.hid rfl
  clear h h' hce hg
  generalize numIn (fldTxt m.2 no) = r at HV ⊢
  generalize fldTxt m.2 no = s at HF HN HV
  generalize narOk s = b at HN HV
  rw [HV.out]
  cases b
  all_goals go_enter Tryz.func63, Tryz.ntmps63
  all_goals go_wp2_with fail
  all_goals refine (HF.out _ (HB0.out _)).mono ?_
  all_goals rintro e w1 ⟨rfl, hb⟩
  all_goals have HB1 : Hid (Below w.heap.size w w1) := Lib.hid ((HB0.out _).trans (hb.mono (by simp)))
  all_goals have z1 := HB1.out.size
  all_goals clear hb
  all_goals go_wp2_with fail
  all_goals refine (HN.out _ HB1.out).mono ?_
  all_goals rintro e w2 ⟨rfl, hb⟩
  all_goals have HB2 : Hid (Below w.heap.size w w2) := Lib.hid (HB1.out.trans (hb.mono z1))
  all_goals clear hb
  all_goals go_wp2
  all_goals go_ret
  all_goals exact ⟨rfl, HB2.out⟩
end Go.Proofs.YtiolebpoofkpmaaGreatDoor
set_option linter.unusedVariables false
namespace Go.Proofs.YtiolebpoofkpmaaGreatDoor
open Go.ChangeShapes Go.WideShapes Go.ChangeAt Go.RowKit

/-- the table as a value -/
def opList : List Value := opRows.flatMap fun r => r.map fun x => Value.string ⟨x.toArray⟩
def opAgg : Value := .agg opList.toArray
set_option maxRecDepth 100000 in
theorem ops_range {w : World} (h : opsIn w) : w.rangeAt 0 0 opList := by
  intro j v hv
  have hj : j < 27 := (List.getElem?_eq_some_iff.1 hv).1
  obtain ⟨i, k, hi, hk, rfl⟩ : ∃ i k : Nat, i < 9 ∧ k < 3 ∧ j = i * 3 + k := ⟨j / 3, j % 3, by omega, by omega, by omega⟩
  rw [Nat.zero_add, h i k hi hk]
  have := opArr_at ⟨i, hi⟩ ⟨k, hk⟩
  simp only [opArr, List.getElem?_toArray] at this
  rw [← this]
  exact hv
set_option maxRecDepth 100000 in
theorem opInfo : (Tryz.prog.info? 112).map (·.size) = some opList.length := by kernel_rfl
set_option maxRecDepth 100000 in
theorem ops_index (w : World) {i : Nat} (hi : i < 9) : (Instr.index 112 opAgg (.int .i64 (i : Int))).run Tryz.prog w = .ok (.agg #[.string ⟨(opB 0 i).toArray⟩, .string ⟨(opB 1 i).toArray⟩, .string ⟨(opB 2 i).toArray⟩]) w := by
  have h : i = 0 ∨ i = 1 ∨ i = 2 ∨ i = 3 ∨ i = 4 ∨ i = 5 ∨ i = 6 ∨ i = 7 ∨ i = 8 := by omega
  rcases h with rfl | rfl | rfl | rfl | rfl | rfl | rfl | rfl | rfl
  all_goals rfl
end Go.Proofs.YtiolebpoofkpmaaGreatDoor
set_option linter.unusedVariables false
namespace Go.Proofs.YtiolebpoofkpmaaGreatDoor
open Go.ChangeShapes Go.WideShapes Go.ChangeAt Go.RowKit

set_option maxRecDepth 100000 in
theorem ext_two {s : ByteArray} (h : 2 ≤ s.size) : (s.extract 0 2).size = 2 := by
  rw [ByteArray.size_extract]; omega
set_option maxRecDepth 100000 in
set_option maxHeartbeats 8000000 in
theorem opIn_any (hi : Nat) (v : Value) (m : MsgD) (w : World) (hO : opsIn w) (hn : m.2.length ≤ 1048576) (h : FieldsR.rd hi w [v] m.2) (hh : hi ≤ w.heap.size) (h2 : fldHas m.2 3 = true → 2 ≤ (fldTxt m.2 3).size) (hs : (fldTxt m.2 3).size ≤ maxLen) :
    Calls Tryz.prog 60 #[.agg #[.string m.1, v]] w fun e w' => e = .returned (.int .i64 (rawOp m)) ∧ Below w.heap.size w w' := by
  obtain ⟨A, c, rfl, hc, h'⟩ := fields_rd h
  have HF := Lib.hid (fun V (hV : Below w.heap.size w V) => implFieldOf_any hi (.slice A m.2.length c) m 3 V hn (Rep.below (R := FieldsR) h hV hh) (Nat.le_trans hh hV.size))
  have HV : Hid (rawOp m = if fldHas m.2 3 = true then whichL m.1 ((fldTxt m.2 3).extract 0 2) else 0) := Lib.hid rfl
  have HOP := Lib.hid (fun V (hV : Below w.heap.size w V) => hO.below hV)
  clear h h' hO hn hh
  generalize rawOp m = r at HV ⊢
  generalize fldTxt m.2 3 = s at HF HV h2 hs
  generalize fldHas m.2 3 = b at HF HV h2
  generalize m.2.length = n at HF
  generalize m.1 = a at HF HV
  have HBW : Hid (Below w.heap.size w (w.alloc (.cells #[.string a, .slice A n c] 33))) := Lib.hid ((Below.refl _ _).alloc (Nat.le_refl _) _)
  rw [HV.out]
  cases b
  · clear h2 hs
    go_enter Tryz.func60, Tryz.ntmps60
    go_wp2_with fail
    refine (HF.out _ HBW.out).mono ?_
    rintro e w1 ⟨rfl, hb⟩
    have HB1 : Hid (Below w.heap.size w w1) := Lib.hid (HBW.out.trans (hb.mono (by simp)))
    clear hb
    go_wp2
    go_ret
    exact ⟨rfl, HB1.out⟩
  have h2 := h2 rfl
  have h2' : (2 : Int) ≤ (s.size : Int) := by omega
  have hx := ext_two h2
  clear h2
  unfold maxLen at hs
  generalize hxc : s.extract 0 2 = x at hx
  have HXC := Lib.hid hxc
  have HX2 := Lib.hid hx
  clear hxc hx
  rw [if_pos rfl]
  go_enter Tryz.func60, Tryz.ntmps60
  go_upto_region 1 with fail
  obtain ⟨W, hW⟩ : ∃ W, W = w.alloc (.cells #[.string a, .slice A n c] 33) := ⟨_, rfl⟩
  have b0 : bk W w.heap.size 33 [.string a, .slice A n c] := by rw [hW]; exact bk.new w _ _
  rw [← hW] at HBW ⊢
  clear hW
  have z0 := b0.lt
  have B0 := Lib.hid b0
  have p0 := b0.cell 0
  have p1 := b0.cell 1
  clear b0
  go_wp2_with fail
  refine (HF.out _ HBW.out).mono ?_
  rintro e w1 ⟨rfl, hb⟩
  have z1 := hb.size
  have HB1 : Hid (Below w.heap.size w w1) := Lib.hid (HBW.out.trans (hb.mono (by omega)))
  have B1 := Lib.hid (B0.out.below hb z0)
  clear hb p0 p1 B0 HBW HF
  have HL := Lib.hid (ops_range (HOP.out w1 HB1.out))
  clear HOP
  go_upto_region 5 with (refine wpList_load_mid rfl 112 _ rfl 0 0 rfl opList _ HL.out Tryz.underlying112 rfl opInfo ?_; change wpList _ _ _ _ (Act.put _ _ opAgg) _)
  clear HL
  go_loopw [15] (fun iv wr => ∃ i : Nat, i ≤ 9 ∧ iv = .int .i64 i ∧ Hid (∀ j : Nat, j < i → ¬ ((⟨(opB 0 j).toArray⟩ : ByteArray) = a ∧ (⟨(opB 1 j).toArray⟩ : ByteArray) = x)) ∧ Hid (Below w.heap.size w wr) ∧ w.heap.size < wr.heap.size ∧ Hid (bk wr w.heap.size 33 [.string a, .slice A n c])) (fun iv _ => 9 - (intOf iv).toNat)
  case atStart => exact ⟨0, Nat.zero_le _, rfl, Lib.hid (fun j h2 => absurd h2 (by omega)), HB1, by omega, B1⟩
  case round =>
    obtain ⟨i, hi, rfl, HN, HB, hz, HBK⟩ := hrel
    by_cases hin : i < 9
    · have hrun := fun v => ops_index v hin
      have g1 : (i : Int) < 9 := by omega
      have g0 : 0 ≤ (i : Int) := by omega
      go_upto_region 7 with fail
      obtain ⟨W2, hW⟩ : ∃ W2, W2 = wr.alloc (.cells #[.string ⟨(opB 0 i).toArray⟩, .string ⟨(opB 1 i).toArray⟩, .string ⟨(opB 2 i).toArray⟩] 111) := ⟨_, rfl⟩
      have b2 : bk W2 wr.heap.size 111 [.string ⟨(opB 0 i).toArray⟩, .string ⟨(opB 1 i).toArray⟩, .string ⟨(opB 2 i).toArray⟩] := by rw [hW]; exact bk.new wr _ _
      have hbb : Below wr.heap.size wr W2 := by rw [hW]; exact (Below.refl _ _).alloc (Nat.le_refl _) _
      rw [← hW]
      clear hW hrun
      have z2 := b2.lt
      have HB2 : Hid (Below w.heap.size w W2) := Lib.hid (HB.out.trans (hbb.mono (by omega)))
      have HK2 := Lib.hid (HBK.out.below hbb hz)
      have p0 := HK2.out.cell 0
      have HB2 : Hid (∀ k, Below w.heap.size w (W2.drewN k)) := Lib.hid fun k => below_drewN HB2.out k
      have HK2 : Hid (∀ k, bk (W2.drewN k) w.heap.size 33 [.string a, .slice A n c]) := Lib.hid fun k => HK2.out.drewN k
      have zk : ∀ k, w.heap.size < (W2.drewN k).heap.size := fun k => show w.heap.size < W2.heap.size by omega
      have q0 := b2.cell 0
      have q1 := b2.cell 1
      clear b2 hbb HBK HB
      by_cases e1 : (⟨(opB 0 i).toArray⟩ : ByteArray) = a
      · have e1' : (opB 0 i == a.toList) = true := by rw [beq_iff_eq, ← e1, ByteArray.toList_eq]
        by_cases e2 : (⟨(opB 1 i).toArray⟩ : ByteArray) = x
        · have e2' : (opB 1 i == (s.extract 0 2).toList) = true := by rw [beq_iff_eq, HXC.out, ← e2, ByteArray.toList_eq]
          have HR : Hid (whichL a x = i) := Lib.hid (by
            have h0 : i ≠ 0 := by
              rintro rfl
              have := HX2.out
              rw [← e2] at this
              cases this
            rw [← e1, ← e2, ← opTxt_nat, ← opTxt_nat]
            exact which_hit (by omega))
          clear e1 e2
          go_quiet (fail)
          go_wp2
          go_ret
          exact ⟨by rw [HR.out]; rfl, HB2.out _⟩
        · have e2' : (opB 1 i == (s.extract 0 2).toList) = false := by have := str_no e2; rw [HXC.out]; rwa [ByteArray.toList_eq] at this
          have HE : Hid (¬ ((⟨(opB 0 i).toArray⟩ : ByteArray) = a ∧ (⟨(opB 1 i).toArray⟩ : ByteArray) = x)) := Lib.hid fun h => e2 h.2
          clear e1 e2
          go_quiet (fail)
          go_wp2
          go_roundw
          case rel => exact ⟨i + 1, by omega, by go_num, Lib.hid (fun j h2 => by
            rcases Nat.lt_succ_iff_lt_or_eq.1 h2 with h | rfl
            · exact HN.out j h
            · exact HE.out), Lib.hid (HB2.out _), zk _, Lib.hid (HK2.out _)⟩
          case measure => simp [intOf] <;> omega
      · have e1' : (opB 0 i == a.toList) = false := by have := str_no e1; rwa [ByteArray.toList_eq] at this
        have HE : Hid (¬ ((⟨(opB 0 i).toArray⟩ : ByteArray) = a ∧ (⟨(opB 1 i).toArray⟩ : ByteArray) = x)) := Lib.hid fun h => e1 h.1
        clear e1
        go_quiet (fail)
        go_wp2
        go_roundw
        case rel => exact ⟨i + 1, by omega, by go_num, Lib.hid (fun j h2 => by
          rcases Nat.lt_succ_iff_lt_or_eq.1 h2 with h | rfl
          · exact HN.out j h
          · exact HE.out), Lib.hid (HB2.out _), zk _, Lib.hid (HK2.out _)⟩
        case measure => simp [intOf] <;> omega
    · obtain rfl : i = 9 := by omega
      have HR : Hid (whichL a x = 0) := Lib.hid (which_none fun j h1 h2 => by
        obtain ⟨k, rfl⟩ := Int.eq_ofNat_of_zero_le (show 0 ≤ j by omega)
        rw [opTxt_nat, opTxt_nat]
        exact HN.out k (by omega))
      go_wp2
      go_ret
      exact ⟨by rw [HR.out]; rfl, HB.out⟩
end Go.Proofs.YtiolebpoofkpmaaGreatDoor
