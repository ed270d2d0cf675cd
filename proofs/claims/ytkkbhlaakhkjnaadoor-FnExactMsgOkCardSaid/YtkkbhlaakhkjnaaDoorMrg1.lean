/- Small facts on fields for the laws that put and get one; no conditions. -/
import Derived.Test.YtkkbhlaakhkjnaaDoorRound
import Derived.Test.YtkkbhlaakhkjnaaDoorFit
import Derived.Test.YtkkbhlaakhkjnaaDoorNums
import Derived.Test.YtkkbhlaakhkjnaaDoorNumsB
import Derived.Test.YtkkbhlaakhkjnaaDoorBytesAt
import Derived.Laws.ShiftsVar
import Derived.IntWalk
import Derived.RegionTactic
import Derived.BigRegion
import Derived.Test.YtkkbhlaakhkjnaaDoorMsgRow
import Derived.Test.YtkkbhlaakhkjnaaDoorMsgS
import Derived.Test.YtkkbhlaakhkjnaaDoorBase
import Derived.Test.YtkkbhlaakhkjnaaDoorConv
import Derived.BigQuiet
import Derived.Deep.QuietTactic
import Derived.Deep.RegionWith
import Derived.Deep.Cut
import Derived.Deep.DeepCutAuto
import Derived.Lib.ItoaNum
import Derived.Lib.ItoaLen
import Derived.Test.YtkkbhlaakhkjnaaDoorField
set_option linter.unusedVariables false
namespace Go.Proofs.YtkkbhlaakhkjnaaDoor
open Go.ChangeShapes Go.WideShapes Go.ChangeAt Go.RowKit

set_option maxRecDepth 100000 in
theorem ow_single (w : World) (c : Int) (T : TypeId) : ow T .u8 w.heap.size (w.alloc (.cells #[.int .u8 c] T)) (.slice (some ⟨w.heap.size, 0, none⟩) 1 1) [c] := by
  refine ⟨rfl, Or.inr ⟨w.heap.size, 1, #[.int .u8 c], rfl, Nat.le_refl _, ?_, Nat.le_refl _, by decide, rfl, rfl⟩⟩
  show (w.heap.push _)[w.heap.size]? = _
  simp
set_option maxRecDepth 100000 in
theorem ow.rdOne {T : TypeId} {K : IntKind} {B : Nat} {w : World} {o : Obj} {v : Value} {L : List Int} (h : ow T K B (w.alloc o) v L) : rd K (w.heap.size + 1) (w.alloc o) v L := by
  have := h.nums.rd
  simpa using this
set_option maxRecDepth 100000 in
theorem cell_lt {w : World} {b o : Nat} {v : Value} (h : w.cell? ⟨b, o, none⟩ = some v) : b < w.heap.size := by
  rcases Nat.lt_or_ge b w.heap.size with h' | h'
  · exact h'
  · simp [World.cell?, Array.getElem?_eq_none h'] at h
set_option maxRecDepth 100000 in
theorem putLen_bytes {n : Nat} (hn : n ≤ 60) {d : Int} (hd : d = 2 ∨ d = 3) : isBytes (putLen n d) ∧ (putLen n d).length ≤ 2 := by
  have hl : lenDig d = true := by rcases hd with rfl | rfl <;> rfl
  obtain ⟨h1, h2, h3⟩ := wide_both hn hd
  have hs : ((⟨(wideOf (n : Nat) d).toArray⟩ : ByteArray).size : Int) = d := h2
  have hok : bcdOk ⟨(wideOf (n : Nat) d).toArray⟩ = true := (bcdOk_iff _).2 ⟨h1, by omega⟩
  unfold putLen
  rw [if_pos hl]
  exact ⟨bcd_bytes _, by rw [bcd_size hok]; omega⟩
set_option maxRecDepth 100000 in
theorem putFL_bytes {no : Int} {s : ByteArray} (h : fOk no s = true) : isBytes (putFL no s) := by
  have h60 := fOk_60 h
  have h1 := bcd_bytes s
  have h2 := bytesL_ok s
  have h3 := (putLen_bytes h60 (.inl rfl : (2 : Int) = 2 ∨ (2 : Int) = 3)).1
  have h4 := (putLen_bytes h60 (.inr rfl : (3 : Int) = 2 ∨ (3 : Int) = 3)).1
  unfold putFL putBody
  rw [if_pos h]
  repeat' split
  all_goals intro z hz
  all_goals try simp only [List.mem_append] at hz
  · exact h1 z hz
  · exact h2 z hz
  · exact hz.elim (h3 z) (h1 z)
  · exact hz.elim (h3 z) (h2 z)
  · exact hz.elim (h4 z) (h2 z)
set_option maxRecDepth 100000 in
theorem fit_back {no : Int} {s : ByteArray} (h : fOk no s = true) : fitRes no s = s := by
  have hb : okBy (fKind no) (fSize no) s = true := h
  have e : fitS (fKind no) (fSize no).toNat s = s := by
    unfold fitS
    split
    · next hk => rw [hk] at hb; simp [okBy] at hb; rw [show (fSize no).toNat - s.size = 0 by omega]; rfl
    · split
      · next hk => rw [hk] at hb; simp [okBy] at hb; rw [show (fSize no).toNat - s.size = 0 by omega, padR_zero]
      · rfl
  unfold fitRes
  rw [e, if_pos h]
end Go.Proofs.YtkkbhlaakhkjnaaDoor
/- What the law package's helpers do with slices of ints; no conditions. -/
set_option linter.unusedVariables false
namespace Go.Proofs.YtkkbhlaakhkjnaaDoor
open Go.ChangeShapes Go.WideShapes Go.ChangeAt Go.RowKit

set_option maxRecDepth 100000 in
theorem infoI64 : (Tryd.prog.info? 3).map (fun i => (i.zero, i.size, i.bytes)) = some (some (.int .i64 0), 1, 8) := by kernel_rfl
end Go.Proofs.YtkkbhlaakhkjnaaDoor
/- Bitmaps of eight bytes: PutBits and GetBits of both; no conditions. -/
set_option linter.unusedVariables false
namespace Go.Proofs.YtkkbhlaakhkjnaaDoor
open Go.ChangeShapes Go.WideShapes Go.ChangeAt Go.RowKit

/-- the weight of bit k in its byte -/
def wt (k : Int) : Int := 128 / 2 ^ ((k - 1) % 8).toNat
def setB (b : List Int) (k : Int) : List Int := if 1 ≤ k ∧ k ≤ 64 then b.set ((k - 1) / 8).toNat (bits BinOp.or IntKind.u8 (b.getD ((k - 1) / 8).toNat 0) (wt k)) else b
def putB (l : List Int) : List Int := l.foldl setB (List.replicate 8 0)
set_option maxRecDepth 100000 in
theorem setB_len (b : List Int) (k : Int) : (setB b k).length = b.length := by unfold setB; split <;> simp
set_option maxRecDepth 100000 in
theorem fold_len (l b : List Int) : (l.foldl setB b).length = b.length := by
  induction l generalizing b with
  | nil => rfl
  | cons x l ih => rw [List.foldl_cons, ih, setB_len]
set_option maxRecDepth 100000 in
theorem putB_len (l : List Int) : (putB l).length = 8 := by unfold putB; rw [fold_len]; rfl
set_option maxRecDepth 100000 in
theorem take_foldl (l : List Int) (k : Nat) (h : k < l.length) : putB (l.take (k + 1)) = setB (putB (l.take k)) (l.getD k 0) := by
  unfold putB
  rw [List.take_succ_eq_append_getElem h, List.foldl_append, List.getD_eq_getElem?_getD, List.getElem?_eq_getElem h]
  rfl

set_option maxRecDepth 100000 in
theorem in_any (k a b : Int) (w : World) :
    Calls Tryd.prog 20 #[.int .i64 k, .int .i64 a, .int .i64 b] w fun e w' => e = .returned (.bool (decide (a ≤ k) && decide (k ≤ b))) ∧ w = w' := by
  by_cases h : a ≤ k
  · go_enter Tryd.func20, Tryd.ntmps20
    go_wp2
    go_ret
    exact ⟨ret_bool (by simp [h]), rfl⟩
  · have hd : decide (a ≤ k) = false := decide_eq_false h
    go_enter Tryd.func20, Tryd.ntmps20
    go_wp2
    go_ret
    exact ⟨ret_bool (by simp), rfl⟩

/-- the row of the bitmap -/
def bmap (b : Nat) (w : World) (l : List Int) : Prop := w.rowIs b 5 8 (fun j => .int .u8 (l.getD j 0))
set_option maxRecDepth 100000 in
theorem bmap.start (w : World) : bmap w.heap.size (w.alloc (.cells (madeCells #[.int .u8 0] 8) 5)) (putB []) := (World.rowIs_made w (.int .u8 0) 8 5).congr fun j hj => by
  have : j = 0 ∨ j = 1 ∨ j = 2 ∨ j = 3 ∨ j = 4 ∨ j = 5 ∨ j = 6 ∨ j = 7 := by omega
  rcases this with rfl | rfl | rfl | rfl | rfl | rfl | rfl | rfl <;> rfl
set_option maxRecDepth 100000 in
theorem bmap.set {b : Nat} {w : World} {l : List Int} {k y : Int} {i : Nat} (h : bmap b w l) (h1 : 1 ≤ k) (h2 : k ≤ 64) (hl : l.length = 8) (hi : (k - 1) / 8 = (i : Int)) (hy : y = bits BinOp.or IntKind.u8 (l.getD i 0) (wt k)) : bmap b (w.setCell ⟨b, i, none⟩ (.int .u8 y)) (setB l k) := by
  have hs : setB l k = l.set i (bits BinOp.or IntKind.u8 (l.getD i 0) (wt k)) := by unfold setB; rw [if_pos ⟨h1, h2⟩, hi, Int.toNat_natCast]
  rw [hs]
  refine (World.rowIs.set h i _).congr fun j hj => ?_
  by_cases e : j = i
  · subst e
    rw [if_pos rfl, List.getD_eq_getElem?_getD, List.getElem?_set_self (by omega), hy]
    rfl
  · rw [if_neg e]
    congr 1
    rw [List.getD_eq_getElem?_getD, List.getD_eq_getElem?_getD, List.getElem?_set_ne (Ne.symm e)]
set_option maxRecDepth 100000 in
theorem bmap.done {b lo : Nat} {w : World} {l : List Int} (h : bmap b w l) (hl : l.length = 8) (hlo : lo ≤ b) : nums .u8 lo w.heap.size w (.slice (some ⟨b, 0, none⟩) 8 8) l :=
  ⟨some ⟨b, 0, none⟩, 8, by rw [hl], by omega, fun j hj => ⟨b, 0, rfl, hlo, World.rowIs.lt h, by rw [Nat.zero_add]; exact World.rowIs.cell h (by omega), World.rowIs.frozen h _⟩⟩
set_option maxRecDepth 100000 in
theorem makeEight (w : World) : (Instr.makeSlice 58 (.int .i64 8) (.int .i64 8)).run Tryd.prog w = .ok (.slice (some ⟨w.heap.size, 0, none⟩) 8 8) (w.alloc (.cells (madeCells #[.int .u8 0] 8) 5)) :=
  run_make_row' (P := Tryd.prog) 58 5 (.int .u8 0) 1 Tryd.underlying58 infoU8 rfl .i64 .i64 8 (by omega) (by omega) w
def resN (L : List Int) (w : World) (e : Ending) (w' : World) : Prop := ∃ v, e = .returned v ∧ nums .u8 w.heap.size w'.heap.size w' v L ∧ Below w.heap.size w w'

set_option maxRecDepth 100000 in
theorem bmap.owned {b lo : Nat} {w : World} {l : List Int} (h : bmap b w l) (hl : l.length = 8) (hlo : lo ≤ b) : ow 5 .u8 lo w (.slice (some ⟨b, 0, none⟩) 8 8) l := by
  obtain ⟨c, hb, hc, hi⟩ := h
  refine ⟨by rw [List.length_map, Nat.mul_one], Or.inr ⟨b, 8, c, by rw [hl], hlo, hb, by omega, by decide, by omega, ?_⟩⟩
  rw [Nat.mul_one, hl]
  apply List.ext_getElem?
  intro j
  by_cases hj : j < 8
  · have hg : l[j]? = some l[j] := List.getElem?_eq_getElem (by omega)
    have hd : l.getD j 0 = l[j] := by rw [List.getD_eq_getElem?_getD, hg]; rfl
    rw [List.getElem?_take_of_lt hj, Array.getElem?_toList, hi j hj, List.getElem?_map, hg]
    show some (Value.int IntKind.u8 (l.getD j 0)) = _
    rw [hd]; rfl
  · rw [List.getElem?_eq_none (by rw [List.length_take]; omega), List.getElem?_eq_none (by rw [List.length_map]; omega)]
/-- as resN; the bytes lie in a row of the call's own -/
def resNo (L : List Int) (w : World) (e : Ending) (w' : World) : Prop := ∃ v, e = .returned v ∧ ow 5 .u8 w.heap.size w' v L ∧ Below w.heap.size w w'

/-- is bit k (from 1 on) of these bytes set? -/
def bitAt (p : List Int) (i : Nat) : Bool := decide (p.getD (i / 8) 0 / 2 ^ (7 - i % 8) % 2 = 1)
def getB (p : List Int) (n : Nat) : List Int := ((List.range n).filter (bitAt p)).map fun (i : Nat) => (i : Int) + 1
set_option maxRecDepth 100000 in
theorem getB_step (p : List Int) (n : Nat) : getB p (n + 1) = getB p n ++ (if bitAt p n = true then [(n : Int) + 1] else []) := by
  unfold getB
  rw [List.range_succ, List.filter_append, List.map_append]
  congr 1
  cases h : bitAt p n <;> simp [h]
set_option maxRecDepth 100000 in
theorem getB_len (p : List Int) (n : Nat) : (getB p n).length ≤ n := by
  unfold getB
  rw [List.length_map]
  exact Nat.le_trans (List.length_filter_le _ _) (by simp)
set_option maxRecDepth 100000 in
theorem bit_and : ∀ x < 256, ∀ j < 8, (bits BinOp.and IntKind.u8 ((x : Nat) : Int) (128 / 2 ^ (((j : Nat) : Int)).toNat) != 0) = decide (((x : Nat) : Int) / 2 ^ (7 - j) % 2 = 1) := by decide +kernel
set_option maxRecDepth 100000 in
theorem bit_wt {x : Int} (i : Nat) (h0 : 0 ≤ x) (h1 : x ≤ 255) : (bits BinOp.and IntKind.u8 x (wt ((i : Int) + 1)) != 0) = decide (x / 2 ^ (7 - i % 8) % 2 = 1) := by
  have := bit_and x.toNat (by omega) (i % 8) (by omega)
  rw [Int.toNat_of_nonneg h0] at this
  rw [← this]
  unfold wt
  have e : (((i : Int) + 1 - 1) % 8) = ((i % 8 : Nat) : Int) := by omega
  rw [e]
def bIn (l : List Int) (a : Int) : Bool := decide (0 ≤ a) && decide (a + 8 ≤ l.length)
def bPart (l : List Int) (a : Int) : List Int := (l.drop a.toNat).take 8
def bGet (l : List Int) (a : Int) : List Int := if bIn l a = true then getB (bPart l a) 64 else []
def bEnd (l : List Int) (a : Int) : Int := if bIn l a = true then a + 8 else 0
/-- what GetBits comes to -/
def resG (l : List Int) (a : Int) (w : World) (e : Ending) (w' : World) : Prop := ∃ v, e = .returned (.tuple #[v, .int .i64 (bEnd l a), .bool (bIn l a)]) ∧ nums .i64 w.heap.size w'.heap.size w' v (bGet l a) ∧ Below w.heap.size w w'
set_option maxRecDepth 100000 in
theorem resG_no {l : List Int} {a : Int} {w w' : World} (h : bIn l a = false) (hb : Below w.heap.size w w') : resG l a w (.returned (.tuple #[.slice none 0 0, .int .i64 0, .bool false])) w' := by
  refine ⟨.slice none 0 0, ?_, ?_, hb⟩
  · simp [bEnd, h]
  · have : bGet l a = [] := by simp [bGet, h]
    rw [this]
    exact nums_none _ _ _ _
set_option maxRecDepth 100000 in
theorem resG_yes {l : List Int} {a : Int} {w w' : World} {v : Value} (h : bIn l a = true) (hn : nums .i64 w.heap.size w'.heap.size w' v (getB (bPart l a) 64)) (hb : Below w.heap.size w w') : resG l a w (.returned (.tuple #[v, .int .i64 (a + 8), .bool true])) w' := by
  refine ⟨v, ?_, ?_, hb⟩
  · simp [bEnd, h]
  · have : bGet l a = getB (bPart l a) 64 := by simp [bGet, h]
    rw [this]
    exact hn
set_option maxRecDepth 100000 in
theorem bGet_len (l : List Int) (a : Int) : (bGet l a).length ≤ 64 := by
  unfold bGet; split
  · exact getB_len _ _
  · simp
set_option maxRecDepth 100000 in
theorem bIn_no {l : List Int} {a : Int} (h : a < 0 ∨ (l.length : Int) - 8 < a) : bIn l a = false := by
  cases hg : bIn l a
  · rfl
  · simp only [bIn, Bool.and_eq_true, decide_eq_true_eq] at hg; omega
set_option maxRecDepth 100000 in
theorem bPart_get {l : List Int} {b0 : Nat} (j : Nat) (hj : j < 8) : (bPart l (b0 : Int)).getD j 0 = l.getD (b0 + j) 0 := by
  unfold bPart
  rw [List.getD_eq_getElem?_getD, List.getD_eq_getElem?_getD, List.getElem?_take_of_lt hj, List.getElem?_drop]
  rfl

/-- as resG; the numbers lie in a row of the call's own -/
def resGo (l : List Int) (a : Int) (w : World) (e : Ending) (w' : World) : Prop := ∃ v, e = .returned (.tuple #[v, .int .i64 (bEnd l a), .bool (bIn l a)]) ∧ ow 3 .i64 w.heap.size w' v (bGet l a) ∧ Below w.heap.size w w'
set_option maxRecDepth 100000 in
theorem resGo_no {l : List Int} {a : Int} {w w' : World} (h : bIn l a = false) (hb : Below w.heap.size w w') : resGo l a w (.returned (.tuple #[.slice none 0 0, .int .i64 0, .bool false])) w' := by
  refine ⟨.slice none 0 0, ?_, ?_, hb⟩
  · simp [bEnd, h]
  · have : bGet l a = [] := by simp [bGet, h]
    rw [this]
    exact ow_none _ _ _ _
set_option maxRecDepth 100000 in
theorem resGo_yes {l : List Int} {a : Int} {w w' : World} {v : Value} (h : bIn l a = true) (hn : w'.ownsRow w.heap.size 3 1 v (getB (bPart l a) 64).length ((getB (bPart l a) 64).map (Value.int .i64))) (hb : Below w.heap.size w w') : resGo l a w (.returned (.tuple #[v, .int .i64 (a + 8), .bool true])) w' := by
  refine ⟨v, ?_, ?_, hb⟩
  · simp [bEnd, h]
  · have : bGet l a = getB (bPart l a) 64 := by simp [bGet, h]
    rw [this]
    exact hn
end Go.Proofs.YtkkbhlaakhkjnaaDoor
/- Encode of the reference; no conditions. -/
set_option linter.unusedVariables false
namespace Go.Proofs.YtkkbhlaakhkjnaaDoor
open Go.ChangeShapes Go.WideShapes Go.ChangeAt Go.RowKit

set_option maxRecDepth 100000 in
theorem infoInt : (Tryd.prog.info? 3).map (fun i => (i.zero.map (·.cells), i.size, i.bytes)) = some (some #[.int .i64 0], 1, 8) := by kernel_rfl
set_option maxRecDepth 100000 in
theorem fOk_range {no : Int} {s : ByteArray} (h : fOk no s = true) : 2 ≤ no ∧ no ≤ 103 := by
  have hk : fKind no ≠ 0 := fun e => by rw [fOk_no e] at h; cases h
  unfold fKind at hk
  repeat' (split at hk <;> try omega)
def lows (l : List FieldD) : List Int := (l.filter fun x => decide (x.1 ≤ 64)).map (·.1)
def highs (l : List FieldD) : List Int := (l.filter fun x => decide (64 < x.1)).map (·.1 - 64)
set_option maxRecDepth 100000 in
theorem take_snocF {l : List FieldD} {i : Nat} {x : FieldD} (h : l[i]? = some x) : l.take (i + 1) = l.take i ++ [x] := by
  obtain ⟨hi, rfl⟩ := List.getElem?_eq_some_iff.1 h
  rw [List.take_succ_eq_append_getElem hi]
set_option maxRecDepth 100000 in
theorem lows_snoc (l : List FieldD) (x : FieldD) : lows (l ++ [x]) = if x.1 ≤ 64 then lows l ++ [x.1] else lows l := by
  unfold lows
  rw [List.filter_append, List.map_append]
  by_cases h : x.1 ≤ 64 <;> simp [h]
set_option maxRecDepth 100000 in
theorem highs_snoc (l : List FieldD) (x : FieldD) : highs (l ++ [x]) = if 64 < x.1 then highs l ++ [x.1 - 64] else highs l := by
  unfold highs
  rw [List.filter_append, List.map_append]
  by_cases h : 64 < x.1 <;> simp [h]
set_option maxRecDepth 100000 in
theorem lows_len (l : List FieldD) : (lows l).length ≤ l.length := by unfold lows; rw [List.length_map]; exact List.length_filter_le _ _
set_option maxRecDepth 100000 in
theorem highs_len (l : List FieldD) : (highs l).length ≤ l.length := by unfold highs; rw [List.length_map]; exact List.length_filter_le _ _
/-- the bits of a message -/
def bitsL (l : List FieldD) : List Int := if highs l = [] then putB (lows l) else putB (lows l ++ [1]) ++ putB (highs l)
/-- the fields of a message -/
def bodyL (l : List FieldD) : List Int := l.flatMap fun x => putFL x.1 x.2
def encL (m : MsgD) : List Int := if msgOk m = true then bcd m.1 ++ bitsL m.2 ++ bodyL m.2 else []
set_option maxRecDepth 100000 in
theorem bodyL_snoc (l : List FieldD) (x : FieldD) : bodyL (l ++ [x]) = bodyL l ++ putFL x.1 x.2 := by unfold bodyL; rw [List.flatMap_append]; simp
set_option maxRecDepth 100000 in
theorem bodyL_len (l : List FieldD) (h : ∀ x ∈ l, x.2.size ≤ 60) : (bodyL l).length ≤ 1048700 * l.length := by
  induction l with
  | nil => simp [bodyL]
  | cons x l ih =>
    have h1 := ih fun y hy => h y (List.mem_cons_of_mem _ hy)
    have h2 := putFL_len x.1 x.2 (by have := h x (List.mem_cons_self ..); omega)
    unfold bodyL at h1 ⊢
    rw [List.flatMap_cons, List.length_append, List.length_cons]
    omega
set_option maxRecDepth 100000 in
theorem putB_len8 (l : List Int) : (putB l).length = 8 := by unfold putB; rw [fold_len]; simp
set_option maxRecDepth 100000 in
theorem apart_new {v v' : Value} {u : Value} {n : Nat} (h : v'.ownBlock = v.ownBlock ∨ v'.ownBlock = some n) (ha : ∀ g, u.ownBlock = some g → v.ownBlock ≠ some g) (hn : ∀ g, u.ownBlock = some g → g < n) : ∀ g, u.ownBlock = some g → v'.ownBlock ≠ some g := by
  intro g hg e
  rcases h with h | h
  · exact ha g hg (h ▸ e)
  · have hng : n = g := by rw [h] at e; exact Option.some.inj e
    have := hn g hg
    omega
set_option maxRecDepth 100000 in
theorem apart_comm {v u : Value} (h : ∀ g, u.ownBlock = some g → v.ownBlock ≠ some g) : ∀ g, v.ownBlock = some g → u.ownBlock ≠ some g := fun g hg e => h g e hg

end Go.Proofs.YtkkbhlaakhkjnaaDoor
/- MsgOk of the program; no conditions. -/
set_option linter.unusedVariables false
namespace Go.Proofs.YtkkbhlaakhkjnaaDoor
open Go.ChangeShapes Go.WideShapes Go.ChangeAt Go.RowKit

set_option maxRecDepth 100000 in
theorem isMti_any (s : ByteArray) (w : World) (hs : s.size ≤ maxLen) :
    Calls Tryd.prog 13 #[.string s] w fun e w' => e = .returned (.bool (mtiOk s)) ∧ Below w.heap.size w w' := by
  by_cases h4 : s.size = 4
  · have HM : Hid (mtiOk s = digs s) := Lib.hid (by simp [mtiOk, h4])
    rw [HM.out]
    have h4' : ((s.size : Int) == 4) = true := by simp [h4]
    have HD := Lib.hid (fun w' => implDigits_any s w' hs)
    clear h4
    go_enter Tryd.func13, Tryd.ntmps13
    go_wp2_with fail
    refine (HD.out _).mono ?_
    rintro e w1 ⟨rfl, hb⟩
    go_wp2
    go_ret
    exact ⟨rfl, hb⟩
  · have HM : Hid (mtiOk s = false) := Lib.hid (by simp [mtiOk, h4])
    rw [HM.out]
    have h4' : ((s.size : Int) == 4) = false := by simp; omega
    clear h4
    go_enter Tryd.func13, Tryd.ntmps13
    go_wp2
    go_ret
    exact ⟨rfl, Below.refl _ _⟩
/-- what the loop holds of the field before: 0 at the start -/
def prevNo (l : List FieldD) (i : Nat) : Int := if i = 0 then 0 else (l.getD (i - 1) noF).1
set_option maxRecDepth 100000 in
theorem prev_low {l : List FieldD} {i : Nat} {x : FieldD} (hx : l[i]? = some x) (h : x.1 ≤ prevNo l i) : stepOk l i = false := by
  unfold stepOk
  rw [getD_of hx]
  unfold prevNo at h
  by_cases e : i = 0
  · rw [if_pos e] at h
    cases hf : fOk x.1 x.2
    · rfl
    · have := (fOk_range hf).1; omega
  · rw [if_neg e] at h
    have h1 : decide ((l.getD (i - 1) noF).1 < x.1) = false := by rw [decide_eq_false_iff_not]; omega
    rw [h1]; simp [e]
set_option maxRecDepth 100000 in
theorem prev_yes {l : List FieldD} {i : Nat} {x : FieldD} (hx : l[i]? = some x) (h : prevNo l i < x.1) : stepOk l i = fOk x.1 x.2 := by
  unfold stepOk
  rw [getD_of hx]
  unfold prevNo at h
  by_cases e : i = 0
  · simp [e]
  · rw [if_neg e] at h
    have h1 : decide ((l.getD (i - 1) noF).1 < x.1) = true := by rw [decide_eq_true_eq]; exact h
    rw [h1]; simp
set_option maxRecDepth 100000 in
theorem prev_next {l : List FieldD} {i : Nat} {x : FieldD} (hx : l[i]? = some x) : prevNo l (i + 1) = x.1 := by
  unfold prevNo
  rw [if_neg (by omega), Nat.add_sub_cancel, getD_of hx]
set_option maxRecDepth 100000 in
set_option maxHeartbeats 4000000 in
theorem implMsgOk_any (hi : Nat) (v : Value) (m : MsgD) (w : World) (hm : m.1.size ≤ maxLen) (hn : m.2.length ≤ 1048576) (hs : ∀ x ∈ m.2, x.2.size ≤ maxLen) (h : FieldsR.rd hi w [v] m.2) (hh : hi ≤ w.heap.size) :
    Calls Tryd.prog 7 #[.agg #[.string m.1, v]] w fun e w' => e = .returned (.bool (msgOk m)) ∧ Below w.heap.size w w' := by
  obtain ⟨A, c, rfl, hc, h'⟩ := fields_rd h
  have HR := Lib.hid h'
  have HS := Lib.hid hs
  clear h' hs h
  have HD := Lib.hid (fun w' => isMti_any m.1 w' hm)
  have HB0 : Hid (∀ o, Below w.heap.size w (w.alloc o)) := Lib.hid fun o => (Below.refl _ _).alloc (Nat.le_refl _) o
  cases hd : mtiOk m.1
  · have HM : Hid (msgOk m = false) := Lib.hid (by simp [msgOk, hd])
    rw [HM.out]
    have HDD := Lib.hid hd
    clear hd
    go_enter Tryd.func7, Tryd.ntmps7
    go_wp2_with fail
    refine (HD.out _).mono ?_
    rw [HDD.out]
    rintro e w1 ⟨rfl, hb⟩
    have HB := Lib.hid ((HB0.out _).trans (hb.mono (by simp)))
    clear hb
    go_wp2
    go_ret
    exact ⟨rfl, HB.out⟩
  have HM : Hid (msgOk m = listOk m.2) := Lib.hid (by simp [msgOk, hd])
  rw [HM.out]
  have HDD := Lib.hid hd
  clear hd HM
  go_enter Tryd.func7, Tryd.ntmps7
  go_wp2_with fail
  refine (HD.out _).mono ?_
  rw [HDD.out]
  rintro e w1 ⟨rfl, hb⟩
  have HB1 := Lib.hid ((HB0.out _).trans (hb.mono (by simp)))
  have hz1 : w.heap.size + 1 ≤ w1.heap.size := by have := hb.size; simpa using this
  have x1 : w1.cell? ⟨w.heap.size, 1, none⟩ = some (.slice A m.2.length c) := (hb.cell (p := ⟨w.heap.size, 1, none⟩) (by simp)).trans (by simp)
  clear hb
  go_wp2
  go_loopw [3, 13] (fun bv iv wr => ∃ i : Nat, i ≤ m.2.length ∧ iv = .int .i64 i ∧ bv = .int .i64 (prevNo m.2 i) ∧ Hid (∀ j, j < i → stepOk m.2 j = true) ∧ Hid (Below w.heap.size w wr) ∧ w.heap.size ≤ wr.heap.size) (fun _ iv _ => m.2.length - (intOf iv).toNat)
  case atStart => exact ⟨0, Nat.zero_le _, rfl, rfl, Lib.hid (fun j hj => absurd hj (by omega)), HB1, by omega⟩
  case round =>
    obtain ⟨i, hi', rfl, rfl, HG, HB, hz⟩ := hrel
    by_cases hin : i < m.2.length
    · obtain ⟨x, hx⟩ : ∃ x, m.2[i]? = some x := ⟨_, List.getElem?_eq_getElem hin⟩
      obtain ⟨b, off, rfl, hbl, c0, c1⟩ := HR.out i x hx
      have hxs := HS.out x (List.mem_of_getElem? hx)
      have c0 := (HB.out.cell (p := ⟨b, off + i * 2, none⟩) (show b < w.heap.size by omega)).trans c0
      have c1 := (HB.out.cell (p := ⟨b, off + i * 2 + 1, none⟩) (show b < w.heap.size by omega)).trans c1
      have g1 : (i : Int) < (m.2.length : Int) := by omega
      have g2 : 0 ≤ (i : Int) := by omega
      have HN := Lib.hid (prev_next hx)
      have HL := Lib.hid (fun h => prev_low hx h)
      have HY := Lib.hid (fun h => prev_yes hx h)
      have HK := Lib.hid (fun (h : stepOk m.2 i = false) => listOk_no hin h)
      clear hx
      generalize prevNo m.2 i = p at HL HY ⊢
      by_cases hlt : x.1 ≤ p
      · have HF := Lib.hid (HK.out (HL.out hlt))
        have hlt' : decide (x.1 ≤ p) = true := by simpa using hlt
        clear hlt
        go_wp2
        go_ret
        exact ⟨ret_bool HF.out.symm, HB.out.alloc hz _⟩
      · have hlt' : decide (x.1 ≤ p) = false := by simpa using hlt
        have HP := Lib.hid (HY.out (by omega))
        have HQ := Lib.hid (fun w' => implFieldOk_any x.1 x.2 w' hxs)
        have HBX := Lib.hid (HB.out.alloc hz (.cells #[.int .i64 x.1, .string x.2] 36))
        clear hlt
        cases hf : fOk x.1 x.2
        · have HF := Lib.hid (HK.out (by rw [HP.out, hf]))
          rw [hf] at HQ
          clear hf
          go_wp2_with fail
          refine (HQ.out _).mono ?_
          rintro e w2 ⟨rfl, hb2⟩
          have HB2 := Lib.hid (HBX.out.trans (hb2.mono (by simp; omega)))
          clear hb2
          go_wp2
          go_ret
          exact ⟨ret_bool HF.out.symm, HB2.out⟩
        · rw [hf] at HQ
          have HF : Hid (stepOk m.2 i = true) := Lib.hid (by rw [HP.out, hf])
          clear hf
          go_wp2_with fail
          refine (HQ.out _).mono ?_
          rintro e w2 ⟨rfl, hb2⟩
          have HB2 := Lib.hid (HBX.out.trans (hb2.mono (by simp; omega)))
          have hz2 : wr.heap.size + 1 ≤ w2.heap.size := by have := hb2.size; simpa using this
          have q0 : w2.cell? ⟨wr.heap.size, 0, none⟩ = some (.int .i64 x.1) := (hb2.cell (p := ⟨wr.heap.size, 0, none⟩) (by simp)).trans (by simp)
          clear hb2
          go_wp2
          go_roundw
          case rel => exact ⟨i + 1, by omega, by go_num, by rw [HN.out], Lib.hid (fun j hj => by
            by_cases e : j = i
            · rw [e]; exact HF.out
            · exact HG.out j (by omega)), HB2, by omega⟩
          case measure => simp [intOf] <;> omega
    · obtain rfl : i = m.2.length := by omega
      have HF : Hid (listOk m.2 = true) := Lib.hid (listOk_yes HG.out)
      go_wp2
      go_ret
      exact ⟨ret_bool HF.out.symm, HB.out⟩
end Go.Proofs.YtkkbhlaakhkjnaaDoor
/- The law package's helpers on slices of strings: compare, mark, held; no conditions. -/
set_option linter.unusedVariables false
namespace Go.Proofs.YtkkbhlaakhkjnaaDoor
open Go.ChangeShapes Go.WideShapes Go.ChangeAt Go.RowKit

/-- block b holds the strings of a list -/
def strRow (w : World) (b : Nat) (l : List (List UInt8)) : Prop := ∀ (j : Nat) (x : List UInt8), l[j]? = some x → w.cell? ⟨b, j, none⟩ = some (.string ⟨x.toArray⟩)
/-- .. and may be written -/
def strFree (w : World) (b n : Nat) : Prop := ∀ j : Nat, j < n → w.frozen? ⟨b, j, none⟩ = false
set_option maxRecDepth 100000 in
theorem strRow.below {w w' : World} {b B : Nat} {l : List (List UInt8)} (h : strRow w b l) (hb : Below B w w') (hlt : b < B) : strRow w' b l := fun j x hx => (hb.cell (p := ⟨b, j, none⟩) hlt).trans (h j x hx)
set_option maxRecDepth 100000 in
theorem strFree.below {w w' : World} {b B n : Nat} (h : strFree w b n) (hb : Below B w w') (hlt : b < B) : strFree w' b n := fun j hj => (hb.frozen (p := ⟨b, j, none⟩) hlt).trans (h j hj)

/-- the text of a mark -/
def markOf (k : Int) : List UInt8 := 109 :: Lib.decDigits k.toNat
set_option maxRecDepth 100000 in
theorem str_appS (a b : List UInt8) : ((⟨a.toArray⟩ : ByteArray) ++ (⟨b.toArray⟩ : ByteArray)) = ⟨(a ++ b).toArray⟩ := by apply ByteArray.ext; simp
set_option maxRecDepth 100000 in
theorem str_consS (c : UInt8) (b : List UInt8) : ((⟨#[c]⟩ : ByteArray) ++ (⟨b.toArray⟩ : ByteArray)) = ⟨(c :: b).toArray⟩ := str_appS [c] b
/-- the digits still to come -/
def restOf (k : Int) : List UInt8 := if k ≤ 0 then [] else Lib.decDigits k.toNat
set_option maxRecDepth 100000 in
theorem rest_all {k : Int} (h : 0 < k) : restOf k = Lib.decDigits k.toNat := by unfold restOf; rw [if_neg (by omega)]
set_option maxRecDepth 100000 in
theorem rest_none {k : Int} (h : k ≤ 0) : restOf k = [] := by unfold restOf; rw [if_pos h]
set_option maxRecDepth 100000 in
theorem rest_step {k : Int} (h : 0 < k) (t : List UInt8) : restOf (k / 10) ++ (UInt8.ofNat (48 + k % 10).toNat :: t) = restOf k ++ t := by
  rw [rest_all h]
  by_cases h1 : k < 10
  · rw [rest_none (k := k / 10) (by omega), Lib.decDigits_one (i := k.toNat) (by omega), show (48 + k % 10).toNat = 48 + k.toNat by omega]; rfl
  · rw [rest_all (k := k / 10) (by omega)]
    conv => rhs; rw [Lib.decDigits, dif_neg (show ¬ k.toNat < 10 by omega)]
    rw [show (k / 10).toNat = k.toNat / 10 by omega, show (48 + k % 10).toNat = 48 + k.toNat % 10 by omega]
    simp
set_option maxRecDepth 100000 in
theorem rest_len {k : Int} {t l : List UInt8} (h : restOf k ++ t = l) : t.length ≤ l.length := by rw [← h, List.length_append]; omega
set_option maxRecDepth 100000 in
theorem mark_len (k : Int) (h : k ≤ 1000000000) : (Lib.decDigits k.toNat).length ≤ 20 := by rw [Lib.decDigits_length]; exact Lib.nDigits_le20 _ (by omega)
/-- what the law package writes into a slice of strings: the marks from k on -/
def marksOf (k : Int) : Nat → List (List UInt8)
  | 0 => []
  | n + 1 => markOf k :: marksOf (k + 1) n
set_option maxRecDepth 100000 in
theorem marks_get (n : Nat) : ∀ (k : Int) (j : Nat), j < n → (marksOf k n)[j]? = some (markOf (k + j)) := by
  induction n with
  | zero => intro k j h; omega
  | succ n ih =>
    intro k j h
    cases j with
    | zero => simp [marksOf]
    | succ j =>
      simp only [marksOf, List.getElem?_cons_succ]
      rw [ih (k + 1) j (by omega)]
      congr 2
      omega

/-- of what was there block b alone may have turned -/
structure wrote (b : Nat) (w w' : World) : Prop where
  os : w'.os = w.os
  tape : w'.tape = w.tape
  output : w'.output = w.output
  size : w.heap.size ≤ w'.heap.size
  block : ∀ k, k < w.heap.size → k ≠ b → w'.heap[k]? = w.heap[k]?
set_option maxRecDepth 100000 in
theorem wrote.refl (b : Nat) (w : World) : wrote b w w := ⟨rfl, rfl, rfl, Nat.le_refl _, fun _ _ _ => rfl⟩
set_option maxRecDepth 100000 in
theorem wrote.then {b : Nat} {u v w : World} (h : wrote b u v) (g : Below v.heap.size v w) : wrote b u w :=
  ⟨g.os.trans h.os, g.tape.trans h.tape, g.output.trans h.output, Nat.le_trans h.size g.size, fun k hk hne => (g.block k (Nat.lt_of_lt_of_le hk h.size)).trans (h.block k hk hne)⟩
set_option maxRecDepth 100000 in
theorem wrote.set {b : Nat} {u v : World} (h : wrote b u v) (o : Nat) (x : Value) : wrote b u (v.setCell ⟨b, o, none⟩ x) :=
  ⟨h.os, h.tape, h.output, by simpa [World.setCell] using h.size, fun k hk hne => (Below.heap_setCell _ _ _ _ hne).trans (h.block k hk hne)⟩
set_option maxRecDepth 100000 in
theorem wrote.below {b B : Nat} {u v : World} (h : wrote b u v) (hB : B ≤ b) (hs : B ≤ u.heap.size) : Below B u v := ⟨h.os, h.tape, h.output, h.size, fun k hk => h.block k (by omega) (by omega)⟩
set_option maxRecDepth 100000 in
theorem wrote.row {b c : Nat} {u v : World} {l : List (List UInt8)} (h : wrote b u v) (hc : c < u.heap.size) (hne : c ≠ b) (hr : strRow u c l) : strRow v c l := fun j x hx =>
  (World.cell?_of_block (h.block c hc hne)).trans (hr j x hx)

/-- the first i places hold marks, all places can be written -/
def marked (w : World) (b : Nat) (k : Int) (i n : Nat) : Prop := ∀ j : Nat, j < n → w.frozen? ⟨b, j, none⟩ = false ∧ (∃ v, w.cell? ⟨b, j, none⟩ = some v) ∧ (j < i → w.cell? ⟨b, j, none⟩ = some (.string ⟨(markOf (k + j)).toArray⟩))
set_option maxRecDepth 100000 in
theorem marked.below {w w' : World} {b : Nat} {k : Int} {i n : Nat} (h : marked w b k i n) (hb : Below w.heap.size w w') (hlt : b < w.heap.size) : marked w' b k i n := fun j hj =>
  ⟨(hb.frozen (p := ⟨b, j, none⟩) hlt).trans (h j hj).1, by obtain ⟨v, hv⟩ := (h j hj).2.1; exact ⟨v, (hb.cell (p := ⟨b, j, none⟩) hlt).trans hv⟩, fun hi => (hb.cell (p := ⟨b, j, none⟩) hlt).trans ((h j hj).2.2 hi)⟩
set_option maxRecDepth 100000 in
theorem marked.set {w : World} {b : Nat} {k : Int} {i n : Nat} (h : marked w b k i n) (hi : i < n) : marked (w.setCell ⟨b, i, none⟩ (.string ⟨(markOf (k + i)).toArray⟩)) b k (i + 1) n := by
  intro j hj
  have hf : ∀ a, (w.setCell ⟨b, i, none⟩ (.string ⟨(markOf (k + i)).toArray⟩)).frozen? a = w.frozen? a := fun a => by simp
  refine ⟨(hf _).trans (h j hj).1, ?_⟩
  by_cases e : i = j
  · subst e
    obtain ⟨v, hv⟩ := (h i hj).2.1
    have := World.cell?_setCell_same w ⟨b, i, none⟩ (.string ⟨(markOf (k + i)).toArray⟩) hv
    exact ⟨⟨_, this⟩, fun _ => this⟩
  · have hne : ∀ x, (w.setCell ⟨b, i, none⟩ x).cell? ⟨b, j, none⟩ = w.cell? ⟨b, j, none⟩ := fun x => World.cell?_setCell_other _ _ _ _ (fun he => e (by simpa using congrArg Addr.off he))
    obtain ⟨v, hv⟩ := (h j hj).2.1
    exact ⟨⟨v, (hne _).trans hv⟩, fun hlt => (hne _).trans ((h j hj).2.2 (by omega))⟩

end Go.Proofs.YtkkbhlaakhkjnaaDoor
/- Fields and messages: what the law package's marks and looks at the marks do; no conditions. -/
set_option linter.unusedVariables false
namespace Go.Proofs.YtkkbhlaakhkjnaaDoor
open Go.ChangeShapes Go.WideShapes Go.ChangeAt Go.RowKit

def fieldMark (k : Int) (j : Nat) : FieldD := (k + 2 * (j : Int), ⟨(markOf (k + 2 * (j : Int) + 1)).toArray⟩)
def fieldsMark (k : Int) (n : Nat) : List FieldD := (List.range n).map (fieldMark k)
set_option maxRecDepth 100000 in
theorem fieldsMark_len (k : Int) (n : Nat) : (fieldsMark k n).length = n := by simp [fieldsMark]
set_option maxRecDepth 100000 in
theorem fieldsMark_get (k : Int) (n j : Nat) (h : j < n) : (fieldsMark k n).getD j (0, ⟨#[]⟩) = fieldMark k j := by simp [fieldsMark, h]
set_option maxRecDepth 100000 in
theorem fieldsMark_at (k : Int) (n j : Nat) (h : j < n) : (fieldsMark k n)[j]? = some (fieldMark k j) := by simp [fieldsMark, h]
set_option maxRecDepth 100000 in
/-- a slice of fields of one's own: empty, or one block that may be written -/
theorem fields_own {lo hi : Nat} {w : World} {v : Value} {l : List FieldD} (h : FieldsR.mine lo hi w [v] l) :
    ∃ A c, v = .slice A l.length c ∧ l.length ≤ c ∧ (l = [] ∨ ∃ b off, A = some ⟨b, off, none⟩ ∧ lo ≤ b ∧ b < hi ∧ roomL w b off (l.length * 2)) := by
  obtain ⟨F, ⟨A, c, hv, hc, h⟩, -, hF⟩ := h
  simp only [List.cons.injEq, and_true] at hv
  refine ⟨A, c, hv, hc, ?_⟩
  rcases h with ⟨rfl, _⟩ | ⟨b, off, Fs, rfl, rfl, hl, h⟩
  · exact .inl rfl
  · have hb := hF b (List.mem_cons_self ..)
    refine .inr ⟨b, off, rfl, hb.1, hb.2, fun t ht => ?_⟩
    have hj : t / 2 < l.length := by omega
    obtain ⟨xs, h1, h2, h3⟩ := h (t / 2) _ _ (List.getElem?_eq_getElem hj) (List.getElem?_eq_getElem (by omega))
    rw [field_own] at h1
    obtain ⟨rfl, -⟩ := h1
    have hk : FieldR.k = 2 := rfl
    rw [hk] at h2 h3
    have e : off + t = off + t / 2 * 2 + t % 2 := by omega
    rw [e]
    refine ⟨?_, h3 (t % 2) (by omega)⟩
    rcases Nat.mod_two_eq_zero_or_one t with m | m
    · rw [m]; exact ⟨_, h2 0 _ rfl⟩
    · rw [m]; exact ⟨_, h2 1 _ rfl⟩
set_option maxRecDepth 100000 in
theorem markOf_size (k : Int) (h : k ≤ 1000000000) : (markOf k).length ≤ 21 := by
  have := mark_len k h
  unfold markOf
  simp; omega
def msgMark (m : MsgD) (k : Int) : List FieldD := fieldsMark k m.2.length
end Go.Proofs.YtkkbhlaakhkjnaaDoor
