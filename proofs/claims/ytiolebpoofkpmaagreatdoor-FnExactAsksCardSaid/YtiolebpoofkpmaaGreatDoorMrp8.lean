/- A message in memory whose list of fields grows by append; no conditions. -/
import Derived.Test.YtiolebpoofkpmaaGreatDoorMrp3
import Derived.BigQuiet
import Derived.Deep.QuietTactic
import Derived.Test.YtiolebpoofkpmaaGreatDoorMrp1
import Derived.Test.YtiolebpoofkpmaaGreatDoorMrp6
import Derived.Test.YtiolebpoofkpmaaGreatDoorMrp7
set_option linter.unusedVariables false
namespace Go.Proofs.YtiolebpoofkpmaaGreatDoor
open Go.ChangeShapes Go.WideShapes Go.ChangeAt Go.RowKit

/-- block b holds a message with the type t and the list v, a row of one's own beyond b that reads L -/
structure growMsg (b : Nat) (t : ByteArray) (w0 w : World) (v : Value) (L : List FieldD) : Prop where
  blk : w.heap[b]? = some (.cells #[.string t, v] 33 (0, 0))
  own : owE 48 2 fCells (b + 1) w v L
  below : Below b w0 w
section
variable {b : Nat} {t : ByteArray} {w0 w w' : World} {v v' : Value} {L : List FieldD} {y : FieldD} {o : Obj}
set_option maxRecDepth 100000 in
theorem growMsg.lt (h : growMsg b t w0 w v L) : b < w.heap.size := lt_of_block h.blk
set_option maxRecDepth 100000 in
theorem growMsg.cell0 (h : growMsg b t w0 w v L) : w.cell? ⟨b, 0, none⟩ = some (.string t) := cell_of_row _ _ 0 _ _ (0, 0) h.blk
set_option maxRecDepth 100000 in
theorem growMsg.cell1 (h : growMsg b t w0 w v L) : w.cell? ⟨b, 1, none⟩ = some v := cell_of_row _ _ 1 _ _ (0, 0) h.blk
set_option maxRecDepth 100000 in
theorem growMsg.free (h : growMsg b t w0 w v L) (i : Nat) : w.frozen? ⟨b, i, none⟩ = false := by unfold World.frozen?; rw [h.blk]; simp
set_option maxRecDepth 100000 in
theorem growMsg.ne (h : growMsg b t w0 w v L) : v.ownBlock ≠ some b := fun e => by have := (h.own.lt b e).1; omega
set_option maxRecDepth 100000 in
theorem growMsg.alloc (h : growMsg b t w0 w v L) (o : Obj) : growMsg b t w0 (w.alloc o) v L :=
  ⟨(Below.heap_alloc w o b h.lt).trans h.blk, h.own.alloc o, h.below.alloc (Nat.le_of_lt h.lt) o⟩
set_option maxRecDepth 100000 in
theorem growMsg.keepBelow {C : Nat} (h : growMsg b t w0 w v L) (hb : Below C w w') (hC : w.heap.size ≤ C := by exact Nat.le_refl _) : growMsg b t w0 w' v L :=
  ⟨(hb.block b (Nat.lt_of_lt_of_le h.lt hC)).trans h.blk, h.own.below hb hC, h.below.trans (hb.mono (Nat.le_trans (Nat.le_of_lt h.lt) hC))⟩
set_option maxRecDepth 100000 in
theorem growMsg.start (t : ByteArray) (w : World) : growMsg w.heap.size t w (w.alloc (.cells #[.string t, .slice none 0 0] 33)) (.slice none 0 0) [] :=
  ⟨heap_alloc_new _ _, owE_none _ _ _ _ _, (Below.refl _ _).alloc (Nat.le_refl _) _⟩
set_option maxRecDepth 100000 in
/-- the world behind an append and the store of the new list -/
theorem growMsg.app (h : growMsg b t w0 w v L) (hg : (w.alloc o).grownBy w' v.ownBlock) (ho : owE 48 2 fCells (b + 1) w' v' (L ++ [y])) : growMsg b t w0 (w'.setCell ⟨b, 1, none⟩ v') v' (L ++ [y]) := by
  have hb : w'.heap[b]? = w.heap[b]? := (hg.block b (by have := h.lt; simp; omega) (fun e => h.ne e.symm)).trans (Below.heap_alloc w o b h.lt)
  refine ⟨?_, ho.set (fun e => by have := (ho.lt b e).1; omega) 1 v', ?_⟩
  · have h1 := hb.trans h.blk
    simp [World.setCell, Array.getElem?_modify, h1]
  · exact (((h.below.alloc (Nat.le_of_lt h.lt) o).grown hg (by have := h.below.size; have := h.lt; simp; omega) (fun k hk => by have := (h.own.lt k hk).1; omega))).setCell (p := ⟨b, 1, none⟩) (Nat.le_refl _) _
set_option maxRecDepth 100000 in
/-- the cell and its mark, for the store -/
theorem growMsg.app_cell (h : growMsg b t w0 w v L) (hg : (w.alloc o).grownBy w' v.ownBlock) : w'.cell? ⟨b, 1, none⟩ = some v ∧ w'.frozen? ⟨b, 1, none⟩ = false := by
  have hb : w'.heap[b]? = w.heap[b]? := (hg.block b (by have := h.lt; simp; omega) (fun e => h.ne e.symm)).trans (Below.heap_alloc w o b h.lt)
  exact ⟨(cell_keep hb).trans h.cell1, (frozen_keep hb).trans (h.free 1)⟩
set_option maxRecDepth 100000 in
theorem growMsg.mine (h : growMsg b t w0 w v L) : FieldsR.mine (b + 1) w.heap.size w [v] L := by
  rcases h.own.filled (fun _ => rfl) noF with ⟨rfl, A, c, rfl⟩ | ⟨g, c, rfl, hc, h1, h2, hf⟩
  · exact ⟨[], ⟨A, c, rfl, Nat.zero_le _, .inl ⟨rfl, rfl⟩⟩, List.nodup_nil, by simp⟩
  · exact fields_mine rfl hc h1 h2 hf
set_option maxRecDepth 100000 in
/-- the message is stored into the result's cell: r -/
theorem growMsg.ret {w2 : World} {r : Nat} (h : growMsg b t w0 w v L) (hr : r < b) (hw : w2.heap.size ≤ r) (hb : Below w2.heap.size w2 w) (x y : Value) :
    FieldsR.mine w2.heap.size ((w.setCell ⟨r, 0, none⟩ x).setCell ⟨r, 1, none⟩ y).heap.size ((w.setCell ⟨r, 0, none⟩ x).setCell ⟨r, 1, none⟩ y) [v] L ∧ Below w2.heap.size w2 ((w.setCell ⟨r, 0, none⟩ x).setCell ⟨r, 1, none⟩ y) := by
  refine ⟨?_, (hb.setCell (p := ⟨r, 0, none⟩) hw _).setCell (p := ⟨r, 1, none⟩) hw _⟩
  have ht := ((Turned.refl r (r + 1) w).set (b := r) 0 x (by omega) (by omega)).set (b := r) 1 y (by omega) (by omega)
  exact (h.mine.turned ht (.inr (by omega)) (Nat.le_refl _)).mono (by omega) ht.size
end
set_option maxRecDepth 100000 in
theorem fCells_one (x : FieldD) : ∀ u ∈ fCells x, u.oneCell' = true := by
  intro u hu
  simp only [fCells, List.mem_cons, List.not_mem_nil, or_false] at hu
  rcases hu with rfl | rfl <;> rfl
set_option maxRecDepth 100000 in
theorem mine_none (lo hi : Nat) (w : World) : FieldsR.mine lo hi w [.slice none 0 0] [] := ⟨[], ⟨none, 0, rfl, Nat.le_refl _, .inl ⟨rfl, rfl⟩⟩, List.nodup_nil, by simp⟩
end Go.Proofs.YtiolebpoofkpmaaGreatDoor
set_option linter.unusedVariables false
namespace Go.Proofs.YtiolebpoofkpmaaGreatDoor
open Go.ChangeShapes Go.WideShapes Go.ChangeAt Go.RowKit

def fldHas (l : List FieldD) (no : Int) : Bool := l.any fun x => decide (x.1 = no)
def fldTxt (l : List FieldD) (no : Int) : ByteArray := ((l.find? fun x => decide (x.1 = no)).map (·.2)).getD ⟨#[]⟩
set_option maxRecDepth 100000 in
theorem find_at {l : List FieldD} {no : Int} {i : Nat} {x : FieldD} (hN : ∀ j y, j < i → l[j]? = some y → y.1 ≠ no) (hx : l[i]? = some x) (he : x.1 = no) : fldHas l no = true ∧ fldTxt l no = x.2 := by
  obtain ⟨hi, rfl⟩ := List.getElem?_eq_some_iff.1 hx
  have h1 : l.find? (fun x => decide (x.1 = no)) = some l[i] := by
    rw [List.find?_eq_some_iff_getElem]
    refine ⟨by simpa using he, i, hi, rfl, fun j hj => ?_⟩
    have := hN j _ hj (List.getElem?_eq_getElem (by omega))
    simpa using this
  constructor
  · unfold fldHas; rw [List.any_eq_true]; exact ⟨_, List.getElem_mem hi, by simpa using he⟩
  · unfold fldTxt; rw [h1]; rfl
set_option maxRecDepth 100000 in
theorem find_none {l : List FieldD} {no : Int} (hN : ∀ j y, j < l.length → l[j]? = some y → y.1 ≠ no) : fldHas l no = false ∧ fldTxt l no = ⟨#[]⟩ := by
  have hall : ∀ x ∈ l, ¬ x.1 = no := fun x hx => by
    obtain ⟨j, hj⟩ := List.mem_iff_getElem?.1 hx
    exact hN j x (List.getElem?_eq_some_iff.1 hj).1 hj
  constructor
  · unfold fldHas; rw [List.any_eq_false]; intro x hx; simpa using hall x hx
  · unfold fldTxt
    rw [List.find?_eq_none.2 (fun x hx => by simpa using hall x hx)]
    rfl
set_option maxRecDepth 100000 in
set_option maxHeartbeats 1600000 in
theorem specFieldOf_any (hi : Nat) (v : Value) (m : MsgD) (no : Int) (w : World) (hn : m.2.length ≤ 1048576) (h : FieldsR.rd hi w [v] m.2) (hh : hi ≤ w.heap.size) :
    Calls Tryz.prog 23 #[.agg #[.string m.1, v], .int .i64 no] w fun e w' => e = .returned (.tuple #[.string (fldTxt m.2 no), .bool (fldHas m.2 no)]) ∧ Below w.heap.size w w' := by
  obtain ⟨A, c, rfl, hc, h'⟩ := fields_rd h
  have HR := Lib.hid h'
  clear h' h
  go_enter Tryz.func23, Tryz.ntmps23
  go_wp2
  have HB0 : Hid (Below w.heap.size w (w.alloc (.cells #[.string m.1, .slice A m.2.length c] 33))) := Lib.hid ((Below.refl _ _).alloc (Nat.le_refl _) _)
  go_loopw [11] (fun iv wr => ∃ i : Nat, i ≤ m.2.length ∧ iv = .int .i64 i ∧ Hid (∀ j y, j < i → m.2[j]? = some y → y.1 ≠ no) ∧ Hid (Below w.heap.size w wr) ∧ w.heap.size ≤ wr.heap.size) (fun iv _ => m.2.length - (intOf iv).toNat)
  case atStart => exact ⟨0, Nat.zero_le _, rfl, Lib.hid (fun j y hj => absurd hj (by omega)), HB0, by simp⟩
  case round =>
    obtain ⟨i, hi', rfl, HN, HB, hz⟩ := hrel
    by_cases hin : i < m.2.length
    · obtain ⟨x, hx⟩ : ∃ x, m.2[i]? = some x := ⟨_, List.getElem?_eq_getElem hin⟩
      obtain ⟨b, off, rfl, hbl, c0, c1⟩ := HR.out i x hx
      have HX := Lib.hid hx
      have c0 := (HB.out.cell (p := ⟨b, off + i * 2, none⟩) (show b < w.heap.size by omega)).trans c0
      have c1 := (HB.out.cell (p := ⟨b, off + i * 2 + 1, none⟩) (show b < w.heap.size by omega)).trans c1
      have g1 : (i : Int) < (m.2.length : Int) := by omega
      have g2 : 0 ≤ (i : Int) := by omega
      clear hx
      by_cases he : x.1 = no
      · have HF := Lib.hid (find_at HN.out HX.out he)
        have he' : (x.1 == no) = true := by simpa using he
        clear he
        go_wp2
        go_ret2
        rw [HF.out.1, HF.out.2]
        exact ⟨rfl, HB.out.alloc hz _⟩
      · have he' : (x.1 == no) = false := by simpa using he
        have HE := Lib.hid he
        clear he
        go_wp2
        go_roundw
        case rel => exact ⟨i + 1, by omega, by go_num, Lib.hid (fun j y hj hy => by
          by_cases e : j = i
          · subst e; rw [HX.out] at hy; cases hy; exact HE.out
          · exact HN.out j y (by omega) hy), Lib.hid (HB.out.alloc hz _), by simp; omega⟩
        case measure => simp [intOf] <;> omega
    · obtain rfl : i = m.2.length := by omega
      have HF := Lib.hid (find_none HN.out)
      go_wp2
      go_ret2
      rw [HF.out.1, HF.out.2]
      exact ⟨rfl, HB.out⟩
set_option maxRecDepth 100000 in
theorem take_next {α : Type} {l : List α} {i : Nat} {x : α} (h : l[i]? = some x) : l.take (i + 1) = l.take i ++ [x] := by
  obtain ⟨hi, rfl⟩ := List.getElem?_eq_some_iff.1 h
  rw [List.take_succ_eq_append_getElem hi]
end Go.Proofs.YtiolebpoofkpmaaGreatDoor
set_option linter.unusedVariables false
namespace Go.Proofs.YtiolebpoofkpmaaGreatDoor
open Go.ChangeShapes Go.WideShapes Go.ChangeAt Go.RowKit

def decStep (n : Int) (c : UInt8) : Int := 10 * n + ((c.toNat : Int) - 48)
/-- the number that the digits denote -/
def decOf (l : List UInt8) : Int := l.foldl decStep 0
/-- do the digits denote money? -/
def scanOk (s : ByteArray) : Bool := digs s && decide (decOf s.data.toList ≤ 4611686018427387904)

set_option maxRecDepth 100000 in
theorem dec_snoc (s : ByteArray) (k : Nat) (h : k < s.size) : decOf (s.data.toList.take (k + 1)) = 10 * decOf (s.data.toList.take k) + ((s[k].toNat : Int) - 48) := by
  rw [take_one s k h]; simp [decOf, List.foldl_append, decStep]
set_option maxRecDepth 100000 in
theorem dec_nonneg : ∀ (l : List UInt8) (n : Int), 0 ≤ n → l.all isDig = true → n ≤ l.foldl decStep n
  | [], n, _, _ => Int.le_refl _
  | c :: l, n, h0, hd => by
    simp only [List.all_cons, Bool.and_eq_true] at hd
    have h1 := (isDig_iff c).1 hd.1
    have h2 : n ≤ decStep n c := by unfold decStep; omega
    exact Int.le_trans h2 (dec_nonneg l (decStep n c) (by omega) hd.2)
set_option maxRecDepth 100000 in
theorem dec_split (l : List UInt8) (k : Nat) : decOf l = (l.drop k).foldl decStep (decOf (l.take k)) := by
  unfold decOf
  rw [← List.foldl_append, List.take_append_drop]
set_option maxRecDepth 100000 in
theorem all_drop (l : List UInt8) (k : Nat) (h : l.all isDig = true) : (l.drop k).all isDig = true := by
  rw [List.all_eq_true] at h ⊢
  exact fun x hx => h x (List.mem_of_mem_drop hx)
set_option maxRecDepth 100000 in
theorem all_take (l : List UInt8) (k : Nat) (h : l.all isDig = true) : (l.take k).all isDig = true := by
  rw [List.all_eq_true] at h ⊢
  exact fun x hx => h x (List.mem_of_mem_take hx)
set_option maxRecDepth 100000 in
theorem dec_pos (l : List UInt8) (h : l.all isDig = true) : 0 ≤ decOf l := dec_nonneg l 0 (Int.le_refl _) h
set_option maxRecDepth 100000 in
theorem digs_all {s : ByteArray} (h : digs s = true) : s.data.toList.all isDig = true := by
  simp only [digs, Bool.and_eq_true] at h; exact h.2
set_option maxRecDepth 100000 in
/-- a first part denotes no more than the whole -/
theorem dec_mono (s : ByteArray) (k : Nat) (h : digs s = true) : decOf (s.data.toList.take k) ≤ decOf s.data.toList := by
  have hd := digs_all h
  rw [dec_split s.data.toList k]
  exact dec_nonneg _ _ (dec_pos _ (all_take _ k hd)) (all_drop _ k hd)
set_option maxRecDepth 100000 in
/-- what passes the limit in the midst is no money -/
theorem scan_over (s : ByteArray) (k : Nat) (h : k < s.size) (ho : 4611686018427387904 < decOf (s.data.toList.take (k + 1))) : scanOk s = false := by
  cases hd : digs s
  · simp [scanOk, hd]
  · have := dec_mono s (k + 1) hd
    simp only [scanOk, hd, Bool.true_and]
    exact decide_eq_false (by omega)
set_option maxRecDepth 100000 in
theorem scan_bad (s : ByteArray) (h : digs s = false) : scanOk s = false := by simp [scanOk, h]
set_option maxRecDepth 100000 in
theorem scan_good (s : ByteArray) (k : Nat) (hk : ¬ k < s.size) (h0 : 0 < s.size) (ha : (s.data.toList.take k).all isDig = true) (hm : decOf (s.data.toList.take k) ≤ 4611686018427387904) : scanOk s = true := by
  simp only [scanOk, digs_yes s k hk h0 ha, Bool.true_and]
  rw [take_end s k hk] at hm
  exact decide_eq_true hm
set_option maxRecDepth 100000 in
theorem empty_yes (s : ByteArray) (h : ¬ 0 < s.size) : s.toList.isEmpty = true := by
  have := not_empty s
  rw [decide_eq_false h] at this
  simpa using this
set_option maxRecDepth 100000 in
theorem empty_no (s : ByteArray) (h : 0 < s.size) : s.toList.isEmpty = false := by
  have := not_empty s
  rw [decide_eq_true h] at this
  simpa using this
end Go.Proofs.YtiolebpoofkpmaaGreatDoor
set_option linter.unusedVariables false
namespace Go.Proofs.YtiolebpoofkpmaaGreatDoor
open Go.ChangeShapes Go.WideShapes Go.ChangeAt Go.RowKit

/-- what scanMoney comes to -/
def scanEnd (s : ByteArray) (e : Ending) : Prop :=
  if scanOk s = true then e = .returned (.tuple #[.int .i64 (decOf s.data.toList), .nilIface]) else ∃ t v, e = .returned (.tuple #[.int .i64 0, .iface t v])
set_option maxRecDepth 100000 in
theorem scanEnd_no {s : ByteArray} (h : scanOk s = false) {t : TypeId} {v : Value} : scanEnd s (.returned (.tuple #[.int .i64 0, .iface t v])) := by
  unfold scanEnd; rw [if_neg (by simp [h])]; exact ⟨t, v, rfl⟩
set_option maxRecDepth 100000 in
theorem scanEnd_yes {s : ByteArray} (h : scanOk s = true) {n : Int} (hn : n = decOf s.data.toList) : scanEnd s (.returned (.tuple #[.int .i64 n, .nilIface])) := by
  unfold scanEnd; rw [if_pos h, hn]

set_option maxRecDepth 100000 in
set_option maxHeartbeats 800000 in
theorem scan_any (s : ByteArray) (w : World) (p : Addr) (hg : 1 < w.heap.size) (hc : w.cell? ⟨1, 0, none⟩ = some (.iface 207 (.pointer (some p)))) :
    Calls Tryz.prog 103 #[.string s] w fun e w' => scanEnd s e ∧ Below w.heap.size w w' := by
  by_cases h0 : 0 < s.size
  · have hE := empty_no s h0
    have hci : ∀ pos, (w.iter s pos).cell? ⟨1, 0, none⟩ = some (.iface 207 (.pointer (some p))) := fun pos => cell?_alloc_old _ hc
    clear hc
    go_enter Tryz.func103, Tryz.ntmps103
    go_wp2
    go_loopw [2, 3, 4] (fun _ _ n wr => ∃ k : Nat, k ≤ s.size ∧ wr = w.iter s k ∧ (s.data.toList.take k).all isDig = true ∧ n = .int .i64 (decOf (s.data.toList.take k)) ∧ 0 ≤ decOf (s.data.toList.take k) ∧ decOf (s.data.toList.take k) ≤ 4611686018427387904) (fun _ _ _ wr => s.size - wr.iterPos w.heap.size)
    case atStart => exact ⟨0, Nat.zero_le _, rfl, rfl, rfl, Int.le_refl _, by simp [decOf]⟩
    case round =>
      obtain ⟨k, hk, rfl, ha0, rfl, hn0, hn1⟩ := hrel
      have ha := Lib.hid ha0
      clear ha0
      by_cases hlt : k < s.size
      · have hsn := Lib.hid (dec_snoc s k hlt)
        have hov := Lib.hid (scan_over s k hlt)
        cases hd : isDig s[k]
        · have hr := rune_not s k hlt hd
          have hnx : ∀ ty, (Instr.next (.pointer (some ⟨w.heap.size, 0, none⟩)) true ty).run Tryz.prog (w.iter s k) = _ := fun ty => run_next_any w s k ty hlt
          generalize hq : Utf8.decode s k = q at hnx hr
          obtain ⟨r, wd⟩ := q
          clear hq
          go_wp2_with (go_at_call 94; refine (isDigit_any _ _).mono ?_; rintro e w' ⟨rfl, rfl⟩)
          go_quiet (fail)
          go_wp2
          go_ret2
          exact ⟨scanEnd_no (scan_bad s (digs_no s k hlt hd)), below_drewN (below_iter _ _ _) _⟩
        · obtain ⟨hdec, hr⟩ := rune_dig s k hlt hd
          have hnx : ∀ ty, (Instr.next (.pointer (some ⟨w.heap.size, 0, none⟩)) true ty).run Tryz.prog (w.iter s k) = _ := fun ty => run_next_any w s k ty hlt
          rw [hdec] at hnx
          have hb := Lib.hid (all_one s k hlt ha.out hd)
          have hg1 : (48 : Int) ≤ (s[k].toNat : Int) := by have := (isDig_iff _).1 hd; omega
          have hg2 : (s[k].toNat : Int) ≤ 57 := by have := (isDig_iff _).1 hd; omega
          clear hdec hd
          by_cases hover : (4611686018427387904 - ((s[k].toNat : Int) - 48)) / 10 < decOf (s.data.toList.take k)
          · go_wp2_with (go_at_call 94; refine (isDigit_any _ _).mono ?_; rintro e w' ⟨rfl, rfl⟩)
            go_ret2
            exact ⟨scanEnd_no (hov.out (by rw [hsn.out]; omega)), below_iter _ _ _⟩
          · go_wp2_with (go_at_call 94; refine (isDigit_any _ _).mono ?_; rintro e w' ⟨rfl, rfl⟩)
            go_roundw
            case rel => exact ⟨k + 1, by omega, rfl, hb.out, val_int hsn.out.symm, by rw [hsn.out]; omega, by rw [hsn.out]; omega⟩
            case measure => simp <;> omega
      · have hgood := Lib.hid (scan_good s k hlt h0 ha.out hn1)
        have hend := Lib.hid (congrArg decOf (take_end s k hlt))
        have hnx : ∀ ty, (Instr.next (.pointer (some ⟨w.heap.size, 0, none⟩)) true ty).run Tryz.prog (w.iter s k) = _ := fun ty => run_next_end w s k ty hlt
        go_wp2
        go_ret2
        exact ⟨scanEnd_yes hgood.out hend.out, below_iter _ _ _⟩
  · have hE := empty_yes s h0
    go_enter Tryz.func103, Tryz.ntmps103
    go_wp2
    go_quiet (fail)
    go_wp2
    go_ret2
    exact ⟨scanEnd_no (scan_bad s (digs_empty s h0)), below_drewN (Below.refl _ _) _⟩
end Go.Proofs.YtiolebpoofkpmaaGreatDoor
set_option linter.unusedVariables false
namespace Go.Proofs.YtiolebpoofkpmaaGreatDoor
open Go.ChangeShapes Go.WideShapes Go.ChangeAt Go.RowKit

def narOk (s : ByteArray) : Bool := digs s && decide (s.size ≤ 18)
def narVal (s : ByteArray) : Int := if narOk s = true then decOf s.data.toList else 0

set_option maxRecDepth 100000 in
theorem dec_lt (l : List UInt8) : ∀ (n : Int), l.all isDig = true → l.foldl decStep n + 1 ≤ (n + 1) * 10 ^ l.length := by
  induction l with
  | nil => intro n _; simp
  | cons c l ih =>
    intro n hd
    simp only [List.all_cons, Bool.and_eq_true] at hd
    have h1 := (isDig_iff c).1 hd.1
    have h2 := ih (decStep n c) hd.2
    have h3 : decStep n c + 1 ≤ (n + 1) * 10 := by unfold decStep; omega
    have h4 : (decStep n c + 1) * 10 ^ l.length ≤ (n + 1) * 10 * 10 ^ l.length := Int.mul_le_mul_of_nonneg_right h3 (Int.pow_nonneg (by decide))
    have h5 : (n + 1) * 10 * 10 ^ l.length = (n + 1) * 10 ^ (c :: l).length := by rw [List.length_cons, Int.pow_succ, Int.mul_assoc, Int.mul_comm 10]
    simp only [List.foldl_cons]
    omega
set_option maxRecDepth 100000 in
theorem dec_18 (s : ByteArray) (h : digs s = true) (h18 : s.size ≤ 18) : decOf s.data.toList ≤ 999999999999999999 := by
  have h1 := dec_lt s.data.toList 0 (digs_all h)
  have h2 : (10 : Int) ^ s.data.toList.length ≤ 10 ^ 18 := by
    have hl : s.data.toList.length ≤ 18 := by simpa using h18
    generalize s.data.toList.length = m at hl
    have : ∀ m ≤ 18, (10 : Int) ^ m ≤ 10 ^ 18 := by decide +kernel
    exact this m hl
  have h3 : (10 : Int) ^ 18 = 1000000000000000000 := by decide +kernel
  unfold decOf
  omega
set_option maxRecDepth 100000 in
theorem nar_scan {s : ByteArray} (h : narOk s = true) : scanOk s = true ∧ decOf s.data.toList ≤ 999999999999999999 ∧ digs s = true ∧ s.size ≤ 18 := by
  simp only [narOk, Bool.and_eq_true, decide_eq_true_eq] at h
  have h1 := dec_18 s h.1 h.2
  refine ⟨?_, h1, h.1, h.2⟩
  simp only [scanOk, h.1, Bool.true_and]
  exact decide_eq_true (by omega)

set_option maxRecDepth 100000 in
theorem specNarrow_any (s : ByteArray) (w : World) (hs : s.size ≤ maxLen) :
    Calls Tryz.prog 28 #[.string s] w fun e w' => e = .returned (.tuple #[.int .i64 (narVal s), .bool (narOk s)]) ∧ w = w' := by
  cases hn : narOk s
  · have hv : narVal s = 0 := by simp [narVal, hn]
    rw [hv]
    cases hd : digs s
    · go_enter Tryz.func28, Tryz.ntmps28
      go_wp2_with (go_at_call 38; refine (specDigits_any _ _ hs).mono ?_; rintro e w1 ⟨rfl, rfl⟩)
      go_ret2
      exact ⟨rfl, rfl⟩
    · have h18 : (18 : Int) < (s.size : Int) := by
        rcases Nat.lt_or_ge 18 s.size with h | h
        · omega
        · simp [narOk, hd, h] at hn
      clear hn hv
      go_enter Tryz.func28, Tryz.ntmps28
      go_wp2_with (go_at_call 38; refine (specDigits_any _ _ hs).mono ?_; rintro e w1 ⟨rfl, rfl⟩)
      go_ret2
      exact ⟨rfl, rfl⟩
  · have hv : narVal s = decOf s.data.toList := by simp [narVal, hn]
    rw [hv]
    obtain ⟨hsc, hle, hd, h18⟩ := nar_scan hn
    have hD := Lib.hid hd
    clear hn hv hsc
    go_enter Tryz.func28, Tryz.ntmps28
    go_wp2_with (go_at_call 38; refine (specDigits_any _ _ hs).mono ?_; rintro e w1 ⟨rfl, rfl⟩)
    clear hd
    go_loop [4, 5] (fun nv iv => ∃ k : Nat, k ≤ s.size ∧ iv = .int .i64 k ∧ nv = .int .i64 (decOf (s.data.toList.take k))) (fun _ iv => s.size - (intOf iv).toNat)
    case atStart => exact ⟨0, Nat.zero_le _, rfl, rfl⟩
    case round =>
      obtain ⟨k, hk, rfl, rfl⟩ := hrel
      by_cases hlt : k < s.size
      · have hg := digs_get hD.out k hlt
        have hg1 : (48 : Int) ≤ (s[k].toNat : Int) := by omega
        have hg2 : (s[k].toNat : Int) ≤ 57 := by omega
        have hsn := dec_snoc s k hlt
        have hmo := dec_mono s (k + 1) hD.out
        have hn0 : 0 ≤ decOf (s.data.toList.take k) := dec_pos _ (all_take _ _ (digs_all hD.out))
        have hn1 : decOf (s.data.toList.take k) ≤ 99999999999999999 := by omega
        have HS := Lib.hid hsn
        clear hsn hmo hg
        go_wp2
        go_round
        case rel => exact ⟨k + 1, by omega, by go_num, val_int (by rw [HS.out]; omega)⟩
        case measure => simp [intOf] <;> omega
      · have hend := Lib.hid (congrArg decOf (take_end s k hlt))
        go_wp2
        go_ret2
        exact ⟨ret_ok hend.out rfl, rfl⟩

set_option maxRecDepth 100000 in
set_option maxHeartbeats 400000 in
theorem implNarrow_any (s : ByteArray) (w : World) (p : Addr) (hg : 1 < w.heap.size) (hc : w.cell? ⟨1, 0, none⟩ = some (.iface 207 (.pointer (some p)))) :
    Calls Tryz.prog 80 #[.string s] w fun e w' => e = .returned (.tuple #[.int .i64 (narVal s), .bool (narOk s)]) ∧ Below w.heap.size w w' := by
  by_cases h18 : (18 : Int) < (s.size : Int)
  · have hn : narOk s = false := by
      have : decide (s.size ≤ 18) = false := decide_eq_false (by omega)
      simp [narOk, this]
    have hv : narVal s = 0 := by simp [narVal, hn]
    rw [hv, hn]
    clear hn hv
    go_enter Tryz.func80, Tryz.ntmps80
    go_wp2
    go_ret2
    exact ⟨rfl, Below.refl _ _⟩
  · cases hd : digs s
    · have hn : narOk s = false := by simp [narOk, hd]
      have hv : narVal s = 0 := by simp [narVal, hn]
      have hsc := scan_bad s hd
      rw [hv, hn]
      clear hn hv
      go_enter Tryz.func80, Tryz.ntmps80
      go_wp2_with fail
      refine (scan_any s _ p hg hc).mono ?_
      rintro e w1 ⟨hse, hb⟩
      unfold scanEnd at hse
      rw [if_neg (by simp [hsc])] at hse
      obtain ⟨t, v, rfl⟩ := hse
      go_wp2
      go_quiet (fail)
      go_wp2
      go_ret2
      exact ⟨rfl, below_drewN hb _⟩
    · have hn : narOk s = true := by
        have : decide (s.size ≤ 18) = true := decide_eq_true (by omega)
        simp [narOk, hd, this]
      have hv : narVal s = decOf s.data.toList := by simp [narVal, hn]
      have hsc := (nar_scan hn).1
      rw [hv, hn]
      clear hn hv
      go_enter Tryz.func80, Tryz.ntmps80
      go_wp2_with fail
      refine (scan_any s _ p hg hc).mono ?_
      rintro e w1 ⟨hse, hb⟩
      unfold scanEnd at hse
      rw [if_pos hsc] at hse
      subst hse
      go_wp2
      go_quiet (fail)
      go_wp2
      go_ret2
      exact ⟨rfl, below_drewN hb _⟩
end Go.Proofs.YtiolebpoofkpmaaGreatDoor
set_option linter.unusedVariables false
namespace Go.Proofs.YtiolebpoofkpmaaGreatDoor
open Go.ChangeShapes Go.WideShapes Go.ChangeAt Go.RowKit

/-- how much of the first n bytes is left without trailing bytes c -/
def bareFrom (s : ByteArray) (c : UInt8) : Nat → Nat
  | 0 => 0
  | n + 1 => if s.data.toList.getD n 0 = c then bareFrom s c n else n + 1
set_option maxRecDepth 100000 in
theorem bareFrom_yes {s : ByteArray} {c : UInt8} {n : Nat} (hn : n < s.size) (h : s[n] = c) : bareFrom s c (n + 1) = bareFrom s c n := by
  have : s.data.toList.getD n 0 = s[n] := by
    rw [List.getD_eq_getElem?_getD, List.getElem?_eq_getElem (by simpa using hn)]; rfl
  rw [bareFrom, this, if_pos h]
set_option maxRecDepth 100000 in
theorem bareFrom_no {s : ByteArray} {c : UInt8} {n : Nat} (hn : n < s.size) (h : s[n] ≠ c) : bareFrom s c (n + 1) = n + 1 := by
  have : s.data.toList.getD n 0 = s[n] := by
    rw [List.getD_eq_getElem?_getD, List.getElem?_eq_getElem (by simpa using hn)]; rfl
  rw [bareFrom, this, if_neg h]
def bareS (s : ByteArray) : ByteArray := s.extract 0 (bareFrom s 32 s.size)
set_option maxRecDepth 100000 in
theorem cast_ne {a b : UInt8} (h : a ≠ b) : ¬ ((a.toNat : Int) = (b.toNat : Int)) := fun e => h (UInt8.toNat_inj.1 (by omega))
def sizeE : Value → Nat | .string s => s.size | _ => 0

set_option maxRecDepth 100000 in
set_option maxHeartbeats 800000 in
theorem specFieldBare_any (s : ByteArray) (w : World) (hs : s.size ≤ 1048576) :
    Calls Tryz.prog 26 #[.string s] w fun e w' => e = .returned (.string (bareS s)) ∧ w = w' := by
  go_enter Tryz.func26, Tryz.ntmps26
  go_wp2
  go_loop [3] (fun nv => ∃ n : Nat, n ≤ s.size ∧ nv = .int .i64 n ∧ Hid (bareFrom s 32 n = bareFrom s 32 s.size)) (fun nv => (intOf nv).toNat)
  case atStart => exact ⟨s.size, Nat.le_refl _, rfl, Lib.hid rfl⟩
  case round =>
    obtain ⟨n, hn, rfl, hr⟩ := hrel
    cases n with
    | zero =>
      go_wp2
      go_ret
      refine ⟨congrArg (fun t => Ending.returned (Value.string t)) ?_, rfl⟩
      unfold bareS
      rw [← hr.out]
      show ByteArray.empty = s.extract 0 0
      apply ByteArray.ext
      simp
    | succ k =>
      have hk : k < s.size := by omega
      have q0 : (0 : Int) < ((k + 1 : Nat) : Int) := by omega
      have q1 : ((k + 1 : Nat) : Int) - 1 = (k : Int) := by omega
      have q2 : (k : Int) < (s.size : Int) := by omega
      have q3 : (0 : Int) ≤ (k : Int) := by omega
      have q4 : ((k + 1 : Nat) : Int) = (k : Int) + 1 := by omega
      rw [q4]
      rw [q4] at q0 q1
      clear q4
      by_cases hc : s[k] = 32
      · have hx : ((s[k].toNat : Int) == 32) = true := by rw [hc]; rfl
        have HX : Hid (bareFrom s 32 k = bareFrom s 32 s.size) := Lib.hid ((bareFrom_yes hk hc).symm.trans hr.out)
        clear hc
        go_wp2
        go_round
        case rel => exact ⟨k, by omega, by go_num, HX⟩
        case measure => simp [intOf] <;> omega
      · have hx : ((s[k].toNat : Int) == 32) = false := by
          have := cast_ne hc
          exact beq_eq_false_iff_ne.2 this
        have HX : Hid (k + 1 = bareFrom s 32 s.size) := Lib.hid ((bareFrom_no hk hc).symm.trans hr.out)
        clear hc
        have q6 : (k : Int) + 1 ≤ (s.size : Int) := by omega
        have q7 : ((k : Int) + 1).toNat = k + 1 := by omega
        go_wp2
        go_ret
        exact ⟨by unfold bareS; rw [← HX.out]; rfl, rfl⟩

set_option maxRecDepth 100000 in
theorem ext_zero (s : ByteArray) (a b : Nat) (h : b ≤ a) : (s.extract 0 a).extract 0 b = s.extract 0 b := by
  apply ByteArray.ext
  simp [ByteArray.data_extract, Nat.min_eq_left h]
set_option maxRecDepth 100000 in
theorem ext_all (s : ByteArray) : s.extract 0 s.size = s := by
  apply ByteArray.ext
  simp
set_option maxRecDepth 100000 in
theorem ext_size (s : ByteArray) (n : Nat) (h : n ≤ s.size) : (s.extract 0 n).size = n := by simp [ByteArray.size_extract, Nat.min_eq_left h]
set_option maxRecDepth 100000 in
theorem ext_get (s : ByteArray) (n k : Nat) (h : n ≤ s.size) (hk : k < n) : (s.extract 0 n)[k]'(by rw [ext_size s n h]; exact hk) = s[k]'(by omega) := by
  show (s.extract 0 n).data[k]'_ = s.data[k]'_
  simp [ByteArray.data_extract]

set_option maxRecDepth 100000 in
set_option maxHeartbeats 800000 in
theorem trimByte_any (s : ByteArray) (c : UInt8) (w : World) (hs : s.size ≤ 1048576) :
    Calls Tryz.prog 99 #[.string s, .int .u8 (c.toNat : Int)] w fun e w' => e = .returned (.string (s.extract 0 (bareFrom s c s.size))) ∧ w = w' := by
  go_enter Tryz.func99, Tryz.ntmps99
  go_wp2
  go_loop [0] (fun tv => ∃ n : Nat, n ≤ s.size ∧ tv = .string (s.extract 0 n) ∧ Hid (bareFrom s c n = bareFrom s c s.size)) (fun tv => sizeE tv)
  case atStart => exact ⟨s.size, Nat.le_refl _, by rw [ext_all], Lib.hid rfl⟩
  case round =>
    obtain ⟨n, hn, rfl, hr⟩ := hrel
    cases n with
    | zero =>
      have hsz := ext_size s 0 hn
      generalize ht : s.extract 0 0 = t at hsz ⊢
      have HT := Lib.hid ht
      have HZ := Lib.hid hsz
      have q0 : (t.size : Int) ≤ 0 := by omega
      clear ht hsz
      go_wp2
      go_ret
      exact ⟨by rw [← hr.out, ← HT.out]; rfl, rfl⟩
    | succ k =>
      have hk : k < s.size := by omega
      obtain ⟨t, ht⟩ : ∃ t, t = s.extract 0 (k + 1) := ⟨_, rfl⟩
      have hsz : t.size = k + 1 := by rw [ht]; exact ext_size s _ hn
      have hkt : k < t.size := by omega
      have HG : Hid (t[k]'hkt = s[k]) := Lib.hid (by subst ht; exact ext_get s (k + 1) k hn (by omega))
      have HE : Hid (t.extract 0 k = s.extract 0 k) := Lib.hid (by rw [ht]; exact ext_zero s (k + 1) k (by omega))
      rw [← ht]
      have HT := Lib.hid ht
      have HZ := Lib.hid hsz
      have q0 : (0 : Int) < (t.size : Int) := by omega
      have q1 : (t.size : Int) - 1 = (k : Int) := by omega
      have q2 : (k : Int) < (t.size : Int) := by omega
      have q3 : (0 : Int) ≤ (k : Int) := by omega
      have q5 : (k : Int) ≤ (t.size : Int) := by omega
      have q6 : t.size ≤ 1048576 := by omega
      clear ht hsz
      by_cases hc : s[k] = c
      · have hx : (((t[k]'hkt).toNat : Int) == (c.toNat : Int)) = true := by rw [HG.out, hc]; exact beq_self_eq_true _
        have HX : Hid (bareFrom s c k = bareFrom s c s.size) := Lib.hid ((bareFrom_yes hk hc).symm.trans hr.out)
        clear hc
        go_wp2
        go_round
        case rel => exact ⟨k, by omega, by rw [HE.out], HX⟩
        case measure => simp only [sizeE]; rw [HZ.out, HE.out, ext_size s k (by omega)]; omega
      · have hx : (((t[k]'hkt).toNat : Int) == (c.toNat : Int)) = false := by
          rw [HG.out]
          exact beq_eq_false_iff_ne.2 (cast_ne hc)
        have HX : Hid (k + 1 = bareFrom s c s.size) := Lib.hid ((bareFrom_no hk hc).symm.trans hr.out)
        clear hc
        go_wp2
        go_ret
        refine ⟨congrArg (fun t => Ending.returned (Value.string t)) (show t = s.extract 0 (bareFrom s c s.size) from ?_), rfl⟩
        rw [← HX.out]
        exact HT.out
set_option maxRecDepth 100000 in
theorem implFieldBare_any (s : ByteArray) (w : World) (hs : s.size ≤ 1048576) :
    Calls Tryz.prog 62 #[.string s] w fun e w' => e = .returned (.string (bareS s)) ∧ w = w' := by
  have HT : Hid (Calls Tryz.prog 79 #[.string s, .string ⟨#[32]⟩] w fun e w' => e = .returned (.string (bareS s)) ∧ w = w') := Lib.hid (by
    have HB := Lib.hid (trimByte_any s 32 w hs)
    by_cases h0 : s.toList = []
    · have h0' : s.toList.isEmpty = true := by simp [h0]
      have hz : s = ByteArray.empty := by
        rw [ByteArray.toList_eq] at h0
        apply ByteArray.ext
        exact Array.toList_eq_nil_iff.1 h0
      subst hz
      have hr : bareS ByteArray.empty = ByteArray.empty := by rfl
      rw [hr]
      clear hr HB h0 h0'
      go_enter Tryz.func79, Tryz.ntmps79
      go_wp2
      go_ret
      exact ⟨rfl, rfl⟩
    · have h0' : s.toList.isEmpty = false := by simpa using h0
      clear h0
      go_enter Tryz.func79, Tryz.ntmps79
      go_wp2_with fail
      refine HB.out.mono ?_
      rintro e w1 ⟨rfl, rfl⟩
      go_wp2
      go_ret
      exact ⟨rfl, rfl⟩)
  go_enter Tryz.func62, Tryz.ntmps62
  go_wp2_with fail
  refine HT.out.mono ?_
  rintro e w1 ⟨rfl, rfl⟩
  go_wp2
  go_ret
  exact ⟨rfl, rfl⟩
end Go.Proofs.YtiolebpoofkpmaaGreatDoor
set_option linter.unusedVariables false
namespace Go.Proofs.YtiolebpoofkpmaaGreatDoor
open Go.ChangeShapes Go.WideShapes Go.ChangeAt Go.RowKit

/-- the operation of a type and two digits, or 0 -/
def whichL (a c : ByteArray) : Int := if opTxt 0 1 = a ∧ opTxt 1 1 = c then 1 else if opTxt 0 2 = a ∧ opTxt 1 2 = c then 2 else if opTxt 0 3 = a ∧ opTxt 1 3 = c then 3 else if opTxt 0 4 = a ∧ opTxt 1 4 = c then 4 else if opTxt 0 5 = a ∧ opTxt 1 5 = c then 5 else if opTxt 0 6 = a ∧ opTxt 1 6 = c then 6 else if opTxt 0 7 = a ∧ opTxt 1 7 = c then 7 else if opTxt 0 8 = a ∧ opTxt 1 8 = c then 8 else 0
set_option maxRecDepth 100000 in
theorem which_hit {op : Int} (h : 1 ≤ op ∧ op ≤ 8) : whichL (opTxt 0 op) (opTxt 1 op) = op := by
  rcases op_cases h with rfl | rfl | rfl | rfl | rfl | rfl | rfl | rfl <;> decide +kernel
set_option maxRecDepth 100000 in
theorem which_none {a c : ByteArray} (h : ∀ op : Int, 1 ≤ op → op < 9 → ¬ (opTxt 0 op = a ∧ opTxt 1 op = c)) : whichL a c = 0 := by
  unfold whichL
  rw [if_neg (h 1 (by omega) (by omega)), if_neg (h 2 (by omega) (by omega)), if_neg (h 3 (by omega) (by omega)), if_neg (h 4 (by omega) (by omega)), if_neg (h 5 (by omega) (by omega)), if_neg (h 6 (by omega) (by omega)), if_neg (h 7 (by omega) (by omega)), if_neg (h 8 (by omega) (by omega))]
set_option maxRecDepth 100000 in
theorem which_spec (a c : ByteArray) : whichL a c = 0 ∨ ((1 ≤ whichL a c ∧ whichL a c ≤ 8) ∧ opTxt 0 (whichL a c) = a ∧ opTxt 1 (whichL a c) = c) := by
  unfold whichL
  split
  · rename_i h; exact .inr ⟨⟨by omega, by omega⟩, h⟩
  split
  · rename_i h; exact .inr ⟨⟨by omega, by omega⟩, h⟩
  split
  · rename_i h; exact .inr ⟨⟨by omega, by omega⟩, h⟩
  split
  · rename_i h; exact .inr ⟨⟨by omega, by omega⟩, h⟩
  split
  · rename_i h; exact .inr ⟨⟨by omega, by omega⟩, h⟩
  split
  · rename_i h; exact .inr ⟨⟨by omega, by omega⟩, h⟩
  split
  · rename_i h; exact .inr ⟨⟨by omega, by omega⟩, h⟩
  split
  · rename_i h; exact .inr ⟨⟨by omega, by omega⟩, h⟩
  exact .inl rfl

def opM (m : MsgD) : Int := whichL m.1 ((fldTxt m.2 3).extract 0 2)
def qM (m : MsgD) : ReqD := ⟨opM m, fldTxt m.2 2, if decide (opM m = 6) = true then fldTxt m.2 103 else ⟨#[]⟩, if holdU (opM m) = true then bareS (fldTxt m.2 38) else ⟨#[]⟩, fldTxt m.2 11, m.1, if amtU (opM m) = true then narVal (fldTxt m.2 4) else 0, if decide (opM m = 1) = true then narVal (fldTxt m.2 14) else 0⟩
def seenM (m : MsgD) : Bool := (if amtU (opM m) = true then fldHas m.2 4 else true) && (if decide (opM m = 1) = true then fldHas m.2 14 else true)
/-- the request and the code -/
def reqL (m : MsgD) : ReqD × Int := if msgOk m = false then (noQ, 1) else if mtiKn m.1 = false then (noQ, 2) else if fldHas m.2 3 = false then (noQ, 1) else if (seenM m && reqOk (qM m)) = true then (qM m, 0) else (noQ, 1)

set_option maxRecDepth 100000 in
theorem has_mem {l : List FieldD} {no : Int} (h : fldHas l no = true) : ∃ x ∈ l, x.1 = no ∧ fldTxt l no = x.2 := by
  unfold fldHas at h
  rw [List.any_eq_true] at h
  obtain ⟨y, hy, hyn⟩ := h
  cases hf : l.find? (fun x => decide (x.1 = no)) with
  | none => exact absurd hyn (by simpa using List.find?_eq_none.1 hf y hy)
  | some x =>
    refine ⟨x, List.mem_of_find?_eq_some hf, by simpa using List.find?_some hf, ?_⟩
    unfold fldTxt
    rw [hf]; rfl
set_option maxRecDepth 100000 in
theorem has_none {l : List FieldD} {no : Int} (h : fldHas l no = false) : fldTxt l no = ⟨#[]⟩ := by
  unfold fldHas at h
  rw [List.any_eq_false] at h
  have hf : l.find? (fun x => decide (x.1 = no)) = none := List.find?_eq_none.2 fun x hx => h x hx
  unfold fldTxt
  rw [hf]; rfl
set_option maxRecDepth 100000 in
theorem msg_field {m : MsgD} (h : msgOk m = true) {no : Int} (hh : fldHas m.2 no = true) : fOk no (fldTxt m.2 no) = true := by
  obtain ⟨x, hx, rfl, ht⟩ := has_mem hh
  rw [ht]
  simp only [msgOk, Bool.and_eq_true] at h
  obtain ⟨j, hj, rfl⟩ := List.mem_iff_getElem.1 hx
  have := listOk_at h.2 j hj
  simp only [stepOk, Bool.and_eq_true] at this
  have h1 := this.1
  rwa [List.getD_eq_getElem?_getD, List.getElem?_eq_getElem hj] at h1
set_option maxRecDepth 100000 in
theorem txt_small {m : MsgD} {no : Int} {B : Nat} (hs : ∀ x ∈ m.2, x.2.size ≤ B) : (fldTxt m.2 no).size ≤ B := by
  cases h : fldHas m.2 no
  · rw [has_none h]; exact Nat.zero_le _
  · obtain ⟨x, hx, -, ht⟩ := has_mem h
    rw [ht]; exact hs x hx
set_option maxRecDepth 100000 in
theorem txt3 {m : MsgD} (h : msgOk m = true) (hh : fldHas m.2 3 = true) : (fldTxt m.2 3).size = 6 := by
  have := msg_field h hh
  simp only [fOk, show fKind 3 = 1 by decide, show fSize 3 = 6 by decide, okBy, if_true, Bool.and_eq_true, decide_eq_true_eq] at this
  omega
set_option maxRecDepth 100000 in
theorem nar_nil : narOk ⟨#[]⟩ = false := by decide +kernel
set_option maxRecDepth 100000 in
theorem nar_of {m : MsgD} (h : msgOk m = true) {no sz : Int} (hk : fKind no = 1) (hz : fSize no = sz) (h18 : sz ≤ 18) : narOk (fldTxt m.2 no) = fldHas m.2 no := by
  cases hh : fldHas m.2 no
  · rw [has_none hh]; exact nar_nil
  · have := msg_field h hh
    simp only [fOk, hk, hz, okBy, if_true, Bool.and_eq_true, decide_eq_true_eq] at this
    simp only [narOk, this.2, Bool.true_and, decide_eq_true_eq]
    omega
/-- what the program takes for a number that lacks -/
def numIn (s : ByteArray) : Int := if narOk s = true then narVal s else -1
set_option maxRecDepth 100000 in
theorem numIn_has {m : MsgD} (h : msgOk m = true) {no sz : Int} (hk : fKind no = 1) (hz : fSize no = sz) (h18 : sz ≤ 18) : (fldHas m.2 no = true → numIn (fldTxt m.2 no) = narVal (fldTxt m.2 no)) ∧ (fldHas m.2 no = false → numIn (fldTxt m.2 no) = -1) := by
  have := nar_of h hk hz h18
  unfold numIn
  constructor
  · intro hh; rw [if_pos (this.trans hh)]
  · intro hh; rw [if_neg (by rw [this, hh]; simp)]
def rawOp (m : MsgD) : Int := if fldHas m.2 3 = true then opM m else 0
set_option maxRecDepth 100000 in
theorem raw_hit {m : MsgD} (h : rawOp m ≠ 0) : fldHas m.2 3 = true ∧ opM m = rawOp m ∧ isOp (rawOp m) = true ∧ m.1 = opTxt 0 (rawOp m) := by
  unfold rawOp at h ⊢
  by_cases hh : fldHas m.2 3 = true
  · rw [if_pos hh] at h ⊢
    rcases which_spec m.1 ((fldTxt m.2 3).extract 0 2) with h0 | ⟨h1, h2, -⟩
    · exact absurd h0 h
    · exact ⟨hh, rfl, decide_eq_true h1, h2.symm⟩
  · rw [if_neg hh] at h; exact absurd rfl h
set_option maxRecDepth 100000 in
theorem reqL_no {m : MsgD} (hk : mtiKn m.1 = true) (h : fldHas m.2 3 = true → (seenM m && reqOk (qM m)) = false) : reqL m = (noQ, 1) := by
  unfold reqL
  by_cases h1 : msgOk m = false
  · rw [if_pos h1]
  rw [if_neg h1, if_neg (by simp [hk])]
  by_cases h3 : fldHas m.2 3 = false
  · rw [if_pos h3]
  rw [if_neg h3, h (by simpa using h3)]
  rfl
set_option maxRecDepth 100000 in
theorem reqL_yes {m : MsgD} (hm : msgOk m = true) (hk : mtiKn m.1 = true) (h3 : fldHas m.2 3 = true) (h : (seenM m && reqOk (qM m)) = true) : reqL m = (qM m, 0) := by
  unfold reqL
  rw [if_neg (by simp [hm]), if_neg (by simp [hk]), if_neg (by simp [h3]), if_pos h]
end Go.Proofs.YtiolebpoofkpmaaGreatDoor
