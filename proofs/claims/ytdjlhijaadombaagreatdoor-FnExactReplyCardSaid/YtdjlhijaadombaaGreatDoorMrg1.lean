/- '[]byte(s)': a new slice that reads as the bytes of s; no conditions. -/
import Derived.Test.YtdjlhijaadombaaGreatDoorNums
import Derived.Lib.ConvBytes
import Derived.Laws.AppendOwn
import Derived.Test.YtdjlhijaadombaaGreatDoorDec
import Derived.Lib.ItoaNum
import Derived.Test.YtdjlhijaadombaaGreatDoorFieldOk
import Derived.Test.YtdjlhijaadombaaGreatDoorLen
import Derived.Test.YtdjlhijaadombaaGreatDoorAppAll
import Derived.Laws.EntriesVeiled
import Derived.LaidMore
import Derived.Test.YtdjlhijaadombaaGreatDoorShelf
import Derived.Test.YtdjlhijaadombaaGreatDoorReplyP
import Derived.Test.YtdjlhijaadombaaGreatDoorMsgF
import Derived.Test.YtdjlhijaadombaaGreatDoorMsgS
import Derived.Test.YtdjlhijaadombaaGreatDoorReplyS
import Derived.Test.YtdjlhijaadombaaGreatDoorMsgRow
import Derived.Test.YtdjlhijaadombaaGreatDoorNumsB
import Derived.Test.YtdjlhijaadombaaGreatDoorBytesAt
import Derived.Laws.ShiftsVar
import Derived.IntWalk
import Derived.RegionTactic
import Derived.BigRegion
set_option linter.unusedVariables false
namespace Go.Proofs.YtdjlhijaadombaaGreatDoor
open Go.ChangeShapes Go.WideShapes Go.ChangeAt Go.RowKit

/-- the bytes of a string as numbers -/
def bytesL (s : ByteArray) : List Int := s.data.toList.map fun c => (c.toNat : Int)
set_option maxRecDepth 100000 in
theorem bytesL_len (s : ByteArray) : (bytesL s).length = s.size := by simp [bytesL]
set_option maxRecDepth 100000 in
theorem bytesL_get (s : ByteArray) (j : Nat) : (bytesL s).getD j 0 = ((s.data.toList.getD j 0).toNat : Int) := by
  unfold bytesL
  rw [List.getD_eq_getElem?_getD, List.getD_eq_getElem?_getD, List.getElem?_map]
  cases s.data.toList[j]? <;> rfl
set_option maxRecDepth 100000 in
theorem bytesL_ok (s : ByteArray) : isBytes (bytesL s) := by
  intro z hz
  obtain ⟨c, _, rfl⟩ := List.mem_map.1 hz
  have := c.toNat_lt
  constructor <;> omega
set_option maxRecDepth 100000 in
theorem byteOf_back (s : ByteArray) : (bytesL s).map byteOf = s.data.toList := by
  unfold bytesL byteOf
  rw [List.map_map]
  conv => rhs; rw [← List.map_id s.data.toList]
  refine List.map_congr_left fun c _ => ?_
  simp
set_option maxRecDepth 100000 in
theorem bytesW_below (w : World) (e : TypeId) (s : ByteArray) : Below w.heap.size w (Lib.bytesWorld w e s) :=
  ⟨rfl, rfl, rfl, by rw [Lib.bytesWorld_size]; omega, fun k hk => Lib.bytesWorld_at_old w e s k hk⟩
set_option maxRecDepth 100000 in
theorem bytesW_nums (w : World) (e : TypeId) (s : ByteArray) : nums .u8 w.heap.size (w.heap.size + 1) (Lib.bytesWorld w e s) (.slice (some ⟨w.heap.size, 0, none⟩) s.size (grownCap w s.size 0 e)) (bytesL s) := by
  refine ⟨some ⟨w.heap.size, 0, none⟩, grownCap w s.size 0 e, by rw [bytesL_len], by rw [bytesL_len]; exact grownCap_ge _ _ _ _, fun j hj => ?_⟩
  rw [bytesL_len] at hj
  refine ⟨w.heap.size, 0, rfl, Nat.le_refl _, by omega, ?_, ?_⟩
  · rw [Nat.zero_add, Lib.bytesWorld_cell w e s j hj, bytesL_get]
  · have hsz : s.size ≤ (Lib.bytesCells w e s).size := by
      unfold Lib.bytesCells
      simp
    unfold World.frozen?
    rw [Lib.bytesWorld_at_new]
    simp
    omega
set_option maxRecDepth 100000 in
theorem bytesW_nums' (w : World) (e : TypeId) (s : ByteArray) (n : Nat) (hn : n = w.heap.size) : nums .u8 w.heap.size (w.heap.size + 1) (Lib.bytesWorld w e s) (.slice (some ⟨n, 0, none⟩) s.size (grownCap w s.size 0 e)) (bytesL s) := by
  subst hn
  exact bytesW_nums w e s
end Go.Proofs.YtdjlhijaadombaaGreatDoor
/- The texts of money: digits without a leading zero; no conditions. -/
set_option linter.unusedVariables false
namespace Go.Proofs.YtdjlhijaadombaaGreatDoor
open Go.ChangeShapes Go.WideShapes Go.ChangeAt Go.RowKit

/-- does the text begin with a zero that stands for nothing? -/
def lead : List UInt8 → Bool
  | c :: _ :: _ => c == 48
  | _ => false
def txtOk (s : ByteArray) : Bool := scanOk s && !lead s.data.toList
def txtVal (s : ByteArray) : Int := if txtOk s = true then decOf s.data.toList else 0

set_option maxRecDepth 100000 in
theorem digits_head : ∀ (u : Nat), 1 ≤ u → ∃ c r, Lib.decDigits u = c :: r ∧ c ≠ 48 := by
  intro u
  induction u using Nat.strongRecOn with
  | _ u ih =>
    intro h1
    by_cases h : u < 10
    · refine ⟨UInt8.ofNat (48 + u), [], Lib.decDigits_one h, ?_⟩
      intro e
      have := congrArg UInt8.toNat e
      rw [UInt8.toNat_ofNat'] at this
      simp at this
      omega
    · obtain ⟨c, r, e, hc⟩ := ih (u / 10) (by omega) (by omega)
      refine ⟨c, r ++ [UInt8.ofNat (48 + u % 10)], ?_, hc⟩
      rw [Lib.decDigits, dif_neg h, e]; rfl
set_option maxRecDepth 100000 in
/-- what has a leading zero is the text of no number -/
theorem lead_no (l : List UInt8) (u : Nat) (h : lead l = true) : Lib.decDigits u ≠ l := by
  intro e
  match l, h with
  | c :: d :: r, h =>
    have hc : c = 48 := by simpa [lead] using h
    rcases Nat.eq_zero_or_pos u with h0 | h0
    · subst h0
      rw [Lib.decDigits_one (by decide)] at e
      simp at e
    · obtain ⟨c', r', e', hc'⟩ := digits_head u h0
      rw [e'] at e
      simp only [List.cons.injEq] at e
      exact hc' (e.1.trans hc)
set_option maxRecDepth 100000 in
theorem dec_app (m : List UInt8) (c : UInt8) : decOf (m ++ [c]) = 10 * decOf m + ((c.toNat : Int) - 48) := by simp [decOf, List.foldl_append, decStep]
set_option maxRecDepth 100000 in
theorem dec_head (c : UInt8) (r : List UInt8) (hd : (c :: r).all isDig = true) (hc : c ≠ 48) : 1 ≤ decOf (c :: r) := by
  simp only [List.all_cons, Bool.and_eq_true] at hd
  have h1 := (isDig_iff c).1 hd.1
  have h2 : c.toNat ≠ 48 := fun e => hc (UInt8.toNat_inj.1 (by simpa using e))
  have h3 : 1 ≤ decStep 0 c := by unfold decStep; omega
  exact Int.le_trans h3 (dec_nonneg r _ (by omega) hd.2)
set_option maxRecDepth 100000 in
/-- what has none is the text of its number -/
theorem lead_yes : ∀ (n : Nat) (l : List UInt8), l.length = n → l ≠ [] → l.all isDig = true → lead l = false → Lib.decDigits (decOf l).toNat = l := by
  intro n
  induction n with
  | zero => intro l hl hne _ _; exact absurd (List.eq_nil_of_length_eq_zero hl) hne
  | succ n ih =>
    intro l hl hne hd hlead
    obtain ⟨m, c, rfl⟩ : ∃ m c, l = m ++ [c] := ⟨l.dropLast, l.getLast hne, (List.dropLast_concat_getLast hne).symm⟩
    have hm : m.all isDig = true := by simp only [List.all_append, Bool.and_eq_true] at hd; exact hd.1
    have hc : isDig c = true := by simpa using (by simp only [List.all_append, Bool.and_eq_true] at hd; exact hd.2 : [c].all isDig = true)
    have h1 := (isDig_iff c).1 hc
    have hcn : ∀ j : Nat, j = c.toNat - 48 → UInt8.ofNat (48 + j) = c := fun j hj => by rw [hj, show 48 + (c.toNat - 48) = c.toNat by omega]; simp
    rw [dec_app]
    cases m with
    | nil =>
      have : (10 * decOf [] + ((c.toNat : Int) - 48)).toNat = c.toNat - 48 := by simp [decOf]; omega
      rw [this, Lib.decDigits_one (by omega), hcn _ rfl]; rfl
    | cons b r =>
      have hb : b ≠ 48 := by
        intro e
        have : lead ((b :: r) ++ [c]) = true := by cases r <;> simp [lead, e]
        rw [this] at hlead; cases hlead
      have hpos := dec_head b r hm hb
      have hlm : lead (b :: r) = false := by cases r <;> simp [lead, hb]
      have hi := ih (b :: r) (by simp at hl ⊢; omega) (by simp) hm hlm
      generalize hq : decOf (b :: r) = q at hi hpos
      rw [Lib.decDigits, dif_neg (by omega), show (10 * q + ((c.toNat : Int) - 48)).toNat / 10 = q.toNat by omega, hi, hcn _ (by omega)]
set_option maxRecDepth 100000 in
theorem nd_le : ∀ (k u : Nat), u < 10 ^ (k + 1) → Lib.nDigits u ≤ k + 1
  | 0, u, h => by rw [Lib.nDigits_small (by simpa using h)]; exact Nat.le_refl _
  | k + 1, u, h => by
    by_cases h1 : u < 10
    · rw [Lib.nDigits_small h1]; omega
    · rw [Lib.nDigits_big h1]
      have := nd_le k (u / 10) (by rw [Nat.pow_succ] at h; omega)
      omega
set_option maxRecDepth 100000 in
theorem txt_short {s : ByteArray} (h : txtOk s = true) : s.size ≤ 19 ∧ Lib.decDigits (decOf s.data.toList).toNat = s.data.toList := by
  simp only [txtOk, Bool.and_eq_true, Bool.not_eq_true'] at h
  have h2 := scan_digs h.1
  have hne : s.data.toList ≠ [] := by
    intro e
    have h4 : s.data.toList.length = s.size := by simp
    rw [e] at h4
    have := digs_pos h2.1
    simp only [List.length_nil] at h4
    omega
  have h5 := lead_yes _ s.data.toList rfl hne (digs_all h2.1) h.2
  refine ⟨?_, h5⟩
  have h6 := congrArg List.length h5
  rw [Lib.decDigits_length] at h6
  have h7 := nd_le 18 (decOf s.data.toList).toNat (by have := h2.2; omega)
  have h4 : s.data.toList.length = s.size := by simp
  omega
set_option maxRecDepth 100000 in
theorem digs_ne {s : ByteArray} (h : digs s = true) : s.data.toList ≠ [] := by
  intro e
  have h4 : s.data.toList.length = s.size := by simp
  rw [e] at h4
  have := digs_pos h
  simp only [List.length_nil] at h4
  omega
set_option maxRecDepth 100000 in
/-- the text of the number is the text itself: no leading zero -/
theorem txt_eq {s : ByteArray} (hd : digs s = true) (hsc : scanOk s = true) : txtOk s = (Lib.decDigits (decOf s.data.toList).toNat == s.data.toList) := by
  cases hl : lead s.data.toList
  · have := lead_yes _ s.data.toList rfl (digs_ne hd) (digs_all hd) hl
    rw [this]; simp [txtOk, hsc, hl]
  · have := lead_no s.data.toList (decOf s.data.toList).toNat hl
    simp only [txtOk, hsc, hl, Bool.true_and, Bool.not_true]
    exact (beq_eq_false_iff_ne.2 this).symm
set_option maxRecDepth 100000 in
theorem lead_list : ∀ (l : List UInt8) (h : 1 < l.length), lead l = (l[0]'(by omega) == 48)
  | [], h => by simp at h
  | [a], h => by simp at h
  | a :: b :: r, h => rfl
set_option maxRecDepth 100000 in
theorem lead_get {s : ByteArray} (h : 1 < s.size) : lead s.data.toList = (s[0] == 48) := lead_list s.data.toList (by simpa using h)
set_option maxRecDepth 100000 in
theorem lead_one : ∀ (l : List UInt8) (h : ¬ 1 < l.length), lead l = false
  | [], h => rfl
  | [a], h => rfl
  | a :: b :: r, h => by simp at h
set_option maxRecDepth 100000 in
theorem lead_short {s : ByteArray} (h : ¬ 1 < s.size) : lead s.data.toList = false := lead_one s.data.toList (by simpa using h)
end Go.Proofs.YtdjlhijaadombaaGreatDoor
/- PutField of both; the table of powers of ten lies as Go's text lays it. -/
set_option linter.unusedVariables false
namespace Go.Proofs.YtdjlhijaadombaaGreatDoor
open Go.ChangeShapes Go.WideShapes Go.ChangeAt Go.RowKit

def fWidth (kd : Int) : Int := if kd = 3 ∨ kd = 4 then 2 else if kd = 5 then 3 else 0
/-- what PutField encodes of a content that fits -/
def putBody (kd : Int) (s : ByteArray) : List Int :=
  if kd = 1 then bcd s else if kd = 2 then bytesL s else if kd = 3 then putLen s.size 2 ++ bcd s else if kd = 4 then putLen s.size 2 ++ bytesL s else putLen s.size 3 ++ bytesL s
def putFL (no : Int) (s : ByteArray) : List Int := if fOk no s = true then putBody (fKind no) s else []
def resF (L : List Int) (ok : Bool) (w : World) (e : Ending) (w' : World) : Prop := ∃ v, e = .returned (.tuple #[v, .bool ok]) ∧ nums .u8 w.heap.size w'.heap.size w' v L ∧ Below w.heap.size w w'
set_option maxRecDepth 100000 in
theorem resF_no {w w' : World} (hb : Below w.heap.size w w') : resF [] false w (.returned (.tuple #[.slice none 0 0, .bool false])) w' := ⟨_, rfl, nums_none _ _ _ _, hb⟩
set_option maxRecDepth 100000 in
theorem resF_to {L L' : List Int} {ok ok' : Bool} {w w' : World} {e : Ending} (h : resF L ok w e w') (hL : L = L') (ho : ok = ok') : resF L' ok' w e w' := by subst hL; subst ho; exact h
set_option maxRecDepth 100000 in
theorem kind_size (no : Int) : (fKind no = 1 → fSize no ≤ 12) ∧ (fKind no = 2 → fSize no ≤ 12) ∧ (fKind no = 3 → fSize no ≤ 19) ∧ (fKind no = 4 → fSize no ≤ 20) ∧ fSize no ≤ 60 := by
  unfold fKind fSize
  repeat' (split <;> try omega)
set_option maxRecDepth 100000 in
theorem fOk_size {no : Int} {s : ByteArray} (h : fOk no s = true) : s.size ≤ 60 ∧ (fKind no = 1 → digs s = true ∧ s.size ≤ 12) ∧ (fKind no = 3 → digs s = true ∧ s.size ≤ 19) ∧ fKind no ≠ 0 ∧ 0 < s.size ∨ fKind no = 2 ∧ s.size ≤ 60 := by
  obtain ⟨z1, z2, z3, z4, z5⟩ := kind_size no
  unfold fOk okBy at h
  rcases kind_cases no with e | e | e | e | e | e
  · simp [e] at h
  · rw [if_pos e] at h
    simp only [Bool.and_eq_true, decide_eq_true_eq] at h
    have := z1 e
    have hp := digs_pos h.2
    exact Or.inl ⟨by omega, fun _ => ⟨h.2, by omega⟩, fun h' => by omega, by omega, hp⟩
  · rw [if_neg (by omega), if_pos e] at h
    simp only [Bool.and_eq_true, decide_eq_true_eq] at h
    exact Or.inr ⟨e, by omega⟩
  · rw [if_neg (by omega), if_neg (by omega), if_pos e] at h
    simp only [Bool.and_eq_true, decide_eq_true_eq] at h
    have := z3 e
    have hp := digs_pos h.2
    exact Or.inl ⟨by omega, fun h' => by omega, fun _ => ⟨h.2, by omega⟩, by omega, hp⟩
  · rw [if_neg (by omega), if_neg (by omega), if_neg (by omega), if_pos (by omega)] at h
    simp only [Bool.and_eq_true, decide_eq_true_eq] at h
    exact Or.inl ⟨by omega, fun h' => by omega, fun h' => by omega, by omega, by omega⟩
  · rw [if_neg (by omega), if_neg (by omega), if_neg (by omega), if_pos (by omega)] at h
    simp only [Bool.and_eq_true, decide_eq_true_eq] at h
    exact Or.inl ⟨by omega, fun h' => by omega, fun h' => by omega, by omega, by omega⟩
set_option maxRecDepth 100000 in
theorem fOk_60 {no : Int} {s : ByteArray} (h : fOk no s = true) : s.size ≤ 60 := by
  rcases fOk_size h with h | h
  · exact h.1
  · exact h.2
set_option maxRecDepth 100000 in
theorem ow_empty (T : TypeId) (K : IntKind) (w : World) : ow T K w.heap.size (w.alloc (.cells #[] T)) (.slice (some ⟨w.heap.size, 0, none⟩) 0 0) [] := by
  refine ⟨rfl, Or.inr ⟨w.heap.size, 0, #[], rfl, Nat.le_refl _, ?_, Nat.le_refl _, Nat.zero_le _, rfl, rfl⟩⟩
  show (w.heap.push _)[w.heap.size]? = _
  simp
set_option maxRecDepth 100000 in
theorem infoU8c : (Tryz.prog.info? 5).map (fun i => (i.zero, i.size, i.bytes)) = some (some (.int .u8 0), 1, 1) := by kernel_rfl
set_option maxRecDepth 100000 in
theorem bcdOk_60 {no : Int} {s : ByteArray} (h : fOk no s = true) (hk : fKind no = 1 ∨ fKind no = 3) : bcdOk s = true := by
  unfold bcdOk
  rcases fOk_size h with h | h
  · rcases hk with e | e
    · have := h.2.1 e; rw [this.1]; simp; omega
    · have := h.2.2.1 e; rw [this.1]; simp; omega
  · omega
def twoDig (n : Nat) : List UInt8 := if n < 10 then [UInt8.ofNat (48 + n)] else [UInt8.ofNat (48 + n / 10), UInt8.ofNat (48 + n % 10)]
set_option maxRecDepth 100000 in
theorem twoDig_ok : ∀ n, n < 61 → twoDig n ≠ [] ∧ (twoDig n).all isDig = true ∧ lead (twoDig n) = false ∧ (decOf (twoDig n)).toNat = n ∧ (twoDig n).length ≤ 2 := by decide +kernel
set_option maxRecDepth 100000 in
theorem dec_two (n : Nat) (h : n < 61) : Lib.decDigits n = twoDig n := by
  obtain ⟨h1, h2, h3, h4, -⟩ := twoDig_ok n h
  have := lead_yes _ (twoDig n) rfl h1 h2 h3
  rwa [h4] at this
set_option maxRecDepth 100000 in
theorem wide_60 (n : Nat) (h : n < 61) (d : Int) (hd : d = 2 ∨ d = 3) : bcdOk ⟨(wideOf (n : Int) d).toArray⟩ = true := by
  obtain ⟨h1, h2, -, -, h5⟩ := twoDig_ok n h
  have hw : wideOk (n : Int) d = true := by
    unfold wideOk
    rw [Int.toNat_natCast, dec_two n h]
    simp
    omega
  have hl : 1 ≤ (twoDig n).length := by
    rcases Nat.eq_zero_or_pos (twoDig n).length with e | e
    · exact absurd (List.eq_nil_of_length_eq_zero e) h1
    · exact e
  unfold wideOf
  rw [if_pos hw, Int.toNat_natCast, dec_two n h]
  unfold bcdOk
  rw [digs_list _ (by simp; omega)]
  have hs : ∀ l : List UInt8, (⟨l.toArray⟩ : ByteArray).size = l.length := fun l => rfl
  rw [hs]
  simp only [List.all_append, h2, Bool.and_true, Bool.and_eq_true, decide_eq_true_eq, List.length_append, List.length_replicate]
  refine ⟨?_, by omega⟩
  rw [List.all_eq_true]
  intro x hx
  rw [(List.mem_replicate.1 hx).2]
  rfl
set_option maxRecDepth 100000 in
theorem putLenOk_60 (n : Nat) (hn : n < 61) : putLenOk (n : Int) 2 = true ∧ putLenOk (n : Int) 3 = true := by
  constructor
  · unfold putLenOk; rw [wide_60 n hn 2 (Or.inl rfl)]; rfl
  · unfold putLenOk; rw [wide_60 n hn 3 (Or.inr rfl)]; rfl

end Go.Proofs.YtdjlhijaadombaaGreatDoor
/- PutField of the program; the table of powers of ten lies as Go's text lays it. -/
set_option linter.unusedVariables false
namespace Go.Proofs.YtdjlhijaadombaaGreatDoor
open Go.ChangeShapes Go.WideShapes Go.ChangeAt Go.RowKit

set_option maxRecDepth 100000 in
theorem rowV_zero {no : Int} (h : fKind no = 0) : rowV no = .agg #[.int .i64 0, .int .i64 0, .int .i64 0, .nilFunc, .nilFunc] := by rw [rowV, if_pos h]
set_option maxRecDepth 100000 in
theorem rowV_yes {no : Int} (h : fKind no ≠ 0) : rowV no = .agg #[.int .i64 no, .int .i64 (fSize no), .int .i64 (fKind no), .func (.func (putId (fKind no))) #[] #[], .func (.func (getId (fKind no))) #[] #[]] := by rw [rowV, if_neg h, rowCells]
set_option maxRecDepth 100000 in
theorem putText_any (s : ByteArray) (w : World) : Calls Tryz.prog 59 #[.string s] w (resF (bytesL s) true w) := by
  have hcv := fun W => Lib.run_convert_string_bytes (P := Tryz.prog) W 9 56 5 s Tryz.underlying9 Tryz.underlying56 Tryz.underlying5
  have HN := Lib.hid (bytesW_nums w 5 s)
  have HZ := Lib.hid (Lib.bytesWorld_size w 5 s)
  have HB := Lib.hid (bytesW_below w 5 s)
  go_enter Tryz.func59, Tryz.ntmps59
  go_wp2
  go_ret2
  refine ⟨_, rfl, ?_, HB.out⟩
  rw [HZ.out]
  exact HN.out
set_option maxRecDepth 100000 in
theorem putBcd_F (s : ByteArray) (w : World) (hs : s.size ≤ 1073741824) (hb : bcdOk s = true) : Calls Tryz.prog 57 #[.string s] w (resF (bcd s) true w) :=
  (implPutBcd_any s w hs).mono fun e w' h => by
    obtain ⟨v, he, ho, hb'⟩ := h
    rw [hb] at he
    exact ⟨v, he, ho.nums, hb'⟩

set_option maxRecDepth 100000 in
set_option maxHeartbeats 800000 in
theorem behind_bcd2 (s : ByteArray) (w : World) (hs : s.size ≤ 60) (hb0 : bcdOk s = true) (htab : Lib.TabIs Tryz.prog w "internal/strconv.uint64pow10" .u64 Lib.pow10Tab) :
    Calls Tryz.prog 86 #[.string s, .int .i64 2, .func (.func 57) #[] #[]] w (resF (putLen (s.size : Int) 2 ++ bcd s) true w) := by
  have hok := (putLenOk_60 s.size (by omega)).1
  have HT := Lib.hid htab
  have HK := Lib.hid hok
  have hl1 := putLen_len (s.size : Int) 2
  have hl2 : (bcd s).length ≤ 60 := by have := bcd_len s; omega
  have HB0 := Lib.hid hb0
  clear hb0
  clear htab hok
  go_enter Tryz.func86, Tryz.ntmps86
  go_wp2_with fail
  refine (implPutLen_any _ _ _ (by omega) (by omega) HT.out).mono ?_
  rw [HK.out]
  rintro e w1 ⟨u1, rfl, hu1, hb1⟩
  have HU1 := Lib.hid hu1
  have hz1 := hb1.size
  have HB1 := Lib.hid hb1
  clear hu1 hb1
  go_wp2_with fail
  refine (putBcd_F s _ (by omega) HB0.out).mono ?_
  rintro e w2 ⟨u2, rfl, hu2, hb2⟩
  have HU2 := Lib.hid hu2
  have HH := Lib.hid (HU1.out.below hb2 (Nat.le_refl _))
  have hB2 := HB1.out.trans (hb2.mono hz1)
  have hz2 := hB2.size
  have HB2 := Lib.hid hB2
  clear hu2 hb2 hB2 HU1
  go_wp2_with (at_builtin; refine app_all w2 rfl _ _ 56 rfl w.heap.size 5 .u8 1 Tryz.underlying56 infoU8c _ (putLen (s.size : Int) 2) rfl HH.out w2.heap.size _ (bcd s) (by rfl) HU2.out.rd (by unfold maxLen; omega) (by omega) hz2 ?_)
  intro v' w3 hown hg hb3
  have HO3 := Lib.hid hown
  clear hown hg
  go_wp2
  go_ret2
  exact ⟨_, rfl, HO3.out.nums, HB2.out.trans hb3⟩

set_option maxRecDepth 100000 in
set_option maxHeartbeats 800000 in
theorem behind_text2 (s : ByteArray) (w : World) (hs : s.size ≤ 60)  (htab : Lib.TabIs Tryz.prog w "internal/strconv.uint64pow10" .u64 Lib.pow10Tab) :
    Calls Tryz.prog 86 #[.string s, .int .i64 2, .func (.func 59) #[] #[]] w (resF (putLen (s.size : Int) 2 ++ bytesL s) true w) := by
  have hok := (putLenOk_60 s.size (by omega)).1
  have HT := Lib.hid htab
  have HK := Lib.hid hok
  have hl1 := putLen_len (s.size : Int) 2
  have hl2 : (bytesL s).length ≤ 60 := by rw [bytesL_len]; exact hs
  skip
  clear htab hok
  go_enter Tryz.func86, Tryz.ntmps86
  go_wp2_with fail
  refine (implPutLen_any _ _ _ (by omega) (by omega) HT.out).mono ?_
  rw [HK.out]
  rintro e w1 ⟨u1, rfl, hu1, hb1⟩
  have HU1 := Lib.hid hu1
  have hz1 := hb1.size
  have HB1 := Lib.hid hb1
  clear hu1 hb1
  go_wp2_with fail
  refine (putText_any s _).mono ?_
  rintro e w2 ⟨u2, rfl, hu2, hb2⟩
  have HU2 := Lib.hid hu2
  have HH := Lib.hid (HU1.out.below hb2 (Nat.le_refl _))
  have hB2 := HB1.out.trans (hb2.mono hz1)
  have hz2 := hB2.size
  have HB2 := Lib.hid hB2
  clear hu2 hb2 hB2 HU1
  go_wp2_with (at_builtin; refine app_all w2 rfl _ _ 56 rfl w.heap.size 5 .u8 1 Tryz.underlying56 infoU8c _ (putLen (s.size : Int) 2) rfl HH.out w2.heap.size _ (bytesL s) (by rfl) HU2.out.rd (by unfold maxLen; omega) (by omega) hz2 ?_)
  intro v' w3 hown hg hb3
  have HO3 := Lib.hid hown
  clear hown hg
  go_wp2
  go_ret2
  exact ⟨_, rfl, HO3.out.nums, HB2.out.trans hb3⟩

set_option maxRecDepth 100000 in
set_option maxHeartbeats 800000 in
theorem behind_text3 (s : ByteArray) (w : World) (hs : s.size ≤ 60)  (htab : Lib.TabIs Tryz.prog w "internal/strconv.uint64pow10" .u64 Lib.pow10Tab) :
    Calls Tryz.prog 86 #[.string s, .int .i64 3, .func (.func 59) #[] #[]] w (resF (putLen (s.size : Int) 3 ++ bytesL s) true w) := by
  have hok := (putLenOk_60 s.size (by omega)).2
  have HT := Lib.hid htab
  have HK := Lib.hid hok
  have hl1 := putLen_len (s.size : Int) 3
  have hl2 : (bytesL s).length ≤ 60 := by rw [bytesL_len]; exact hs
  skip
  clear htab hok
  go_enter Tryz.func86, Tryz.ntmps86
  go_wp2_with fail
  refine (implPutLen_any _ _ _ (by omega) (by omega) HT.out).mono ?_
  rw [HK.out]
  rintro e w1 ⟨u1, rfl, hu1, hb1⟩
  have HU1 := Lib.hid hu1
  have hz1 := hb1.size
  have HB1 := Lib.hid hb1
  clear hu1 hb1
  go_wp2_with fail
  refine (putText_any s _).mono ?_
  rintro e w2 ⟨u2, rfl, hu2, hb2⟩
  have HU2 := Lib.hid hu2
  have HH := Lib.hid (HU1.out.below hb2 (Nat.le_refl _))
  have hB2 := HB1.out.trans (hb2.mono hz1)
  have hz2 := hB2.size
  have HB2 := Lib.hid hB2
  clear hu2 hb2 hB2 HU1
  go_wp2_with (at_builtin; refine app_all w2 rfl _ _ 56 rfl w.heap.size 5 .u8 1 Tryz.underlying56 infoU8c _ (putLen (s.size : Int) 3) rfl HH.out w2.heap.size _ (bytesL s) (by rfl) HU2.out.rd (by unfold maxLen; omega) (by omega) hz2 ?_)
  intro v' w3 hown hg hb3
  have HO3 := Lib.hid hown
  clear hown hg
  go_wp2
  go_ret2
  exact ⟨_, rfl, HO3.out.nums, HB2.out.trans hb3⟩

set_option maxRecDepth 100000 in
theorem putNumVar_any (s : ByteArray) (w : World) (hs : s.size ≤ 60) (hb0 : bcdOk s = true) (htab : Lib.TabIs Tryz.prog w "internal/strconv.uint64pow10" .u64 Lib.pow10Tab) :
    Calls Tryz.prog 61 #[.string s] w (resF (putLen (s.size : Int) 2 ++ bcd s) true w) := by
  have H := Lib.hid (behind_bcd2 s w hs hb0 htab)
  clear htab hb0
  go_enter Tryz.func61, Tryz.ntmps61
  go_wp2_with fail
  refine H.out.mono ?_
  rintro e w1 ⟨u, rfl, hu, hb⟩
  have HU := Lib.hid hu
  clear hu
  go_wp2
  go_ret2
  exact ⟨_, rfl, HU.out, hb⟩

set_option maxRecDepth 100000 in
theorem putTextVar_any (s : ByteArray) (w : World) (hs : s.size ≤ 60)  (htab : Lib.TabIs Tryz.prog w "internal/strconv.uint64pow10" .u64 Lib.pow10Tab) :
    Calls Tryz.prog 63 #[.string s] w (resF (putLen (s.size : Int) 2 ++ bytesL s) true w) := by
  have H := Lib.hid (behind_text2 s w hs htab)
  clear htab 
  go_enter Tryz.func63, Tryz.ntmps63
  go_wp2_with fail
  refine H.out.mono ?_
  rintro e w1 ⟨u, rfl, hu, hb⟩
  have HU := Lib.hid hu
  clear hu
  go_wp2
  go_ret2
  exact ⟨_, rfl, HU.out, hb⟩

set_option maxRecDepth 100000 in
theorem putTextLong_any (s : ByteArray) (w : World) (hs : s.size ≤ 60)  (htab : Lib.TabIs Tryz.prog w "internal/strconv.uint64pow10" .u64 Lib.pow10Tab) :
    Calls Tryz.prog 65 #[.string s] w (resF (putLen (s.size : Int) 3 ++ bytesL s) true w) := by
  have H := Lib.hid (behind_text3 s w hs htab)
  clear htab 
  go_enter Tryz.func65, Tryz.ntmps65
  go_wp2_with fail
  refine H.out.mono ?_
  rintro e w1 ⟨u, rfl, hu, hb⟩
  have HU := Lib.hid hu
  clear hu
  go_wp2
  go_ret2
  exact ⟨_, rfl, HU.out, hb⟩

set_option maxRecDepth 100000 in
theorem putFL_len (no : Int) (s : ByteArray) (hs : s.size ≤ 1048576) : (putFL no s).length ≤ 1048700 := by
  unfold putFL
  split
  · unfold putBody
    have h1 := bcd_len s
    have h2 := bytesL_len s
    have h3 := putLen_len (s.size : Int) 2
    have h4 := putLen_len (s.size : Int) 3
    repeat' split
    all_goals (try rw [List.length_append])
    all_goals omega
  · simp
set_option maxRecDepth 100000 in
theorem tab_lt {w : World} (htab : Lib.TabIs Tryz.prog w "internal/strconv.uint64pow10" .u64 Lib.pow10Tab) : 3 < w.heap.size := by
  unfold Lib.TabIs World.var? at htab
  rw [show Tryz.prog.globalNamed "internal/strconv.uint64pow10" = some 3 by kernel_rfl] at htab
  rcases Nat.lt_or_ge 3 w.heap.size with h | h
  · exact h
  · simp [Array.getElem?_eq_none h] at htab
end Go.Proofs.YtdjlhijaadombaaGreatDoor
/- GetField of both; the sentinel of the number scanner holds an error. -/
set_option linter.unusedVariables false
namespace Go.Proofs.YtdjlhijaadombaaGreatDoor
open Go.ChangeShapes Go.WideShapes Go.ChangeAt Go.RowKit

/-- a text, an offset and whether there is one -/
def trip (ok : Bool) (t : List UInt8) (e : Int) : Ending := .returned (.tuple #[.string ⟨(if ok = true then t else []).toArray⟩, .int .i64 (if ok = true then e else 0), .bool ok])
set_option maxRecDepth 100000 in
theorem trip_no {t : List UInt8} {e : Int} : trip false t e = .returned (.tuple #[.string ⟨#[]⟩, .int .i64 0, .bool false]) := rfl
set_option maxRecDepth 100000 in
theorem trip_yes {t : List UInt8} {e : Int} : trip true t e = .returned (.tuple #[.string ⟨t.toArray⟩, .int .i64 e, .bool true]) := rfl
set_option maxRecDepth 100000 in
theorem trip_form (ok : Bool) (t : List UInt8) (e : Int) : ∃ (s : ByteArray) (x : Int) (b : Bool), trip ok t e = .returned (.tuple #[.string s, .int .i64 x, .bool b]) := ⟨_, _, _, rfl⟩
set_option maxRecDepth 100000 in
theorem trip_of {ok : Bool} {t : List UInt8} {e : Int} (h : ok = false) : trip ok t e = .returned (.tuple #[.string ⟨#[]⟩, .int .i64 0, .bool false]) := by subst h; rfl
set_option maxRecDepth 100000 in
theorem trip_on {ok : Bool} {t : List UInt8} {e : Int} (h : ok = true) : trip ok t e = .returned (.tuple #[.string ⟨t.toArray⟩, .int .i64 e, .bool true]) := by subst h; rfl
set_option maxRecDepth 100000 in
theorem gRes_trip (l : List Int) (a n : Int) : gRes l a n = trip (gOk l a n) (gTxt l a n) (gEnd l a n) := by
  cases h : gOk l a n
  · rw [gRes_no h, trip_no]
  · rw [gRes, h, trip_yes]
set_option maxRecDepth 100000 in
theorem fSize_pos {no : Int} (h : fKind no ≠ 0) : 1 ≤ fSize no := by
  unfold fKind at h
  unfold fSize
  repeat' (split at h <;> try omega)
  all_goals repeat' (split <;> try omega)
def inR (l : List Int) (a n : Int) : Bool := decide (0 ≤ a) && decide (0 ≤ n) && decide (a + n ≤ l.length)
def tPart (l : List Int) (a n : Int) : List UInt8 := ((l.drop a.toNat).take n.toNat).map byteOf
set_option maxRecDepth 100000 in
theorem inR_yes {l : List Int} {a n : Int} (h : inR l a n = true) : 0 ≤ a ∧ 0 ≤ n ∧ a + n ≤ l.length := by
  simp only [inR, Bool.and_eq_true, decide_eq_true_eq] at h; exact ⟨h.1.1, h.1.2, h.2⟩
set_option maxRecDepth 100000 in
theorem inR_no {l : List Int} {a n : Int} (h : a < 0 ∨ n < 0 ∨ (l.length : Int) < a + n) : inR l a n = false := by
  cases hq : inR l a n
  · rfl
  · have := inR_yes hq; omega
set_option maxRecDepth 100000 in
theorem tPart_len {l : List Int} {a n : Int} (h : inR l a n = true) : (tPart l a n).length = n.toNat := by
  have := inR_yes h
  unfold tPart
  rw [List.length_map, List.length_take, List.length_drop]
  omega
set_option maxRecDepth 100000 in
theorem tPart_le (l : List Int) (a n : Int) : (tPart l a n).length ≤ l.length := by
  unfold tPart
  rw [List.length_map, List.length_take, List.length_drop]
  omega
set_option maxRecDepth 100000 in
theorem gOk_in {l : List Int} {a n : Int} (h : gOk l a n = true) : gIn l a n = true ∧ small (gPart l a n) = true ∧ (n % 2 = 0 ∨ halfAt (gPart l a n) 0 = 0) := by
  simp only [gOk, Bool.and_eq_true, Bool.or_eq_true, decide_eq_true_eq] at h
  exact ⟨h.1.1, h.1.2, h.2⟩
set_option maxRecDepth 100000 in
theorem gIn_bd {l : List Int} {a n : Int} (h : gIn l a n = true) : 1 ≤ n ∧ n ≤ 38 ∧ 0 ≤ a ∧ a + (n + 1) / 2 ≤ l.length := by
  simp only [gIn, Bool.and_eq_true, decide_eq_true_eq] at h; exact ⟨h.1.1.1, h.1.1.2, h.1.2, h.2⟩
set_option maxRecDepth 100000 in
theorem gTxt_ok {l : List Int} {a n : Int} (hl : isBytes l) (h : gOk l a n = true) : ((gTxt l a n).length : Int) = n ∧ digs ⟨(gTxt l a n).toArray⟩ = true := by
  obtain ⟨hi, hs, hz⟩ := gOk_in h
  have hb := gIn_bd hi
  have hp := gPart_len hi
  have hpb := gPart_bytes hl a n
  have hlen : ((gTxt l a n).length : Int) = n := by
    unfold gTxt
    rw [if_pos h]
    split
    · rw [List.length_drop, decN_len, hp]; omega
    · rw [decN_len, hp]; omega
  refine ⟨hlen, ?_⟩
  rw [digs_list _ (by omega)]
  unfold gTxt
  rw [if_pos h]
  split
  · next ho =>
    rw [all_tail hpb (by rw [hp]; omega) (by omega), hs]
  · rw [all_dec hpb, hs]
set_option maxRecDepth 100000 in
theorem lenEnd_bd (l : List Int) (a d : Int) : 0 ≤ lenEnd l a d ∧ lenEnd l a d ≤ l.length := by
  unfold lenEnd gEnd
  split
  · split
    · next h =>
      have := gIn_bd (gOk_in h).1
      omega
    · omega
  · omega
set_option maxRecDepth 100000 in
theorem lenVal_bd (l : List Int) (a d : Int) : 0 ≤ lenVal l a d ∧ lenVal l a d ≤ 999999999999999999 := by
  unfold lenVal narVal
  split
  · split
    · next h =>
      have := nar_scan h
      exact ⟨dec_pos _ (digs_all this.2.2.1), this.2.1⟩
    · omega
  · omega
set_option maxRecDepth 100000 in
theorem lenRes_trip (l : List Int) (a d : Int) : lenRes l a d = .returned (.tuple #[.int .i64 (lenVal l a d), .int .i64 (lenEnd l a d), .bool (lenGot l a d)]) := rfl
set_option maxRecDepth 100000 in
theorem lenGot_neg {l : List Int} {a d : Int} (h : a < 0) : lenGot l a d = false := by
  unfold lenGot
  rw [gOk_out (gIn_no (.inr (.inr (.inl h)))), Bool.and_false]

set_option maxRecDepth 100000 in
theorem bytesAt_out (hi : Nat) (v : Value) (l : List Int) (at' : Int) (n : Nat) (w : World) (hn : l.length ≤ 1073741824) (hn' : n ≤ 1000000000000000000) (h : rd .u8 hi w v l) (hbad : at' < 0 ∨ (l.length : Int) - n < at') :
    Calls Tryz.prog 84 #[v, .int .i64 at', .int .i64 (n : Int)] w fun e w' => e = .returned (.tuple #[.slice none 0 0, .bool false]) ∧ w = w' := by
  obtain ⟨A, c, rfl, hc, -⟩ := h
  by_cases h0 : at' < 0
  · go_enter Tryz.func84, Tryz.ntmps84
    go_wp2
    go_ret2
    exact ⟨rfl, rfl⟩
  · have h1 : (l.length : Int) - n < at' := by omega
    clear hbad
    go_enter Tryz.func84, Tryz.ntmps84
    go_wp2
    go_ret2
    exact ⟨rfl, rfl⟩
set_option maxRecDepth 100000 in
set_option maxHeartbeats 800000 in
theorem bytesAt_in (hi : Nat) (v : Value) (l : List Int) (a n : Nat) (w : World) (hn : l.length ≤ 1073741824) (h : rd .u8 hi w v l) (han : a + n ≤ l.length) :
    Calls Tryz.prog 84 #[v, .int .i64 (a : Int), .int .i64 (n : Int)] w fun e w' => ∃ u, e = .returned (.tuple #[u, .bool true]) ∧ rd .u8 hi w u ((l.drop a).take n) ∧ w = w' := by
  obtain ⟨A, c, rfl, hc, hj⟩ := h
  by_cases hl0 : l.length = 0
  · have hl : l = [] := List.eq_nil_of_length_eq_zero hl0
    subst hl
    obtain rfl : a = 0 := by simp at han; omega
    obtain rfl : n = 0 := by simp at han; omega
    have q3 : (0 : Int) ≤ (c : Int) := by omega
    clear hj hl0
    cases A with
    | none =>
      go_enter Tryz.func84, Tryz.ntmps84
      go_wp2
      go_ret2
      exact ⟨_, rfl, ⟨none, c, rfl, by simp, fun j hj => by simp at hj⟩, rfl⟩
    | some ad =>
      by_cases hc0 : c = 0
      · subst hc0
        go_enter Tryz.func84, Tryz.ntmps84
        go_wp2
        go_ret2
        exact ⟨_, rfl, ⟨_, _, rfl, by simp, fun j hj => by simp at hj⟩, rfl⟩
      · go_enter Tryz.func84, Tryz.ntmps84
        go_wp2
        go_ret2
        exact ⟨_, rfl, ⟨_, _, rfl, by simp, fun j hj => by simp at hj⟩, rfl⟩
  obtain ⟨b, off, rfl, hb, -⟩ := hj 0 (by omega)
  have hj' : ∀ j, j < l.length → w.cell? ⟨b, off + j, none⟩ = some (.int .u8 (l.getD j 0)) := fun j hjl => by
    obtain ⟨b', off', e, _, hx⟩ := hj j hjl
    simp only [Option.some.injEq, Addr.mk.injEq, and_true] at e
    obtain ⟨rfl, rfl⟩ := e
    exact hx
  have HR := Lib.hid (rd_part hj' hb hc han)
  have q1 : (0 : Int) ≤ (a : Int) := by omega
  have q2 : (a : Int) + (n : Int) ≤ (c : Int) := by omega
  have q3 : (a : Int) ≤ (a : Int) + (n : Int) := by omega
  have HA := Lib.hid han
  clear hj hj'
  by_cases hca : c = a
  · have HX := Lib.hid hca
    obtain rfl : n = 0 := by omega
    go_enter Tryz.func84, Tryz.ntmps84
    go_wp2
    go_ret2
    refine ⟨_, rfl, ?_, rfl⟩
    exact ⟨some ⟨b, off, none⟩, c - a, by simp; have := HX.out; omega, by simp, fun j hj => by simp at hj⟩
  · go_enter Tryz.func84, Tryz.ntmps84
    go_wp2
    go_ret2
    refine ⟨_, rfl, ?_, rfl⟩
    show rd .u8 hi w (.slice (some ⟨b, off + a, none⟩) (a + n - a) (c - a)) _
    rw [Nat.add_sub_cancel_left]
    exact HR.out

end Go.Proofs.YtdjlhijaadombaaGreatDoor
/- FieldFit of both; no conditions. -/
set_option linter.unusedVariables false
namespace Go.Proofs.YtdjlhijaadombaaGreatDoor
open Go.ChangeShapes Go.WideShapes Go.ChangeAt Go.RowKit

def padL (j : Nat) (s : ByteArray) : ByteArray := ⟨(List.replicate j 48 ++ s.data.toList).toArray⟩
def padR (j : Nat) (s : ByteArray) : ByteArray := ⟨(s.data.toList ++ List.replicate j 32).toArray⟩
set_option maxRecDepth 100000 in
theorem padL_zero (s : ByteArray) : padL 0 s = s := rfl
set_option maxRecDepth 100000 in
theorem padR_zero (s : ByteArray) : padR 0 s = s := by unfold padR; simp
set_option maxRecDepth 100000 in
theorem padL_size (j : Nat) (s : ByteArray) : (padL j s).size = j + s.size := by show (List.replicate j 48 ++ s.data.toList).length = _; simp
set_option maxRecDepth 100000 in
theorem padR_size (j : Nat) (s : ByteArray) : (padR j s).size = s.size + j := by show (s.data.toList ++ List.replicate j 32).length = _; simp
set_option maxRecDepth 100000 in
theorem padL_step (j : Nat) (s : ByteArray) : (⟨#[48]⟩ : ByteArray) ++ padL j s = padL (j + 1) s := by
  unfold padL
  apply ByteArray.ext
  simp [List.replicate_succ]
set_option maxRecDepth 100000 in
theorem padR_step (j : Nat) (s : ByteArray) : padR j s ++ (⟨#[32]⟩ : ByteArray) = padR (j + 1) s := by
  unfold padR
  apply ByteArray.ext
  rw [ByteArray.data_append]
  have h32 : (⟨#[32]⟩ : ByteArray).data = [(32 : UInt8)].toArray := rfl
  rw [h32, List.append_toArray, List.replicate_succ', List.append_assoc]
/-- s filled up for a kind and a size -/
def fitS (kd : Int) (m : Nat) (s : ByteArray) : ByteArray := if kd = 1 then padL (m - s.size) s else if kd = 2 then padR (m - s.size) s else s
def sizeB : Value → Nat | .string s => s.size | _ => 0
def fitRes (no : Int) (s : ByteArray) : ByteArray := if fOk no (fitS (fKind no) (fSize no).toNat s) = true then fitS (fKind no) (fSize no).toNat s else ⟨#[]⟩
set_option maxRecDepth 100000 in
theorem fitS_size (kd : Int) (m : Nat) (s : ByteArray) (hm : m ≤ 60) (hs : s.size ≤ 1048576) : (fitS kd m s).size ≤ 1048576 := by
  unfold fitS
  split
  · rw [padL_size]; omega
  · split
    · rw [padR_size]; omega
    · exact hs
set_option maxRecDepth 100000 in
theorem rep_32 (c : Nat) : Lib.repeatL [32] c = List.replicate c 32 := by
  induction c with
  | zero => rfl
  | succ c ih => rw [List.replicate_succ, ← ih]; rfl
set_option maxRecDepth 100000 in
theorem fSize_nn (no : Int) : 0 ≤ fSize no := by
  by_cases h : fKind no = 0
  · rw [fSize_no h]; omega
  · have := fSize_pos h; omega

set_option maxRecDepth 100000 in
set_option maxHeartbeats 1600000 in
theorem specFieldFit_any (no : Int) (s : ByteArray) (w : World) (hs : s.size ≤ 1048576) :
    Calls Tryz.prog 16 #[.int .i64 no, .string s] w fun e w' => e = .returned (.string (fitRes no s)) ∧ w = w' := by
  have H1 := Lib.hid (specFieldKind_any no)
  have H2 := Lib.hid (specFieldSize_any no)
  have hsz := (kind_size no).2.2.2.2
  have hnn := fSize_nn no
  have hk := kind_cases no
  have HR : Hid (fitRes no s = if fOk no (fitS (fKind no) (fSize no).toNat s) = true then fitS (fKind no) (fSize no).toNat s else ⟨#[]⟩) := Lib.hid rfl
  have HT := Lib.hid (fitS_size (fKind no) (fSize no).toNat s (by omega) hs)
  have HO := Lib.hid (specFieldOk_any no (fitS (fKind no) (fSize no).toNat s) w (by have := HT.out; unfold maxLen; omega))
  have HD : Hid (fitS (fKind no) (fSize no).toNat s = if fKind no = 1 then padL ((fSize no).toNat - s.size) s else if fKind no = 2 then padR ((fSize no).toNat - s.size) s else s) := Lib.hid rfl
  generalize fitS (fKind no) (fSize no).toNat s = f at HR HT HO HD
  generalize fKind no = kd at H1 HD hk
  generalize fSize no = sz at H2 HD hsz hnn
  obtain ⟨m, rfl⟩ : ∃ m : Nat, sz = m := ⟨sz.toNat, by omega⟩
  rw [Int.toNat_natCast] at HD
  rw [HR.out]
  clear HR
  have hm : m ≤ 60 := by omega
  have hend : ∀ Q : ByteArray → Prop, Q (if fOk no f = true then f else ⟨#[]⟩) ↔ (fOk no f = true → Q f) ∧ (fOk no f = false → Q ⟨#[]⟩) := by
    intro Q
    cases fOk no f <;> simp
  clear hend
  generalize hfo : fOk no f = ok at HO ⊢
  clear hfo
  generalize hres : (if ok = true then f else ⟨#[]⟩ : ByteArray) = r
  have HRES := Lib.hid hres
  clear hres hnn hsz
  rcases hk with rfl | rfl | rfl | rfl | rfl | rfl
  · have hf : f = s := by rw [HD.out]; rfl
    subst hf
    clear HD
    by_cases h1 : (f.size : Int) < (m : Int)
    · have d0 : decide ((f.size : Int) < (m : Int)) = true := decide_eq_true h1
      go_enter Tryz.func16, Tryz.ntmps16
      go_wp2
      go_loop [1] (fun v => v = .string f) (fun _ => 0)
      case atStart => rfl
      case round =>
        subst hrel
        go_wp2_with fail
        refine (H2.out _).mono ?_
        rintro e w1 ⟨rfl, rfl⟩
        go_wp2_with fail
        refine (H1.out _).mono ?_
        rintro e w1 ⟨rfl, rfl⟩
        go_wp2
        go_loop [1] (fun v => v = .string f) (fun _ => 0)
        case atStart => rfl
        case round =>
          subst hrel
          go_wp2_with fail
          refine (H2.out _).mono ?_
          rintro e w1 ⟨rfl, rfl⟩
          go_wp2_with fail
          refine (H1.out _).mono ?_
          rintro e w1 ⟨rfl, rfl⟩
          go_wp2_with fail
          refine HO.out.mono ?_
          rintro e w1 ⟨rfl, rfl⟩
          cases ok
          · go_wp2
            go_ret
            exact ⟨by rw [← HRES.out]; rfl, rfl⟩
          · go_wp2
            go_ret
            exact ⟨by rw [← HRES.out]; rfl, rfl⟩
    · have d0 : decide ((f.size : Int) < (m : Int)) = false := decide_eq_false h1
      go_enter Tryz.func16, Tryz.ntmps16
      go_wp2
      go_loop [1] (fun v => v = .string f) (fun _ => 0)
      case atStart => rfl
      case round =>
        subst hrel
        go_wp2_with fail
        refine (H2.out _).mono ?_
        rintro e w1 ⟨rfl, rfl⟩
        skip
        go_wp2
        go_loop [1] (fun v => v = .string f) (fun _ => 0)
        case atStart => rfl
        case round =>
          subst hrel
          go_wp2_with fail
          refine (H2.out _).mono ?_
          rintro e w1 ⟨rfl, rfl⟩
          skip
          go_wp2_with fail
          refine HO.out.mono ?_
          rintro e w1 ⟨rfl, rfl⟩
          cases ok
          · go_wp2
            go_ret
            exact ⟨by rw [← HRES.out]; rfl, rfl⟩
          · go_wp2
            go_ret
            exact ⟨by rw [← HRES.out]; rfl, rfl⟩
  · by_cases h1 : (s.size : Int) < (m : Int)
    · have HF : Hid (f = padL (m - s.size) s) := Lib.hid (by rw [HD.out]; rfl)
      clear HD
      skip

      go_enter Tryz.func16, Tryz.ntmps16
      go_wp2
      have HST := Lib.hid (fun j => padL_step j s)
      have HSZ := Lib.hid (fun j => padL_size j s)
      have HZ := Lib.hid (padL_zero s)
      go_loop [1] (fun v => ∃ j : Nat, (j ≤ m - s.size) ∧ v = .string (padL j s)) (fun v => m - sizeB v)
      case atStart => exact ⟨0, Nat.zero_le _, by rw [HZ.out]⟩
      case round =>
        obtain ⟨j, hj, rfl⟩ := hrel
        have hst := HST.out j
        have hsz := HSZ.out j
        generalize ht0 : padL j s = t at hst hsz ⊢
        have HT0 := Lib.hid ht0
        clear ht0
        have HS1 := Lib.hid hst
        have HS2 := Lib.hid hsz
        by_cases hlt : (t.size : Int) < (m : Int)
        · have d0 : decide ((t.size : Int) < (m : Int)) = true := decide_eq_true hlt
          have d1 : j + 1 ≤ m - s.size := by omega
          have d2 : t.size < m := by omega
          clear hst hsz
          go_wp2_with fail
          refine (H2.out _).mono ?_
          rintro e w1 ⟨rfl, rfl⟩
          go_wp2_with fail
          refine (H1.out _).mono ?_
          rintro e w1 ⟨rfl, rfl⟩
          go_wp2
          go_round
          case rel => exact ⟨j + 1, d1, by rw [← HS1.out]⟩
          case measure => simp only [sizeB]; rw [HS1.out, HSZ.out]; have := HS2.out; omega
        · have d0 : decide ((t.size : Int) < (m : Int)) = false := decide_eq_false hlt
          have hjm : j = m - s.size := by omega
          subst hjm
          clear hst hsz
          obtain rfl : t = f := by rw [HF.out, HT0.out]
          go_wp2_with fail
          refine (H2.out _).mono ?_
          rintro e w1 ⟨rfl, rfl⟩
          go_wp2
          go_loop [1] (fun v => v = .string t) (fun _ => 0)
          case atStart => rfl
          case round =>
            subst hrel
            go_wp2_with fail
            refine (H2.out _).mono ?_
            rintro e w1 ⟨rfl, rfl⟩
            go_wp2_with fail
            refine HO.out.mono ?_
            rintro e w1 ⟨rfl, rfl⟩
            cases ok
            · go_wp2
              go_ret
              exact ⟨by rw [← HRES.out]; rfl, rfl⟩
            · go_wp2
              go_ret
              exact ⟨by rw [← HRES.out]; rfl, rfl⟩
    · have hf : f = s := by rw [HD.out]; simp; rw [show m - s.size = 0 by omega]; exact padL_zero s
      subst hf
      clear HD
      have d0 : decide ((f.size : Int) < (m : Int)) = false := decide_eq_false h1

      go_enter Tryz.func16, Tryz.ntmps16
      go_wp2
      go_loop [1] (fun v => v = .string f) (fun _ => 0)
      case atStart => rfl
      case round =>
        subst hrel
        go_wp2_with fail
        refine (H2.out _).mono ?_
        rintro e w1 ⟨rfl, rfl⟩
        skip
        go_wp2
        go_loop [1] (fun v => v = .string f) (fun _ => 0)
        case atStart => rfl
        case round =>
          subst hrel
          go_wp2_with fail
          refine (H2.out _).mono ?_
          rintro e w1 ⟨rfl, rfl⟩
          skip
          go_wp2_with fail
          refine HO.out.mono ?_
          rintro e w1 ⟨rfl, rfl⟩
          cases ok
          · go_wp2
            go_ret
            exact ⟨by rw [← HRES.out]; rfl, rfl⟩
          · go_wp2
            go_ret
            exact ⟨by rw [← HRES.out]; rfl, rfl⟩
  · by_cases h1 : (s.size : Int) < (m : Int)
    · have HF : Hid (f = padR (m - s.size) s) := Lib.hid (by rw [HD.out]; rfl)
      clear HD
      have d0 : decide ((s.size : Int) < (m : Int)) = true := decide_eq_true h1

      go_enter Tryz.func16, Tryz.ntmps16
      go_wp2
      go_loop [1] (fun v => v = .string s) (fun _ => 0)
      case atStart => rfl
      case round =>
        subst hrel
        go_wp2_with fail
        refine (H2.out _).mono ?_
        rintro e w1 ⟨rfl, rfl⟩
        go_wp2_with fail
        refine (H1.out _).mono ?_
        rintro e w1 ⟨rfl, rfl⟩
        clear d0
        go_wp2
        have HST := Lib.hid (fun j => padR_step j s)
        have HSZ := Lib.hid (fun j => padR_size j s)
        have HZ := Lib.hid (padR_zero s)
        go_loop [1] (fun v => ∃ j : Nat, (j ≤ m - s.size) ∧ v = .string (padR j s)) (fun v => m - sizeB v)
        case atStart => exact ⟨0, Nat.zero_le _, by rw [HZ.out]⟩
        case round =>
          obtain ⟨j, hj, rfl⟩ := hrel
          have hst := HST.out j
          have hsz := HSZ.out j
          generalize ht0 : padR j s = t at hst hsz ⊢
          have HT0 := Lib.hid ht0
          clear ht0
          have HS1 := Lib.hid hst
          have HS2 := Lib.hid hsz
          by_cases hlt : (t.size : Int) < (m : Int)
          · have d0 : decide ((t.size : Int) < (m : Int)) = true := decide_eq_true hlt
            have d1 : j + 1 ≤ m - s.size := by omega
            have d2 : t.size < m := by omega
            clear hst hsz
            go_wp2_with fail
            refine (H2.out _).mono ?_
            rintro e w1 ⟨rfl, rfl⟩
            go_wp2_with fail
            refine (H1.out _).mono ?_
            rintro e w1 ⟨rfl, rfl⟩
            go_wp2
            go_round
            case rel => exact ⟨j + 1, d1, by rw [← HS1.out]⟩
            case measure => simp only [sizeB]; rw [HS1.out, HSZ.out]; have := HS2.out; omega
          · have d0 : decide ((t.size : Int) < (m : Int)) = false := decide_eq_false hlt
            have hjm : j = m - s.size := by omega
            subst hjm
            clear hst hsz
            obtain rfl : t = f := by rw [HF.out, HT0.out]
            go_wp2_with fail
            refine (H2.out _).mono ?_
            rintro e w1 ⟨rfl, rfl⟩
            go_wp2_with fail
            refine HO.out.mono ?_
            rintro e w1 ⟨rfl, rfl⟩
            cases ok
            · go_wp2
              go_ret
              exact ⟨by rw [← HRES.out]; rfl, rfl⟩
            · go_wp2
              go_ret
              exact ⟨by rw [← HRES.out]; rfl, rfl⟩
    · have hf : f = s := by rw [HD.out]; simp; rw [show m - s.size = 0 by omega]; exact padR_zero s
      subst hf
      clear HD
      have d0 : decide ((f.size : Int) < (m : Int)) = false := decide_eq_false h1

      go_enter Tryz.func16, Tryz.ntmps16
      go_wp2
      go_loop [1] (fun v => v = .string f) (fun _ => 0)
      case atStart => rfl
      case round =>
        subst hrel
        go_wp2_with fail
        refine (H2.out _).mono ?_
        rintro e w1 ⟨rfl, rfl⟩
        skip
        go_wp2
        go_loop [1] (fun v => v = .string f) (fun _ => 0)
        case atStart => rfl
        case round =>
          subst hrel
          go_wp2_with fail
          refine (H2.out _).mono ?_
          rintro e w1 ⟨rfl, rfl⟩
          skip
          go_wp2_with fail
          refine HO.out.mono ?_
          rintro e w1 ⟨rfl, rfl⟩
          cases ok
          · go_wp2
            go_ret
            exact ⟨by rw [← HRES.out]; rfl, rfl⟩
          · go_wp2
            go_ret
            exact ⟨by rw [← HRES.out]; rfl, rfl⟩
  · have hf : f = s := by rw [HD.out]; rfl
    subst hf
    clear HD
    by_cases h1 : (f.size : Int) < (m : Int)
    · have d0 : decide ((f.size : Int) < (m : Int)) = true := decide_eq_true h1
      go_enter Tryz.func16, Tryz.ntmps16
      go_wp2
      go_loop [1] (fun v => v = .string f) (fun _ => 0)
      case atStart => rfl
      case round =>
        subst hrel
        go_wp2_with fail
        refine (H2.out _).mono ?_
        rintro e w1 ⟨rfl, rfl⟩
        go_wp2_with fail
        refine (H1.out _).mono ?_
        rintro e w1 ⟨rfl, rfl⟩
        go_wp2
        go_loop [1] (fun v => v = .string f) (fun _ => 0)
        case atStart => rfl
        case round =>
          subst hrel
          go_wp2_with fail
          refine (H2.out _).mono ?_
          rintro e w1 ⟨rfl, rfl⟩
          go_wp2_with fail
          refine (H1.out _).mono ?_
          rintro e w1 ⟨rfl, rfl⟩
          go_wp2_with fail
          refine HO.out.mono ?_
          rintro e w1 ⟨rfl, rfl⟩
          cases ok
          · go_wp2
            go_ret
            exact ⟨by rw [← HRES.out]; rfl, rfl⟩
          · go_wp2
            go_ret
            exact ⟨by rw [← HRES.out]; rfl, rfl⟩
    · have d0 : decide ((f.size : Int) < (m : Int)) = false := decide_eq_false h1
      go_enter Tryz.func16, Tryz.ntmps16
      go_wp2
      go_loop [1] (fun v => v = .string f) (fun _ => 0)
      case atStart => rfl
      case round =>
        subst hrel
        go_wp2_with fail
        refine (H2.out _).mono ?_
        rintro e w1 ⟨rfl, rfl⟩
        skip
        go_wp2
        go_loop [1] (fun v => v = .string f) (fun _ => 0)
        case atStart => rfl
        case round =>
          subst hrel
          go_wp2_with fail
          refine (H2.out _).mono ?_
          rintro e w1 ⟨rfl, rfl⟩
          skip
          go_wp2_with fail
          refine HO.out.mono ?_
          rintro e w1 ⟨rfl, rfl⟩
          cases ok
          · go_wp2
            go_ret
            exact ⟨by rw [← HRES.out]; rfl, rfl⟩
          · go_wp2
            go_ret
            exact ⟨by rw [← HRES.out]; rfl, rfl⟩
  · have hf : f = s := by rw [HD.out]; rfl
    subst hf
    clear HD
    by_cases h1 : (f.size : Int) < (m : Int)
    · have d0 : decide ((f.size : Int) < (m : Int)) = true := decide_eq_true h1
      go_enter Tryz.func16, Tryz.ntmps16
      go_wp2
      go_loop [1] (fun v => v = .string f) (fun _ => 0)
      case atStart => rfl
      case round =>
        subst hrel
        go_wp2_with fail
        refine (H2.out _).mono ?_
        rintro e w1 ⟨rfl, rfl⟩
        go_wp2_with fail
        refine (H1.out _).mono ?_
        rintro e w1 ⟨rfl, rfl⟩
        go_wp2
        go_loop [1] (fun v => v = .string f) (fun _ => 0)
        case atStart => rfl
        case round =>
          subst hrel
          go_wp2_with fail
          refine (H2.out _).mono ?_
          rintro e w1 ⟨rfl, rfl⟩
          go_wp2_with fail
          refine (H1.out _).mono ?_
          rintro e w1 ⟨rfl, rfl⟩
          go_wp2_with fail
          refine HO.out.mono ?_
          rintro e w1 ⟨rfl, rfl⟩
          cases ok
          · go_wp2
            go_ret
            exact ⟨by rw [← HRES.out]; rfl, rfl⟩
          · go_wp2
            go_ret
            exact ⟨by rw [← HRES.out]; rfl, rfl⟩
    · have d0 : decide ((f.size : Int) < (m : Int)) = false := decide_eq_false h1
      go_enter Tryz.func16, Tryz.ntmps16
      go_wp2
      go_loop [1] (fun v => v = .string f) (fun _ => 0)
      case atStart => rfl
      case round =>
        subst hrel
        go_wp2_with fail
        refine (H2.out _).mono ?_
        rintro e w1 ⟨rfl, rfl⟩
        skip
        go_wp2
        go_loop [1] (fun v => v = .string f) (fun _ => 0)
        case atStart => rfl
        case round =>
          subst hrel
          go_wp2_with fail
          refine (H2.out _).mono ?_
          rintro e w1 ⟨rfl, rfl⟩
          skip
          go_wp2_with fail
          refine HO.out.mono ?_
          rintro e w1 ⟨rfl, rfl⟩
          cases ok
          · go_wp2
            go_ret
            exact ⟨by rw [← HRES.out]; rfl, rfl⟩
          · go_wp2
            go_ret
            exact ⟨by rw [← HRES.out]; rfl, rfl⟩
  · have hf : f = s := by rw [HD.out]; rfl
    subst hf
    clear HD
    by_cases h1 : (f.size : Int) < (m : Int)
    · have d0 : decide ((f.size : Int) < (m : Int)) = true := decide_eq_true h1
      go_enter Tryz.func16, Tryz.ntmps16
      go_wp2
      go_loop [1] (fun v => v = .string f) (fun _ => 0)
      case atStart => rfl
      case round =>
        subst hrel
        go_wp2_with fail
        refine (H2.out _).mono ?_
        rintro e w1 ⟨rfl, rfl⟩
        go_wp2_with fail
        refine (H1.out _).mono ?_
        rintro e w1 ⟨rfl, rfl⟩
        go_wp2
        go_loop [1] (fun v => v = .string f) (fun _ => 0)
        case atStart => rfl
        case round =>
          subst hrel
          go_wp2_with fail
          refine (H2.out _).mono ?_
          rintro e w1 ⟨rfl, rfl⟩
          go_wp2_with fail
          refine (H1.out _).mono ?_
          rintro e w1 ⟨rfl, rfl⟩
          go_wp2_with fail
          refine HO.out.mono ?_
          rintro e w1 ⟨rfl, rfl⟩
          cases ok
          · go_wp2
            go_ret
            exact ⟨by rw [← HRES.out]; rfl, rfl⟩
          · go_wp2
            go_ret
            exact ⟨by rw [← HRES.out]; rfl, rfl⟩
    · have d0 : decide ((f.size : Int) < (m : Int)) = false := decide_eq_false h1
      go_enter Tryz.func16, Tryz.ntmps16
      go_wp2
      go_loop [1] (fun v => v = .string f) (fun _ => 0)
      case atStart => rfl
      case round =>
        subst hrel
        go_wp2_with fail
        refine (H2.out _).mono ?_
        rintro e w1 ⟨rfl, rfl⟩
        skip
        go_wp2
        go_loop [1] (fun v => v = .string f) (fun _ => 0)
        case atStart => rfl
        case round =>
          subst hrel
          go_wp2_with fail
          refine (H2.out _).mono ?_
          rintro e w1 ⟨rfl, rfl⟩
          skip
          go_wp2_with fail
          refine HO.out.mono ?_
          rintro e w1 ⟨rfl, rfl⟩
          cases ok
          · go_wp2
            go_ret
            exact ⟨by rw [← HRES.out]; rfl, rfl⟩
          · go_wp2
            go_ret
            exact ⟨by rw [← HRES.out]; rfl, rfl⟩

set_option maxRecDepth 100000 in
set_option maxHeartbeats 1600000 in
theorem implFieldFit_any (no : Int) (s : ByteArray) (w : World) (hs : s.size ≤ 1048576) :
    Calls Tryz.prog 22 #[.int .i64 no, .string s] w fun e w' => e = .returned (.string (fitRes no s)) ∧ Below w.heap.size w w' := by
  by_cases hk0 : fKind no = 0
  · have HR := Lib.hid (rowV_zero hk0)
    have HK : Hid (okBy 0 0 s = false) := Lib.hid (by simp [okBy])
    have HZ : Hid (fitRes no s = ⟨#[]⟩) := Lib.hid (by simp [fitRes, fOk_no hk0])
    have HS : Hid (s.size ≤ maxLen) := Lib.hid (by unfold maxLen; omega)
    clear hk0
    rw [HZ.out]
    go_enter Tryz.func22, Tryz.ntmps22
    go_wp2_with fail
    refine (fieldAt_any no _).mono ?_
    rintro e w1 ⟨he, hb⟩
    rw [HR.out] at he
    subst he
    go_wp2_with fail
    refine (allows_any 0 0 0 _ _ s _ HS.out (Or.inl rfl)).mono ?_
    rw [HK.out]
    rintro e w2 ⟨rfl, hb2⟩
    go_wp2
    go_ret
    exact ⟨rfl, hb.trans (Below.trans ((below_new (Below.refl _ _) (Nat.le_refl _)).mono hb.size) (hb2.mono (by have := hb.size; simp; omega)))⟩
  have HR := Lib.hid (rowV_yes hk0)
  have hsz := (kind_size no).2.2.2.2
  have hnn := fSize_nn no
  have hk := kind_cases no
  have HRES : Hid (fitRes no s = if fOk no (fitS (fKind no) (fSize no).toNat s) = true then fitS (fKind no) (fSize no).toNat s else ⟨#[]⟩) := Lib.hid rfl
  have HT := Lib.hid (fitS_size (fKind no) (fSize no).toNat s (by omega) hs)
  have HO : Hid (okBy (fKind no) (fSize no) (fitS (fKind no) (fSize no).toNat s) = fOk no (fitS (fKind no) (fSize no).toNat s)) := Lib.hid rfl
  have HD : Hid (fitS (fKind no) (fSize no).toNat s = if fKind no = 1 then padL ((fSize no).toNat - s.size) s else if fKind no = 2 then padR ((fSize no).toNat - s.size) s else s) := Lib.hid rfl
  generalize fitS (fKind no) (fSize no).toNat s = f at HRES HT HO HD
  generalize fKind no = kd at HR HO HD hk hk0
  generalize fSize no = sz at HR HO HD hsz hnn
  obtain ⟨m, rfl⟩ : ∃ m : Nat, sz = m := ⟨sz.toNat, by omega⟩
  rw [Int.toNat_natCast] at HD
  have HQ : Hid (f.size ≤ maxLen) := Lib.hid (by have := HT.out; unfold maxLen; omega)
  generalize fOk no f = ok at HRES HO
  rw [HRES.out]
  generalize hres : (if ok = true then f else ⟨#[]⟩ : ByteArray) = r
  have HX := Lib.hid hres
  clear hres HRES hnn HT
  generalize putId kd = pi at HR
  generalize getId kd = gi at HR
  rcases hk with rfl | rfl | rfl | rfl | rfl | rfl
  · exact absurd rfl hk0
  · obtain ⟨n, hn⟩ : ∃ n : Nat, n = m - s.size := ⟨_, rfl⟩
    have HF : Hid (f = padL n s) := Lib.hid (by rw [HD.out, hn]; rfl)
    have hn60 : n ≤ 60 := by omega
    have HMX : Hid (max ((m : Int) - (s.size : Int)) 0 = (n : Int)) := Lib.hid (by omega)
    have HJ : Hid (∀ t : ByteArray, t = ⟨(List.replicate n 48).toArray⟩ → t ++ s = f) := Lib.hid (by
      rintro t rfl
      rw [HF.out]
      unfold padL
      apply ByteArray.ext; simp)
    have hone : (⟨#[48]⟩ : ByteArray).size = 1 := rfl
    have HREP := Lib.hid (fun W => Tryz.strings_Repeat ⟨#[48]⟩ n W (by omega) (by rw [hone]; omega))
    have HLIST : Hid ((Lib.repeatL (⟨#[48]⟩ : ByteArray).data.toList n) = List.replicate n 48) := Lib.hid (rep_one n)
    clear hn HD hone
    clear hk0
    have q0 : (0 : Int) ≤ (s.size : Int) := by omega
    skip
    go_enter Tryz.func22, Tryz.ntmps22
    go_wp2_with fail
    refine (fieldAt_any no _).mono ?_
    rintro e w1 ⟨he, hb⟩
    rw [HR.out] at he
    subst he
    have HB1 := Lib.hid hb
    have hz1 := hb.size
    clear hb
    go_wp2_with fail
    rw [HMX.out]
    refine (HREP.out _).mono ?_
    rw [HLIST.out]
    generalize ht : (⟨(List.replicate n 48).toArray⟩ : ByteArray) = t
    rintro e w2 ⟨rfl, hb2⟩
    have HC := Lib.hid (HJ.out t ht.symm)
    have hts : t.size ≤ 60 := by rw [← ht]; show (List.replicate n 48).length ≤ 60; simp; omega
    have hbx := (bk.new w1 70 [.int .i64 no, .int .i64 m, .int .i64 1, .func (.func pi) #[] #[], .func (.func gi) #[] #[]])
    have hby := hbx.below hb2 hbx.lt
    have c0 := hby.cell 0
    have c1 := hby.cell 1
    have c2 := hby.cell 2
    have c3 := hby.cell 3
    have c4 := hby.cell 4
    simp only [List.getElem?_cons_zero, List.getElem?_cons_succ] at c0 c1 c2 c3 c4
    have hB2 : Below w.heap.size w w2 := HB1.out.trans (Below.trans ((below_new (Below.refl _ _) (Nat.le_refl _)).mono hz1) (hb2.mono (by simp; omega)))
    have hzb := hB2.size
    have HBB := Lib.hid hB2
    clear hbx hby hb2 hB2 ht
    go_wp2_with fail
    rw [HC.out]
    refine (allows_any no (m : Int) 1 _ _ f _ HQ.out (by omega)).mono ?_
    rw [HO.out]
    rintro e w3 ⟨rfl, hb3⟩
    cases ok
    · go_wp2
      go_ret
      exact ⟨by rw [← HX.out]; rfl, HBB.out.trans (hb3.mono hzb)⟩
    · go_wp2
      go_ret
      exact ⟨by rw [← HX.out]; rfl, HBB.out.trans (hb3.mono hzb)⟩
  · obtain ⟨n, hn⟩ : ∃ n : Nat, n = m - s.size := ⟨_, rfl⟩
    have HF : Hid (f = padR n s) := Lib.hid (by rw [HD.out, hn]; rfl)
    have hn60 : n ≤ 60 := by omega
    have HMX : Hid (max ((m : Int) - (s.size : Int)) 0 = (n : Int)) := Lib.hid (by omega)
    have HJ : Hid (∀ t : ByteArray, t = ⟨(List.replicate n 32).toArray⟩ → s ++ t = f) := Lib.hid (by
      rintro t rfl
      rw [HF.out]
      unfold padR
      apply ByteArray.ext; simp)
    have hone : (⟨#[32]⟩ : ByteArray).size = 1 := rfl
    have HREP := Lib.hid (fun W => Tryz.strings_Repeat ⟨#[32]⟩ n W (by omega) (by rw [hone]; omega))
    have HLIST : Hid ((Lib.repeatL (⟨#[32]⟩ : ByteArray).data.toList n) = List.replicate n 32) := Lib.hid (rep_32 n)
    clear hn HD hone
    clear hk0
    have q0 : (0 : Int) ≤ (s.size : Int) := by omega
    skip
    go_enter Tryz.func22, Tryz.ntmps22
    go_wp2_with fail
    refine (fieldAt_any no _).mono ?_
    rintro e w1 ⟨he, hb⟩
    rw [HR.out] at he
    subst he
    have HB1 := Lib.hid hb
    have hz1 := hb.size
    clear hb
    go_wp2_with fail
    rw [HMX.out]
    refine (HREP.out _).mono ?_
    rw [HLIST.out]
    generalize ht : (⟨(List.replicate n 32).toArray⟩ : ByteArray) = t
    rintro e w2 ⟨rfl, hb2⟩
    have HC := Lib.hid (HJ.out t ht.symm)
    have hts : t.size ≤ 60 := by rw [← ht]; show (List.replicate n 32).length ≤ 60; simp; omega
    have hbx := (bk.new w1 70 [.int .i64 no, .int .i64 m, .int .i64 2, .func (.func pi) #[] #[], .func (.func gi) #[] #[]])
    have hby := hbx.below hb2 hbx.lt
    have c0 := hby.cell 0
    have c1 := hby.cell 1
    have c2 := hby.cell 2
    have c3 := hby.cell 3
    have c4 := hby.cell 4
    simp only [List.getElem?_cons_zero, List.getElem?_cons_succ] at c0 c1 c2 c3 c4
    have hB2 : Below w.heap.size w w2 := HB1.out.trans (Below.trans ((below_new (Below.refl _ _) (Nat.le_refl _)).mono hz1) (hb2.mono (by simp; omega)))
    have hzb := hB2.size
    have HBB := Lib.hid hB2
    clear hbx hby hb2 hB2 ht
    go_wp2_with fail
    rw [HC.out]
    refine (allows_any no (m : Int) 2 _ _ f _ HQ.out (by omega)).mono ?_
    rw [HO.out]
    rintro e w3 ⟨rfl, hb3⟩
    cases ok
    · go_wp2
      go_ret
      exact ⟨by rw [← HX.out]; rfl, HBB.out.trans (hb3.mono hzb)⟩
    · go_wp2
      go_ret
      exact ⟨by rw [← HX.out]; rfl, HBB.out.trans (hb3.mono hzb)⟩
  · have hf : f = s := by rw [HD.out]; rfl
    subst hf
    clear HD
    clear hk0
    have q0 : (0 : Int) ≤ (f.size : Int) := by omega
    skip
    go_enter Tryz.func22, Tryz.ntmps22
    go_wp2_with fail
    refine (fieldAt_any no _).mono ?_
    rintro e w1 ⟨he, hb⟩
    rw [HR.out] at he
    subst he
    have HB1 := Lib.hid hb
    have hz1 := hb.size
    clear hb
    have HBB := Lib.hid (below_new (o := .cells [.int .i64 no, .int .i64 m, .int .i64 3, .func (.func pi) #[] #[], .func (.func gi) #[] #[]].toArray 70) HB1.out hz1)
    have hzb := HBB.out.size
    go_wp2_with fail
    refine (allows_any no (m : Int) 3 _ _ f _ HQ.out (by omega)).mono ?_
    rw [HO.out]
    rintro e w3 ⟨rfl, hb3⟩
    cases ok
    · go_wp2
      go_ret
      exact ⟨by rw [← HX.out]; rfl, HBB.out.trans (hb3.mono hzb)⟩
    · go_wp2
      go_ret
      exact ⟨by rw [← HX.out]; rfl, HBB.out.trans (hb3.mono hzb)⟩
  · have hf : f = s := by rw [HD.out]; rfl
    subst hf
    clear HD
    clear hk0
    have q0 : (0 : Int) ≤ (f.size : Int) := by omega
    skip
    go_enter Tryz.func22, Tryz.ntmps22
    go_wp2_with fail
    refine (fieldAt_any no _).mono ?_
    rintro e w1 ⟨he, hb⟩
    rw [HR.out] at he
    subst he
    have HB1 := Lib.hid hb
    have hz1 := hb.size
    clear hb
    have HBB := Lib.hid (below_new (o := .cells [.int .i64 no, .int .i64 m, .int .i64 4, .func (.func pi) #[] #[], .func (.func gi) #[] #[]].toArray 70) HB1.out hz1)
    have hzb := HBB.out.size
    go_wp2_with fail
    refine (allows_any no (m : Int) 4 _ _ f _ HQ.out (by omega)).mono ?_
    rw [HO.out]
    rintro e w3 ⟨rfl, hb3⟩
    cases ok
    · go_wp2
      go_ret
      exact ⟨by rw [← HX.out]; rfl, HBB.out.trans (hb3.mono hzb)⟩
    · go_wp2
      go_ret
      exact ⟨by rw [← HX.out]; rfl, HBB.out.trans (hb3.mono hzb)⟩
  · have hf : f = s := by rw [HD.out]; rfl
    subst hf
    clear HD
    clear hk0
    have q0 : (0 : Int) ≤ (f.size : Int) := by omega
    skip
    go_enter Tryz.func22, Tryz.ntmps22
    go_wp2_with fail
    refine (fieldAt_any no _).mono ?_
    rintro e w1 ⟨he, hb⟩
    rw [HR.out] at he
    subst he
    have HB1 := Lib.hid hb
    have hz1 := hb.size
    clear hb
    have HBB := Lib.hid (below_new (o := .cells [.int .i64 no, .int .i64 m, .int .i64 5, .func (.func pi) #[] #[], .func (.func gi) #[] #[]].toArray 70) HB1.out hz1)
    have hzb := HBB.out.size
    go_wp2_with fail
    refine (allows_any no (m : Int) 5 _ _ f _ HQ.out (by omega)).mono ?_
    rw [HO.out]
    rintro e w3 ⟨rfl, hb3⟩
    cases ok
    · go_wp2
      go_ret
      exact ⟨by rw [← HX.out]; rfl, HBB.out.trans (hb3.mono hzb)⟩
    · go_wp2
      go_ret
      exact ⟨by rw [← HX.out]; rfl, HBB.out.trans (hb3.mono hzb)⟩
end Go.Proofs.YtdjlhijaadombaaGreatDoor
/- What chapter 6 asks of a reply, as plain functions of the arguments. No conditions. -/
set_option linter.unusedVariables false
namespace Go.Proofs.YtdjlhijaadombaaGreatDoor
open Go.ChangeShapes Go.WideShapes Go.ChangeAt Go.RowKit

def rpNos : List Int := [2, 3, 4, 7, 11, 37, 38, 39, 41, 49, 54, 102, 103]
/-- a field of a reply, and whether it is there -/
def rpF (m : MsgD) (code : Int) (hold told : ByteArray) (no : Int) : ByteArray × Bool :=
  if no = 38 then (fitRes 38 hold, decide (code = 0) && decide (hold ≠ ⟨#[]⟩)) else if no = 39 then (rsText code, true) else if no = 54 then (told, decide (told ≠ ⟨#[]⟩)) else (fldTxt m.2 no, fldHas m.2 no)
def rpL (F : Int → ByteArray × Bool) (l : List Int) : List FieldD := l.filterMap fun no => if (F no).2 = true then some (no, (F no).1) else none
def rpGood (F : Int → ByteArray × Bool) (l : List Int) : Bool := l.all fun no => !(F no).2 || fOk no (F no).1
set_option maxRecDepth 100000 in
theorem rpL_yes {F : Int → ByteArray × Bool} {l : List Int} {no : Int} (h : (F no).2 = true) : rpL F (l ++ [no]) = rpL F l ++ [(no, (F no).1)] := by
  unfold rpL; rw [List.filterMap_append]; simp [h]
set_option maxRecDepth 100000 in
theorem rpL_no {F : Int → ByteArray × Bool} {l : List Int} {no : Int} (h : (F no).2 = false) : rpL F (l ++ [no]) = rpL F l := by
  unfold rpL; rw [List.filterMap_append]; simp [h]
set_option maxRecDepth 100000 in
theorem rpGood_yes {F : Int → ByteArray × Bool} {l : List Int} {no : Int} (h : (F no).2 = true) : rpGood F (l ++ [no]) = (rpGood F l && fOk no (F no).1) := by
  unfold rpGood; rw [List.all_append]; simp [h]
set_option maxRecDepth 100000 in
theorem rpGood_no {F : Int → ByteArray × Bool} {l : List Int} {no : Int} (h : (F no).2 = false) : rpGood F (l ++ [no]) = rpGood F l := by
  unfold rpGood; rw [List.all_append]; simp [h]
set_option maxRecDepth 100000 in
theorem rpL_len (F : Int → ByteArray × Bool) (l : List Int) : (rpL F l).length ≤ l.length := by unfold rpL; exact List.length_filterMap_le _ _
def replyRes (m : MsgD) (code : Int) (hold told : ByteArray) : MsgD × Bool :=
  if (msgOk m = true ∧ replyMti m.1 ≠ ⟨#[]⟩ ∧ rsText code ≠ ⟨#[]⟩) ∧ rpGood (rpF m code hold told) rpNos = true then ((replyMti m.1, rpL (rpF m code hold told) rpNos), true) else ((⟨#[]⟩, []), false)
def bareMsg (mti : ByteArray) (code : Int) : MsgD := (replyMti mti, [(39, rsText code)])
def bareRes (mti : ByteArray) (code : Int) : MsgD × Bool := if msgOk (bareMsg mti code) = true then (bareMsg mti code, true) else ((⟨#[]⟩, []), false)
set_option maxRecDepth 100000 in
theorem reply_len (m : MsgD) (code : Int) (hold told : ByteArray) : (replyRes m code hold told).1.2.length ≤ 13 := by
  unfold replyRes
  split
  · exact rpL_len _ rpNos
  · exact Nat.zero_le _
set_option maxRecDepth 100000 in
theorem reply_size (m : MsgD) (code : Int) (hold told : ByteArray) : (replyRes m code hold told).1.1.size ≤ 4 := by
  unfold replyRes
  split
  · exact replyMti_size _
  · exact Nat.zero_le _
set_option maxRecDepth 100000 in
theorem bare_len (mti : ByteArray) (code : Int) : (bareRes mti code).1.2.length ≤ 1 := by
  unfold bareRes
  split
  · exact Nat.le_refl _
  · exact Nat.zero_le _
set_option maxRecDepth 100000 in
theorem bare_size (mti : ByteArray) (code : Int) : (bareRes mti code).1.1.size ≤ 4 := by
  unfold bareRes
  split
  · exact replyMti_size _
  · exact Nat.zero_le _
end Go.Proofs.YtdjlhijaadombaaGreatDoor
/- Bare of the reference; no conditions. -/
set_option linter.unusedVariables false
namespace Go.Proofs.YtdjlhijaadombaaGreatDoor
open Go.ChangeShapes Go.WideShapes Go.ChangeAt Go.RowKit

set_option maxRecDepth 100000 in
theorem owE.mineF {B : Nat} {w : World} {v : Value} {L : List FieldD} (h : owE 45 2 fCells B w v L) : FieldsR.mine B w.heap.size w [v] L := by
  rcases h.filled (fun _ => rfl) noF with ⟨rfl, A, c, rfl⟩ | ⟨g, c, rfl, hc, h1, h2, hf⟩
  · exact ⟨[], ⟨A, c, rfl, Nat.zero_le _, .inl ⟨rfl, rfl⟩⟩, List.nodup_nil, by simp⟩
  · exact fields_mine rfl hc h1 h2 hf
set_option maxRecDepth 100000 in
/-- a block with one field -/
theorem owE_one {B n : Nat} {w : World} {no : Int} {s : ByteArray} (h : w.heap[n]? = some (.cells #[.int .i64 no, .string s] 45 (0, 0))) (hB : B ≤ n) : owE 45 2 fCells B w (.slice (some ⟨n, 0, none⟩) 1 1) [(no, s)] :=
  ⟨rfl, Or.inr ⟨n, 1, #[.int .i64 no, .string s], rfl, hB, h, Nat.le_refl _, by decide, rfl, rfl⟩⟩
set_option maxRecDepth 100000 in
/-- the result's cells behind the two stores -/
theorem ret_mine {w0 w : World} {r B : Nat} {v : Value} {L : List FieldD} (h : FieldsR.mine B w.heap.size w [v] L) (hr : r < B) (hB : B ≤ w.heap.size) (hw : w0.heap.size ≤ r) (hb : Below w0.heap.size w0 w) (x y : Value) :
    FieldsR.mine w0.heap.size ((w.setCell ⟨r, 0, none⟩ x).setCell ⟨r, 1, none⟩ y).heap.size ((w.setCell ⟨r, 0, none⟩ x).setCell ⟨r, 1, none⟩ y) [v] L ∧ Below w0.heap.size w0 ((w.setCell ⟨r, 0, none⟩ x).setCell ⟨r, 1, none⟩ y) := by
  refine ⟨?_, (hb.setCell (p := ⟨r, 0, none⟩) hw _).setCell (p := ⟨r, 1, none⟩) hw _⟩
  have ht := ((Turned.refl r (r + 1) w).set (b := r) 0 x (by omega) (by omega)).set (b := r) 1 y (by omega) (by omega)
  exact (h.turned ht (.inr (by omega)) (Nat.le_refl _)).mono (by omega) ht.size

end Go.Proofs.YtdjlhijaadombaaGreatDoor
/- Reply of the reference; no conditions. -/
set_option linter.unusedVariables false
namespace Go.Proofs.YtdjlhijaadombaaGreatDoor
open Go.ChangeShapes Go.WideShapes Go.ChangeAt Go.RowKit

set_option maxRecDepth 100000 in
theorem empty_iff {s : ByteArray} : s = ⟨#[]⟩ ↔ s.toList = [] := by
  rw [ByteArray.toList_eq]
  exact ⟨fun e => by rw [e], fun e => ByteArray.ext (Array.toList_inj.1 e)⟩
set_option maxRecDepth 100000 in
theorem isE_no {l : List UInt8} (h : ¬ l = []) : l.isEmpty = false := by cases l; exact absurd rfl h; rfl
set_option maxRecDepth 100000 in
theorem nums.kept {K : IntKind} {lo hi : Nat} {w w' : World} {v : Value} {l : List Int} (h : nums K lo hi w v l) (hk : ∀ b, lo ≤ b → b < hi → w'.heap[b]? = w.heap[b]?) : nums K lo hi w' v l := by
  obtain ⟨A, c, rfl, hc, hj⟩ := h
  refine ⟨A, c, rfl, hc, fun j hl => ?_⟩
  obtain ⟨b, off, e, h1, h2, h3, h4⟩ := hj j hl
  exact ⟨b, off, e, h1, h2, (cell_keep (hk b h1 h2)).trans h3, (frozen_keep (hk b h1 h2)).trans h4⟩
set_option maxRecDepth 100000 in
theorem nums_lit (w : World) (l : List Int) (T : TypeId) : nums .i64 w.heap.size (w.heap.size + 1) (w.alloc (.cells (l.map (Value.int .i64)).toArray T)) (.slice (some ⟨w.heap.size, 0, none⟩) l.length l.length) l := by
  refine ⟨_, _, rfl, Nat.le_refl _, fun j hj => ⟨w.heap.size, 0, rfl, Nat.le_refl _, Nat.lt_succ_self _, ?_, by unfold World.frozen?; rw [heap_alloc_new]; simp⟩⟩
  rw [Nat.zero_add, cell_of_row _ _ j _ _ (0, 0) (heap_alloc_new _ _), List.getElem?_toArray, map_getD hj]
set_option maxRecDepth 100000 in
theorem rpNos_at (i : Nat) (h : i < 13) : ∃ no, rpNos[i]? = some no := ⟨_, List.getElem?_eq_getElem (show i < rpNos.length from h)⟩
set_option maxRecDepth 100000 in
theorem rp_snoc {i : Nat} {no : Int} (h : rpNos[i]? = some no) : rpNos.take (i + 1) = rpNos.take i ++ [no] := by
  obtain ⟨hi, rfl⟩ := List.getElem?_eq_some_iff.1 h
  rw [List.take_succ_eq_append_getElem hi]
set_option maxRecDepth 100000 in
theorem fldTxt_size {l : List FieldD} {no : Int} {B : Nat} (h : ∀ x ∈ l, x.2.size ≤ B) : (fldTxt l no).size ≤ B := by
  unfold fldTxt
  cases hf : l.find? fun x => decide (x.1 = no) with
  | none => exact Nat.zero_le _
  | some x => exact h x (List.mem_of_find?_eq_some hf)
set_option maxRecDepth 100000 in
theorem fitRes_size (no : Int) (s : ByteArray) (h : s.size ≤ 1048576) : (fitRes no s).size ≤ 1048576 := by
  unfold fitRes
  have := (kind_size no).2.2.2.2
  split
  · exact fitS_size _ _ s (by omega) h
  · exact Nat.zero_le _
set_option maxRecDepth 100000 in
theorem rpF_size {m : MsgD} {code : Int} {hold told : ByteArray} (hs : ∀ x ∈ m.2, x.2.size ≤ maxLen) (hh : hold.size ≤ 1048576) (ht : told.size ≤ maxLen) (no : Int) : (rpF m code hold told no).1.size ≤ maxLen := by
  unfold rpF
  have h2 := rsText_size code
  have h1 := fitRes_size 38 hold hh
  have h3 := fldTxt_size (no := no) hs
  split
  · show (fitRes 38 hold).size ≤ _; unfold maxLen; omega
  · split
    · show (rsText code).size ≤ _; unfold maxLen; omega
    · split
      · exact ht
      · exact h3

set_option maxRecDepth 100000 in
set_option maxHeartbeats 8000000 in
theorem specReply_any (hi : Nat) (v : Value) (m : MsgD) (code : Int) (hold told : ByteArray) (w : World) (hm : m.1.size ≤ maxLen) (hn : m.2.length ≤ 1048576) (hs : ∀ x ∈ m.2, x.2.size ≤ maxLen) (hh : hold.size ≤ 1048576) (ht : told.size ≤ maxLen) (h : FieldsR.rd hi w [v] m.2) (hhi : hi ≤ w.heap.size) :
    Calls Tryz.prog 5 #[.agg #[.string m.1, v], .int .i64 code, .string hold, .string told] w (msgRes (replyRes m code hold told).2 (replyRes m code hold told).1 w) := by
  obtain ⟨A, c, rfl, hc, h'⟩ := fields_rd h
  have HOK := Lib.hid (fun (W : World) (hW : Below w.heap.size w W) => specMsgOk_any hi (.slice A m.2.length c) m W hm hn hs (Rep.below (R := FieldsR) h hW hhi) (Nat.le_trans hhi hW.size))
  have HFO := Lib.hid (fun (no : Int) (W : World) (hW : Below w.heap.size w W) => specFieldOf_any hi (.slice A m.2.length c) m no W hn (Rep.below (R := FieldsR) h hW hhi) (Nat.le_trans hhi hW.size))
  have HRM := Lib.hid (fun W => specReplyMti_any m.1 W hm)
  have HRT := Lib.hid (fun W => specRsText_any code W)
  have HFT := Lib.hid (fun W => specFieldFit_any 38 hold W hh)
  have HK := Lib.hid (fun no W => specFieldOk_any no (rpF m code hold told no).1 W (rpF_size hs hh ht no))
  have HRES : Hid (replyRes m code hold told = if (msgOk m = true ∧ replyMti m.1 ≠ ⟨#[]⟩ ∧ rsText code ≠ ⟨#[]⟩) ∧ rpGood (rpF m code hold told) rpNos = true then ((replyMti m.1, rpL (rpF m code hold told) rpNos), true) else ((⟨#[]⟩, []), false)) := Lib.hid rfl
  clear h h' hs
  generalize hF : rpF m code hold told = F at HK HRES
  have HF := Lib.hid hF
  clear hF
  have hmz := replyMti_size m.1
  have hcz := rsText_size code
  have HTR : Hid (rsText code = rsText code) := Lib.hid rfl
  generalize replyMti m.1 = tm at HRM HRES hmz
  generalize htcd : rsText code = tc at HRT HRES hcz
  have HTD := Lib.hid htcd
  clear htcd HTR
  go_enter Tryz.func5, Tryz.ntmps5
  go_wp2_with fail
  refine (HRM.out _).mono ?_
  rintro e w1 ⟨rfl, hb1⟩
  obtain ⟨hcc, hff⟩ := bcell hb1
  have z1 : w.heap.size + 2 ≤ w1.heap.size := by have := hb1.size; simpa using this
  have HB1 : Hid (Below w.heap.size w w1) := Lib.hid ((((Below.refl w.heap.size w).alloc (Nat.le_refl _) _).alloc (by simp) _).trans (hb1.mono (by simp; omega)))
  have c0 : w1.cell? ⟨w.heap.size, 0, none⟩ = some (.string m.1) := (hcc w.heap.size 0 (by simp; omega)).trans (by simp)
  have c1 : w1.cell? ⟨w.heap.size, 1, none⟩ = some (.slice A m.2.length c) := (hcc w.heap.size 1 (by simp; omega)).trans (by simp)
  have r0 : w1.cell? ⟨w.heap.size + 1, 0, none⟩ = some (.string ⟨#[]⟩) := (hcc (w.heap.size + 1) 0 (by simp)).trans (by simp)
  have r1 : w1.cell? ⟨w.heap.size + 1, 1, none⟩ = some (.slice none 0 0) := (hcc (w.heap.size + 1) 1 (by simp)).trans (by simp)
  have f0 : w1.frozen? ⟨w.heap.size + 1, 0, none⟩ = false := (hff (w.heap.size + 1) 0 (by simp)).trans (by simp)
  have f1 : w1.frozen? ⟨w.heap.size + 1, 1, none⟩ = false := (hff (w.heap.size + 1) 1 (by simp)).trans (by simp)
  have HX : Hid (∀ wr, Below w1.heap.size w1 wr → wr.cell? ⟨w.heap.size, 0, none⟩ = some (.string m.1) ∧ wr.cell? ⟨w.heap.size, 1, none⟩ = some (.slice A m.2.length c) ∧ wr.cell? ⟨w.heap.size + 1, 0, none⟩ = some (.string ⟨#[]⟩) ∧ wr.cell? ⟨w.heap.size + 1, 1, none⟩ = some (.slice none 0 0) ∧ wr.frozen? ⟨w.heap.size + 1, 0, none⟩ = false ∧ wr.frozen? ⟨w.heap.size + 1, 1, none⟩ = false) := Lib.hid fun wr hw =>
    ⟨(hw.cell (p := ⟨_, 0, none⟩) (show w.heap.size < _ by omega)).trans c0, (hw.cell (p := ⟨_, 1, none⟩) (show w.heap.size < _ by omega)).trans c1, (hw.cell (p := ⟨_, 0, none⟩) (show w.heap.size + 1 < _ by omega)).trans r0, (hw.cell (p := ⟨_, 1, none⟩) (show w.heap.size + 1 < _ by omega)).trans r1, (hw.frozen (p := ⟨_, 0, none⟩) (show w.heap.size + 1 < _ by omega)).trans f0, (hw.frozen (p := ⟨_, 1, none⟩) (show w.heap.size + 1 < _ by omega)).trans f1⟩
  clear r0 r1 f0 f1 hb1 hcc hff
  have hg0 := growMsg.start tm w1
  have zw : w.heap.size < w1.heap.size := by omega
  go_wp2_with fail
  have hb2 : Below w1.heap.size w1 (w1.alloc (.cells #[.string tm, .slice none 0 0] 28)) := (Below.refl _ _).alloc (Nat.le_refl _) _
  generalize w1.alloc (.cells #[.string tm, .slice none 0 0] 28) = w2 at hg0 hb2 ⊢
  have z2 : w1.heap.size ≤ w2.heap.size := hb2.size
  have HB2 := Lib.hid hb2
  have HG0 := Lib.hid hg0
  clear hb2 hg0
  refine (HOK.out _ (HB1.out.trans (HB2.out.mono (by omega)))).mono ?_
  rintro e w3 ⟨rfl, hb3⟩
  have z3 : w2.heap.size ≤ w3.heap.size := hb3.size
  have HB3 : Hid (Below w1.heap.size w1 w3) := Lib.hid (HB2.out.trans (hb3.mono z2))
  have HG3 := Lib.hid (HG0.out.keepBelow hb3).rebase
  clear hb3 HB2 HG0 c0 c1
  obtain ⟨c0, c1, r0, r1, f0, f1⟩ := HX.out w3 HB3.out
  have HBW3 : Hid (Below w.heap.size w w3) := Lib.hid (HB1.out.trans (HB3.out.mono (by omega)))
  have o0 := HG3.out.cell0
  have o1 := HG3.out.cell1
  have og := HG3.out.lt
  have zr : w.heap.size + 1 < w3.heap.size := by omega
  cases hok : msgOk m
  · have HN : Hid (replyRes m code hold told = ((⟨#[]⟩, []), false)) := Lib.hid (by rw [HRES.out, if_neg (by simp [hok])])
    clear hok
    go_wp2
    refine bodyPost_ret (v := .tuple #[.agg #[.string ⟨#[]⟩, .slice none 0 0], .bool false]) (by simp [results, Tryz.results5, go_sem, r0, r1]) rfl ?_
    rw [HN.out]
    exact ⟨_, rfl, mine_none _ _ _, (HBW3.out.setCell (p := ⟨_, _, none⟩) (show _ ≤ w.heap.size + 1 by omega) _).setCell (p := ⟨_, _, none⟩) (show _ ≤ w.heap.size + 1 by omega) _⟩
  by_cases htm : tm.toList = []
  · have HN : Hid (replyRes m code hold told = ((⟨#[]⟩, []), false)) := Lib.hid (by rw [HRES.out, if_neg (by simp [empty_iff.2 htm])])
    clear hok
    go_wp2
    refine bodyPost_ret (v := .tuple #[.agg #[.string ⟨#[]⟩, .slice none 0 0], .bool false]) (by simp [results, Tryz.results5, go_sem, r0, r1]) rfl ?_
    rw [HN.out]
    exact ⟨_, rfl, mine_none _ _ _, (HBW3.out.setCell (p := ⟨_, _, none⟩) (show _ ≤ w.heap.size + 1 by omega) _).setCell (p := ⟨_, _, none⟩) (show _ ≤ w.heap.size + 1 by omega) _⟩
  have HTM : Hid (tm ≠ ⟨#[]⟩) := Lib.hid (fun e => htm (empty_iff.1 e))
  have HOKM := Lib.hid hok
  have htm' := isE_no htm
  clear hok
  go_wp2_with fail
  refine (HRT.out _).mono ?_
  rintro e w4 ⟨rfl, hb4⟩
  have z4 : w3.heap.size ≤ w4.heap.size := hb4.size
  have HB4 : Hid (Below w1.heap.size w1 w4) := Lib.hid (HB3.out.trans (hb4.mono (by omega)))
  have HG4 := Lib.hid (HG3.out.keepBelow hb4).rebase
  clear hb4 c0 c1 r0 r1 f0 f1 o0 o1 HG3 HBW3
  obtain ⟨c0, c1, r0, r1, f0, f1⟩ := HX.out w4 HB4.out
  have HBW4 : Hid (Below w.heap.size w w4) := Lib.hid (HB1.out.trans (HB4.out.mono (by omega)))
  have zr4 : w.heap.size + 1 < w4.heap.size := by omega
  by_cases htc : tc.toList = []
  · have HN : Hid (replyRes m code hold told = ((⟨#[]⟩, []), false)) := Lib.hid (by rw [HRES.out, if_neg (by simp [empty_iff.2 htc])])
    go_wp2
    refine bodyPost_ret (v := .tuple #[.agg #[.string ⟨#[]⟩, .slice none 0 0], .bool false]) (by simp [results, Tryz.results5, go_sem, r0, r1]) rfl ?_
    rw [HN.out]
    exact ⟨_, rfl, mine_none _ _ _, (HBW4.out.setCell (p := ⟨_, _, none⟩) (show _ ≤ w.heap.size + 1 by omega) _).setCell (p := ⟨_, _, none⟩) (show _ ≤ w.heap.size + 1 by omega) _⟩
  have htc' := isE_no htc
  have HTC : Hid (tc ≠ ⟨#[]⟩) := Lib.hid (fun e => htc (empty_iff.1 e))
  have hN : nums .i64 w4.heap.size (w4.heap.size + 1) (w4.alloc (.cells #[.int .i64 2, .int .i64 3, .int .i64 4, .int .i64 7, .int .i64 11, .int .i64 37, .int .i64 38, .int .i64 39, .int .i64 41, .int .i64 49, .int .i64 54, .int .i64 102, .int .i64 103] 3)) (.slice (some ⟨w4.heap.size, 0, none⟩) 13 13) rpNos := nums_lit w4 rpNos 3
  have hg5 := (HG4.out.alloc (.cells #[.int .i64 2, .int .i64 3, .int .i64 4, .int .i64 7, .int .i64 11, .int .i64 37, .int .i64 38, .int .i64 39, .int .i64 41, .int .i64 49, .int .i64 54, .int .i64 102, .int .i64 103] 3)).rebase
  have hb5 := HB4.out.alloc (by omega) (.cells #[.int .i64 2, .int .i64 3, .int .i64 4, .int .i64 7, .int .i64 11, .int .i64 37, .int .i64 38, .int .i64 39, .int .i64 41, .int .i64 49, .int .i64 54, .int .i64 102, .int .i64 103] 3)
  have hz5 : (w4.alloc (.cells #[.int .i64 2, .int .i64 3, .int .i64 4, .int .i64 7, .int .i64 11, .int .i64 37, .int .i64 38, .int .i64 39, .int .i64 41, .int .i64 49, .int .i64 54, .int .i64 102, .int .i64 103] 3)).heap.size = w4.heap.size + 1 := by simp
  clear c0 c1 r0 r1 f0 f1 HBW4
  go_wp2
  clear htc htm htc' htm'
  generalize w4.alloc (.cells #[.int .i64 2, .int .i64 3, .int .i64 4, .int .i64 7, .int .i64 11, .int .i64 37, .int .i64 38, .int .i64 39, .int .i64 41, .int .i64 49, .int .i64 54, .int .i64 102, .int .i64 103] 3) = w5 at hN hg5 hb5 hz5 ⊢
  have HN5 := Lib.hid hN
  have HG5 := Lib.hid hg5
  have HB5 := Lib.hid hb5
  clear hN hg5 hb5
  go_loopw [11, 36] (fun gv iv wr => ∃ (i : Nat) (A' : Option Addr) (c' : Nat) (L : List FieldD) (g : Bool), i ≤ 13 ∧ iv = .int .i64 i ∧ gv = .bool g ∧ Hid (L = rpL F (rpNos.take i) ∧ g = rpGood F (rpNos.take i)) ∧ L.length ≤ i ∧ Hid (growMsg w1.heap.size tm wr wr (.slice A' L.length c') L) ∧ Hid (nums .i64 w4.heap.size (w4.heap.size + 1) wr (.slice (some ⟨w4.heap.size, 0, none⟩) 13 13) rpNos) ∧ Hid (Below w1.heap.size w1 wr) ∧ w4.heap.size < wr.heap.size ∧ Hid (∀ k, (Value.slice A' L.length c').ownBlock = some k → w4.heap.size < k)) (fun _ iv _ => 13 - (intOf iv).toNat)
  case atStart => exact ⟨0, none, 0, [], true, Nat.zero_le _, rfl, rfl, Lib.hid ⟨rfl, rfl⟩, Nat.le_refl _, HG5, HN5, HB5, by omega, Lib.hid (fun k hk => by cases hk)⟩
  case round =>
    obtain ⟨i, A', c', L, g, hi', rfl, rfl, HL, hLl, HG, HV, HBL, hz, HQ⟩ := hrel
    have HBW : Hid (Below w.heap.size w wr) := Lib.hid (HB1.out.trans (HBL.out.mono (by omega)))
    obtain ⟨c0, c1, r0, r1, f0, f1⟩ := HX.out wr HBL.out
    have zwr : w.heap.size + 1 < wr.heap.size := by omega
    have o0 := HG.out.cell0
    have o1 := HG.out.cell1
    by_cases hin : i < 13
    · obtain ⟨no, hx⟩ := rpNos_at i hin
      obtain ⟨bq, off, heq, hbq, d0⟩ := HV.out.rd.at hx
      simp only [Option.some.injEq, Addr.mk.injEq, and_true] at heq
      obtain ⟨rfl, rfl⟩ := heq
      rw [Nat.zero_add] at d0
      have HSN := Lib.hid (rp_snoc hx)
      have g1 : (i : Int) < 13 := by omega
      have g2 : 0 ≤ (i : Int) := by omega
      clear hx hbq
      go_wp2_with fail
      refine (HFO.out no wr HBW.out).mono ?_
      rintro e w6 ⟨rfl, hb6⟩
      have z6 : wr.heap.size ≤ w6.heap.size := hb6.size
      have HG6 := Lib.hid (HG.out.keepBelow hb6).rebase
      have HV6 := Lib.hid (HV.out.below hb6 (by omega))
      have HB6 : Hid (Below w1.heap.size w1 w6) := Lib.hid (HBL.out.trans (hb6.mono (by omega)))
      have HFN : Hid (F no = rpF m code hold told no) := Lib.hid (by rw [← HF.out])
      clear hb6 d0 c0 c1 r0 r1 f0 f1 o0 o1 HG HV HBW HBL
      by_cases e38 : no = 38
      · subst e38
        have hff : Hid (fitRes 38 hold = fitRes 38 hold) := Lib.hid rfl
        have HY0 : Hid (F 38 = (fitRes 38 hold, decide (code = 0) && decide (hold ≠ ⟨#[]⟩))) := Lib.hid HFN.out
        generalize fitRes 38 hold = ft at HFT HY0
        clear hff
        by_cases hc0 : code = 0
        · subst hc0
          by_cases hho : hold.toList = []
          · have HNO : Hid ((F 38).2 = false) := Lib.hid (by rw [HY0.out]; simp [empty_iff.2 hho])
            go_wp2_with fail
            refine (HFT.out _).mono ?_
            rintro e w7 ⟨rfl, rfl⟩
            go_wp2
            go_roundw
            case rel => exact ⟨i + 1, A', c', L, g, by omega, by go_num, rfl, Lib.hid ⟨by rw [HSN.out, rpL_no HNO.out]; exact HL.out.1, by rw [HSN.out, rpGood_no HNO.out]; exact HL.out.2⟩, by omega, HG6, HV6, HB6, by omega, HQ⟩
            case measure => simp [intOf] <;> omega
          · have hho' := isE_no hho
            have HY : Hid (F 38 = (ft, true)) := Lib.hid (by rw [HY0.out]; simp [show hold ≠ ⟨#[]⟩ from fun e => hho (empty_iff.1 e)])
            go_wp2_with fail
            refine (HFT.out _).mono ?_
            rintro e w7 ⟨rfl, rfl⟩
            cases g
            · have hcell := HG6.out.cell1
              have hfree := HG6.out.free 1
              have hltb := HG6.out.lt
              have HGD : Hid (rpGood F (rpNos.take (i + 1)) = false) := Lib.hid (by rw [HSN.out, rpGood_yes (by rw [HY.out]), HY.out, ← HL.out.2]; rfl)
              go_wp2_with (at_builtin; refine app_elem fCells 2 (fun _ => rfl) (by decide) fCells_one 26 45 #[.int .i64 0, .string ⟨#[]⟩] 24 Tryz.underlying26 infoField rfl _ _ rfl (by rfl) (w1.heap.size + 1) _ _ L ((38 : Int), ft) _ _ (by rfl) (by rfl) (by rfl) rfl HG6.out.own (by unfold maxLen; omega) (by omega) (by omega) ?_)
              intro A8 c8 w9 hown8 hc8 hg8 hl8
              obtain ⟨q8, k8⟩ := HG6.out.app_cell hg8
              have HG8 := Lib.hid (HG6.out.app hg8 hown8)
              have HF8 := Lib.hid (HG6.out.app_far (v' := .slice A8 (L.length + 1) c8) hg8)
              have z8 : w6.heap.size + 1 ≤ w9.heap.size := by have := hg8.size; simpa using this
              have HL8 := Lib.hid hl8
              clear hown8 hg8 hl8 hcell hfree
              go_wp2
              go_roundw
              case rel =>
                have HQ8 : ∀ k, (Value.slice A8 (L.length + 1) c8).ownBlock = some k → w4.heap.size < k := fun k hk => by
                  rcases HL8.out with h | h
                  · exact HQ.out k (h ▸ hk)
                  · rw [h] at hk; cases hk; omega
                exact ⟨i + 1, A8, c8, L ++ [((38 : Int), ft)], false, by omega, by go_num, rfl, Lib.hid ⟨by rw [HSN.out, rpL_yes (by rw [HY.out]), HY.out, ← HL.out.1], HGD.out.symm⟩, by simp; omega, Lib.hid (by simpa using HG8.out.rebase), Lib.hid (HV6.out.kept fun k h1 h2 => HF8.out k (by omega) (by omega) (fun e => by have := HQ.out k e; omega)), Lib.hid (HB6.out.trans (by simpa using HG8.out.below)), by simp [World.setCell]; omega, Lib.hid (by simpa using HQ8)⟩
              case measure => simp [intOf] <;> omega
            · have hcell := HG6.out.cell1
              have hfree := HG6.out.free 1
              have hltb := HG6.out.lt
              have hk := HK.out (38 : Int) w6
              rw [HY.out] at hk
              go_wp2_with fail
              refine hk.mono ?_
              rintro e w8 ⟨rfl, rfl⟩
              have HGD : Hid (rpGood F (rpNos.take (i + 1)) = fOk (38 : Int) ft) := Lib.hid (by rw [HSN.out, rpGood_yes (by rw [HY.out]), HY.out, ← HL.out.2]; rfl)
              generalize fOk (38 : Int) ft = gn at HGD ⊢
              go_wp2_with (at_builtin; refine app_elem fCells 2 (fun _ => rfl) (by decide) fCells_one 26 45 #[.int .i64 0, .string ⟨#[]⟩] 24 Tryz.underlying26 infoField rfl _ _ rfl (by rfl) (w1.heap.size + 1) _ _ L ((38 : Int), ft) _ _ (by rfl) (by rfl) (by rfl) rfl HG6.out.own (by unfold maxLen; omega) (by omega) (by omega) ?_)
              intro A8 c8 w9 hown8 hc8 hg8 hl8
              obtain ⟨q8, k8⟩ := HG6.out.app_cell hg8
              have HG8 := Lib.hid (HG6.out.app hg8 hown8)
              have HF8 := Lib.hid (HG6.out.app_far (v' := .slice A8 (L.length + 1) c8) hg8)
              have z8 : w6.heap.size + 1 ≤ w9.heap.size := by have := hg8.size; simpa using this
              have HL8 := Lib.hid hl8
              clear hown8 hg8 hl8 hcell hfree
              go_wp2
              go_roundw
              case rel =>
                have HQ8 : ∀ k, (Value.slice A8 (L.length + 1) c8).ownBlock = some k → w4.heap.size < k := fun k hk => by
                  rcases HL8.out with h | h
                  · exact HQ.out k (h ▸ hk)
                  · rw [h] at hk; cases hk; omega
                exact ⟨i + 1, A8, c8, L ++ [((38 : Int), ft)], gn, by omega, by go_num, rfl, Lib.hid ⟨by rw [HSN.out, rpL_yes (by rw [HY.out]), HY.out, ← HL.out.1], HGD.out.symm⟩, by simp; omega, Lib.hid (by simpa using HG8.out.rebase), Lib.hid (HV6.out.kept fun k h1 h2 => HF8.out k (by omega) (by omega) (fun e => by have := HQ.out k e; omega)), Lib.hid (HB6.out.trans (by simpa using HG8.out.below)), by simp [World.setCell]; omega, Lib.hid (by simpa using HQ8)⟩
              case measure => simp [intOf] <;> omega
        · have HNO : Hid ((F 38).2 = false) := Lib.hid (by rw [HY0.out]; simp [hc0])
          go_wp2_with fail
          refine (HFT.out _).mono ?_
          rintro e w7 ⟨rfl, rfl⟩
          go_wp2
          go_roundw
          case rel => exact ⟨i + 1, A', c', L, g, by omega, by go_num, rfl, Lib.hid ⟨by rw [HSN.out, rpL_no HNO.out]; exact HL.out.1, by rw [HSN.out, rpGood_no HNO.out]; exact HL.out.2⟩, by omega, HG6, HV6, HB6, by omega, HQ⟩
          case measure => simp [intOf] <;> omega
      by_cases e39 : no = 39
      · subst e39
        have HY : Hid (F 39 = (tc, true)) := Lib.hid (by rw [HFN.out, ← HTD.out]; rfl)
        go_wp2_with fail
        refine (HRT.out _).mono ?_
        rintro e w7 ⟨rfl, hb7⟩
        have z7 : w6.heap.size ≤ w7.heap.size := hb7.size
        have HG7 := Lib.hid (HG6.out.keepBelow hb7).rebase
        have HV7 := Lib.hid (HV6.out.below hb7 (by omega))
        have HB7 : Hid (Below w1.heap.size w1 w7) := Lib.hid (HB6.out.trans (hb7.mono (by omega)))
        clear hb7
        cases g
        · have hcell := HG7.out.cell1
          have hfree := HG7.out.free 1
          have hltb := HG7.out.lt
          have HGD : Hid (rpGood F (rpNos.take (i + 1)) = false) := Lib.hid (by rw [HSN.out, rpGood_yes (by rw [HY.out]), HY.out, ← HL.out.2]; rfl)
          go_wp2_with (at_builtin; refine app_elem fCells 2 (fun _ => rfl) (by decide) fCells_one 26 45 #[.int .i64 0, .string ⟨#[]⟩] 24 Tryz.underlying26 infoField rfl _ _ rfl (by rfl) (w1.heap.size + 1) _ _ L ((39 : Int), tc) _ _ (by rfl) (by rfl) (by rfl) rfl HG7.out.own (by unfold maxLen; omega) (by omega) (by omega) ?_)
          intro A8 c8 w9 hown8 hc8 hg8 hl8
          obtain ⟨q8, k8⟩ := HG7.out.app_cell hg8
          have HG8 := Lib.hid (HG7.out.app hg8 hown8)
          have HF8 := Lib.hid (HG7.out.app_far (v' := .slice A8 (L.length + 1) c8) hg8)
          have z8 : w7.heap.size + 1 ≤ w9.heap.size := by have := hg8.size; simpa using this
          have HL8 := Lib.hid hl8
          clear hown8 hg8 hl8 hcell hfree
          go_wp2
          go_roundw
          case rel =>
            have HQ8 : ∀ k, (Value.slice A8 (L.length + 1) c8).ownBlock = some k → w4.heap.size < k := fun k hk => by
              rcases HL8.out with h | h
              · exact HQ.out k (h ▸ hk)
              · rw [h] at hk; cases hk; omega
            exact ⟨i + 1, A8, c8, L ++ [((39 : Int), tc)], false, by omega, by go_num, rfl, Lib.hid ⟨by rw [HSN.out, rpL_yes (by rw [HY.out]), HY.out, ← HL.out.1], HGD.out.symm⟩, by simp; omega, Lib.hid (by simpa using HG8.out.rebase), Lib.hid (HV7.out.kept fun k h1 h2 => HF8.out k (by omega) (by omega) (fun e => by have := HQ.out k e; omega)), Lib.hid (HB7.out.trans (by simpa using HG8.out.below)), by simp [World.setCell]; omega, Lib.hid (by simpa using HQ8)⟩
          case measure => simp [intOf] <;> omega
        · have hcell := HG7.out.cell1
          have hfree := HG7.out.free 1
          have hltb := HG7.out.lt
          have hk := HK.out (39 : Int) w7
          rw [HY.out] at hk
          go_wp2_with fail
          refine hk.mono ?_
          rintro e w8 ⟨rfl, rfl⟩
          have HGD : Hid (rpGood F (rpNos.take (i + 1)) = fOk (39 : Int) tc) := Lib.hid (by rw [HSN.out, rpGood_yes (by rw [HY.out]), HY.out, ← HL.out.2]; rfl)
          generalize fOk (39 : Int) tc = gn at HGD ⊢
          go_wp2_with (at_builtin; refine app_elem fCells 2 (fun _ => rfl) (by decide) fCells_one 26 45 #[.int .i64 0, .string ⟨#[]⟩] 24 Tryz.underlying26 infoField rfl _ _ rfl (by rfl) (w1.heap.size + 1) _ _ L ((39 : Int), tc) _ _ (by rfl) (by rfl) (by rfl) rfl HG7.out.own (by unfold maxLen; omega) (by omega) (by omega) ?_)
          intro A8 c8 w9 hown8 hc8 hg8 hl8
          obtain ⟨q8, k8⟩ := HG7.out.app_cell hg8
          have HG8 := Lib.hid (HG7.out.app hg8 hown8)
          have HF8 := Lib.hid (HG7.out.app_far (v' := .slice A8 (L.length + 1) c8) hg8)
          have z8 : w7.heap.size + 1 ≤ w9.heap.size := by have := hg8.size; simpa using this
          have HL8 := Lib.hid hl8
          clear hown8 hg8 hl8 hcell hfree
          go_wp2
          go_roundw
          case rel =>
            have HQ8 : ∀ k, (Value.slice A8 (L.length + 1) c8).ownBlock = some k → w4.heap.size < k := fun k hk => by
              rcases HL8.out with h | h
              · exact HQ.out k (h ▸ hk)
              · rw [h] at hk; cases hk; omega
            exact ⟨i + 1, A8, c8, L ++ [((39 : Int), tc)], gn, by omega, by go_num, rfl, Lib.hid ⟨by rw [HSN.out, rpL_yes (by rw [HY.out]), HY.out, ← HL.out.1], HGD.out.symm⟩, by simp; omega, Lib.hid (by simpa using HG8.out.rebase), Lib.hid (HV7.out.kept fun k h1 h2 => HF8.out k (by omega) (by omega) (fun e => by have := HQ.out k e; omega)), Lib.hid (HB7.out.trans (by simpa using HG8.out.below)), by simp [World.setCell]; omega, Lib.hid (by simpa using HQ8)⟩
          case measure => simp [intOf] <;> omega
      by_cases e54 : no = 54
      · subst e54
        by_cases hto : told.toList = []
        · have HNO : Hid ((F 54).2 = false) := Lib.hid (by rw [HFN.out]; show decide (told ≠ ⟨#[]⟩) = false; simp [empty_iff.2 hto])
          go_wp2
          go_roundw
          case rel => exact ⟨i + 1, A', c', L, g, by omega, by go_num, rfl, Lib.hid ⟨by rw [HSN.out, rpL_no HNO.out]; exact HL.out.1, by rw [HSN.out, rpGood_no HNO.out]; exact HL.out.2⟩, by omega, HG6, HV6, HB6, by omega, HQ⟩
          case measure => simp [intOf] <;> omega
        · have hto' := isE_no hto
          have HY : Hid (F 54 = (told, true)) := Lib.hid (by rw [HFN.out]; show (told, decide (told ≠ ⟨#[]⟩)) = _; simp [show told ≠ ⟨#[]⟩ from fun e => hto (empty_iff.1 e)])
          cases g
          · have hcell := HG6.out.cell1
            have hfree := HG6.out.free 1
            have hltb := HG6.out.lt
            have HGD : Hid (rpGood F (rpNos.take (i + 1)) = false) := Lib.hid (by rw [HSN.out, rpGood_yes (by rw [HY.out]), HY.out, ← HL.out.2]; rfl)
            go_wp2_with (at_builtin; refine app_elem fCells 2 (fun _ => rfl) (by decide) fCells_one 26 45 #[.int .i64 0, .string ⟨#[]⟩] 24 Tryz.underlying26 infoField rfl _ _ rfl (by rfl) (w1.heap.size + 1) _ _ L ((54 : Int), told) _ _ (by rfl) (by rfl) (by rfl) rfl HG6.out.own (by unfold maxLen; omega) (by omega) (by omega) ?_)
            intro A8 c8 w9 hown8 hc8 hg8 hl8
            obtain ⟨q8, k8⟩ := HG6.out.app_cell hg8
            have HG8 := Lib.hid (HG6.out.app hg8 hown8)
            have HF8 := Lib.hid (HG6.out.app_far (v' := .slice A8 (L.length + 1) c8) hg8)
            have z8 : w6.heap.size + 1 ≤ w9.heap.size := by have := hg8.size; simpa using this
            have HL8 := Lib.hid hl8
            clear hown8 hg8 hl8 hcell hfree
            go_wp2
            go_roundw
            case rel =>
              have HQ8 : ∀ k, (Value.slice A8 (L.length + 1) c8).ownBlock = some k → w4.heap.size < k := fun k hk => by
                rcases HL8.out with h | h
                · exact HQ.out k (h ▸ hk)
                · rw [h] at hk; cases hk; omega
              exact ⟨i + 1, A8, c8, L ++ [((54 : Int), told)], false, by omega, by go_num, rfl, Lib.hid ⟨by rw [HSN.out, rpL_yes (by rw [HY.out]), HY.out, ← HL.out.1], HGD.out.symm⟩, by simp; omega, Lib.hid (by simpa using HG8.out.rebase), Lib.hid (HV6.out.kept fun k h1 h2 => HF8.out k (by omega) (by omega) (fun e => by have := HQ.out k e; omega)), Lib.hid (HB6.out.trans (by simpa using HG8.out.below)), by simp [World.setCell]; omega, Lib.hid (by simpa using HQ8)⟩
            case measure => simp [intOf] <;> omega
          · have hcell := HG6.out.cell1
            have hfree := HG6.out.free 1
            have hltb := HG6.out.lt
            have hk := HK.out (54 : Int) w6
            rw [HY.out] at hk
            go_wp2_with fail
            refine hk.mono ?_
            rintro e w8 ⟨rfl, rfl⟩
            have HGD : Hid (rpGood F (rpNos.take (i + 1)) = fOk (54 : Int) told) := Lib.hid (by rw [HSN.out, rpGood_yes (by rw [HY.out]), HY.out, ← HL.out.2]; rfl)
            generalize fOk (54 : Int) told = gn at HGD ⊢
            go_wp2_with (at_builtin; refine app_elem fCells 2 (fun _ => rfl) (by decide) fCells_one 26 45 #[.int .i64 0, .string ⟨#[]⟩] 24 Tryz.underlying26 infoField rfl _ _ rfl (by rfl) (w1.heap.size + 1) _ _ L ((54 : Int), told) _ _ (by rfl) (by rfl) (by rfl) rfl HG6.out.own (by unfold maxLen; omega) (by omega) (by omega) ?_)
            intro A8 c8 w9 hown8 hc8 hg8 hl8
            obtain ⟨q8, k8⟩ := HG6.out.app_cell hg8
            have HG8 := Lib.hid (HG6.out.app hg8 hown8)
            have HF8 := Lib.hid (HG6.out.app_far (v' := .slice A8 (L.length + 1) c8) hg8)
            have z8 : w6.heap.size + 1 ≤ w9.heap.size := by have := hg8.size; simpa using this
            have HL8 := Lib.hid hl8
            clear hown8 hg8 hl8 hcell hfree
            go_wp2
            go_roundw
            case rel =>
              have HQ8 : ∀ k, (Value.slice A8 (L.length + 1) c8).ownBlock = some k → w4.heap.size < k := fun k hk => by
                rcases HL8.out with h | h
                · exact HQ.out k (h ▸ hk)
                · rw [h] at hk; cases hk; omega
              exact ⟨i + 1, A8, c8, L ++ [((54 : Int), told)], gn, by omega, by go_num, rfl, Lib.hid ⟨by rw [HSN.out, rpL_yes (by rw [HY.out]), HY.out, ← HL.out.1], HGD.out.symm⟩, by simp; omega, Lib.hid (by simpa using HG8.out.rebase), Lib.hid (HV6.out.kept fun k h1 h2 => HF8.out k (by omega) (by omega) (fun e => by have := HQ.out k e; omega)), Lib.hid (HB6.out.trans (by simpa using HG8.out.below)), by simp [World.setCell]; omega, Lib.hid (by simpa using HQ8)⟩
            case measure => simp [intOf] <;> omega
      have HY0 : Hid (F no = (fldTxt m.2 no, fldHas m.2 no)) := Lib.hid (by rw [HFN.out]; unfold rpF; rw [if_neg e38, if_neg e39, if_neg e54])
      generalize fldTxt m.2 no = ft at HY0 ⊢
      generalize fldHas m.2 no = fh at HY0 ⊢
      cases fh
      · have HNO : Hid ((F no).2 = false) := Lib.hid (by rw [HY0.out])
        go_wp2
        go_roundw
        case rel => exact ⟨i + 1, A', c', L, g, by omega, by go_num, rfl, Lib.hid ⟨by rw [HSN.out, rpL_no HNO.out]; exact HL.out.1, by rw [HSN.out, rpGood_no HNO.out]; exact HL.out.2⟩, by omega, HG6, HV6, HB6, by omega, HQ⟩
        case measure => simp [intOf] <;> omega
      · have HY := HY0
        cases g
        · have hcell := HG6.out.cell1
          have hfree := HG6.out.free 1
          have hltb := HG6.out.lt
          have HGD : Hid (rpGood F (rpNos.take (i + 1)) = false) := Lib.hid (by rw [HSN.out, rpGood_yes (by rw [HY.out]), HY.out, ← HL.out.2]; rfl)
          go_wp2_with (at_builtin; refine app_elem fCells 2 (fun _ => rfl) (by decide) fCells_one 26 45 #[.int .i64 0, .string ⟨#[]⟩] 24 Tryz.underlying26 infoField rfl _ _ rfl (by rfl) (w1.heap.size + 1) _ _ L (no, ft) _ _ (by rfl) (by rfl) (by rfl) rfl HG6.out.own (by unfold maxLen; omega) (by omega) (by omega) ?_)
          intro A8 c8 w9 hown8 hc8 hg8 hl8
          obtain ⟨q8, k8⟩ := HG6.out.app_cell hg8
          have HG8 := Lib.hid (HG6.out.app hg8 hown8)
          have HF8 := Lib.hid (HG6.out.app_far (v' := .slice A8 (L.length + 1) c8) hg8)
          have z8 : w6.heap.size + 1 ≤ w9.heap.size := by have := hg8.size; simpa using this
          have HL8 := Lib.hid hl8
          clear hown8 hg8 hl8 hcell hfree
          go_wp2
          go_roundw
          case rel =>
            have HQ8 : ∀ k, (Value.slice A8 (L.length + 1) c8).ownBlock = some k → w4.heap.size < k := fun k hk => by
              rcases HL8.out with h | h
              · exact HQ.out k (h ▸ hk)
              · rw [h] at hk; cases hk; omega
            exact ⟨i + 1, A8, c8, L ++ [(no, ft)], false, by omega, by go_num, rfl, Lib.hid ⟨by rw [HSN.out, rpL_yes (by rw [HY.out]), HY.out, ← HL.out.1], HGD.out.symm⟩, by simp; omega, Lib.hid (by simpa using HG8.out.rebase), Lib.hid (HV6.out.kept fun k h1 h2 => HF8.out k (by omega) (by omega) (fun e => by have := HQ.out k e; omega)), Lib.hid (HB6.out.trans (by simpa using HG8.out.below)), by simp [World.setCell]; omega, Lib.hid (by simpa using HQ8)⟩
          case measure => simp [intOf] <;> omega
        · have hcell := HG6.out.cell1
          have hfree := HG6.out.free 1
          have hltb := HG6.out.lt
          have hk := HK.out no w6
          rw [HY.out] at hk
          go_wp2_with fail
          refine hk.mono ?_
          rintro e w8 ⟨rfl, rfl⟩
          have HGD : Hid (rpGood F (rpNos.take (i + 1)) = fOk no ft) := Lib.hid (by rw [HSN.out, rpGood_yes (by rw [HY.out]), HY.out, ← HL.out.2]; rfl)
          generalize fOk no ft = gn at HGD ⊢
          go_wp2_with (at_builtin; refine app_elem fCells 2 (fun _ => rfl) (by decide) fCells_one 26 45 #[.int .i64 0, .string ⟨#[]⟩] 24 Tryz.underlying26 infoField rfl _ _ rfl (by rfl) (w1.heap.size + 1) _ _ L (no, ft) _ _ (by rfl) (by rfl) (by rfl) rfl HG6.out.own (by unfold maxLen; omega) (by omega) (by omega) ?_)
          intro A8 c8 w9 hown8 hc8 hg8 hl8
          obtain ⟨q8, k8⟩ := HG6.out.app_cell hg8
          have HG8 := Lib.hid (HG6.out.app hg8 hown8)
          have HF8 := Lib.hid (HG6.out.app_far (v' := .slice A8 (L.length + 1) c8) hg8)
          have z8 : w6.heap.size + 1 ≤ w9.heap.size := by have := hg8.size; simpa using this
          have HL8 := Lib.hid hl8
          clear hown8 hg8 hl8 hcell hfree
          go_wp2
          go_roundw
          case rel =>
            have HQ8 : ∀ k, (Value.slice A8 (L.length + 1) c8).ownBlock = some k → w4.heap.size < k := fun k hk => by
              rcases HL8.out with h | h
              · exact HQ.out k (h ▸ hk)
              · rw [h] at hk; cases hk; omega
            exact ⟨i + 1, A8, c8, L ++ [(no, ft)], gn, by omega, by go_num, rfl, Lib.hid ⟨by rw [HSN.out, rpL_yes (by rw [HY.out]), HY.out, ← HL.out.1], HGD.out.symm⟩, by simp; omega, Lib.hid (by simpa using HG8.out.rebase), Lib.hid (HV6.out.kept fun k h1 h2 => HF8.out k (by omega) (by omega) (fun e => by have := HQ.out k e; omega)), Lib.hid (HB6.out.trans (by simpa using HG8.out.below)), by simp [World.setCell]; omega, Lib.hid (by simpa using HQ8)⟩
          case measure => simp [intOf] <;> omega
    · obtain rfl : i = 13 := by omega
      have HE : Hid (L = rpL F rpNos ∧ g = rpGood F rpNos) := HL
      cases g
      · have HN : Hid (replyRes m code hold told = ((⟨#[]⟩, []), false)) := Lib.hid (by rw [HRES.out, if_neg (by simp [← HE.out.2])])
        go_wp2
        refine bodyPost_ret (v := .tuple #[.agg #[.string ⟨#[]⟩, .slice none 0 0], .bool false]) (by simp [results, Tryz.results5, go_sem, r0, r1]) rfl ?_
        rw [HN.out]
        exact ⟨_, rfl, mine_none _ _ _, (HBW.out.setCell (p := ⟨_, _, none⟩) (show _ ≤ w.heap.size + 1 by omega) _).setCell (p := ⟨_, _, none⟩) (show _ ≤ w.heap.size + 1 by omega) _⟩
      · have HN : Hid (replyRes m code hold told = ((tm, L), true)) := Lib.hid (by rw [HRES.out, if_pos ⟨⟨HOKM.out, HTM.out, HTC.out⟩, HE.out.2.symm⟩, HE.out.1])
        go_wp2
        refine bodyPost_ret (v := .tuple #[.agg #[.string tm, .slice A' L.length c'], .bool true]) (by simp [results, Tryz.results5, go_sem, r0, r1]) rfl ?_
        have HZ := HG.out.ret (w2 := w) (r := w.heap.size + 1) (by omega) (by omega) HBW.out (.string tm) (.slice A' L.length c')
        rw [HN.out]
        exact ⟨_, rfl, HZ.1, HZ.2⟩
end Go.Proofs.YtdjlhijaadombaaGreatDoor
/- WithField of the reference; no conditions. -/
set_option linter.unusedVariables false
namespace Go.Proofs.YtdjlhijaadombaaGreatDoor
open Go.ChangeShapes Go.WideShapes Go.ChangeAt Go.RowKit

def wstep (no : Int) (s : ByteArray) (st : List FieldD × Bool) (x : FieldD) : List FieldD × Bool :=
  let st1 := if !st.2 && decide (no ≤ x.1) then (st.1 ++ [(no, s)], true) else st
  if x.1 = no then st1 else (st1.1 ++ [x], st1.2)
def wst (no : Int) (s : ByteArray) (l : List FieldD) (i : Nat) : List FieldD × Bool := (l.take i).foldl (wstep no s) ([], false)
set_option maxRecDepth 100000 in
theorem wst_zero (no : Int) (s : ByteArray) (l : List FieldD) : wst no s l 0 = ([], false) := rfl
set_option maxRecDepth 100000 in
theorem wst_next (no : Int) (s : ByteArray) (l : List FieldD) (i : Nat) (x : FieldD) (h : l[i]? = some x) : wst no s l (i + 1) = wstep no s (wst no s l i) x := by
  obtain ⟨hi, rfl⟩ := List.getElem?_eq_some_iff.1 h
  unfold wst
  rw [List.take_succ_eq_append_getElem hi, List.foldl_append]
  rfl
set_option maxRecDepth 100000 in
theorem wst_len (no : Int) (s : ByteArray) (l : List FieldD) (i : Nat) : (wst no s l i).1.length ≤ 2 * i := by
  induction i with
  | zero => simp [wst]
  | succ i ih =>
    by_cases hi : i < l.length
    · rw [wst_next no s l i l[i] (List.getElem?_eq_getElem hi)]
      unfold wstep
      split <;> split <;> simp <;> omega
    · have : wst no s l (i + 1) = wst no s l i := by
        unfold wst; rw [List.take_of_length_le (by omega), List.take_of_length_le (by omega)]
      rw [this]; omega
def withF (no : Int) (s : ByteArray) (l : List FieldD) : List FieldD := if (wst no s l l.length).2 = true then (wst no s l l.length).1 else (wst no s l l.length).1 ++ [(no, s)]
def withOk (m : MsgD) (no : Int) (s : ByteArray) : Bool := msgOk m && fOk no s
def withMsg (m : MsgD) (no : Int) (s : ByteArray) : MsgD := if withOk m no s = true then (m.1, withF no s m.2) else (⟨#[]⟩, [])

end Go.Proofs.YtdjlhijaadombaaGreatDoor
/- GetField of the program; the sentinel of the number scanner holds an error. -/
set_option linter.unusedVariables false
namespace Go.Proofs.YtdjlhijaadombaaGreatDoor
open Go.ChangeShapes Go.WideShapes Go.ChangeAt Go.RowKit

set_option maxRecDepth 100000 in
theorem getText_any (hi : Nat) (v : Value) (l : List Int) (a n : Int) (w : World) (hn : l.length ≤ 1073741824) (hn0 : 0 ≤ n) (hn1 : n ≤ 1000000000000000000) (h : rd .u8 hi w v l) :
    Calls Tryz.prog 60 #[v, .int .i64 a, .int .i64 n] w fun e w' => e = trip (inR l a n) (tPart l a n) (a + n) ∧ Below w.heap.size w w' := by
  obtain ⟨m, rfl⟩ : ∃ m : Nat, n = m := ⟨n.toNat, by omega⟩
  have H := Lib.hid h
  clear h
  cases hr : inR l a (m : Int)
  · rw [trip_no]
    have hbad : a < 0 ∨ (l.length : Int) - (m : Int) < a := by
      rcases Int.lt_or_le a 0 with h0 | h0
      · exact Or.inl h0
      · rcases Int.lt_or_le ((l.length : Int) - m) a with h1 | h1
        · exact Or.inr h1
        · have : inR l a (m : Int) = true := by simp [inR]; omega
          rw [this] at hr; cases hr
    have HB := Lib.hid hbad
    clear hbad hr
    go_enter Tryz.func60, Tryz.ntmps60
    go_wp2_with fail
    refine (bytesAt_out hi _ l a m w hn (by omega) H.out HB.out).mono ?_
    rintro e w1 ⟨rfl, rfl⟩
    go_wp2
    go_ret3
    exact ⟨rfl, Below.refl _ _⟩
  · have hb := inR_yes hr
    rw [trip_yes]
    obtain ⟨b0, rfl⟩ : ∃ b0 : Nat, a = b0 := ⟨a.toNat, by omega⟩
    have HT : Hid (tPart l (b0 : Int) (m : Int) = ((l.drop b0).take m).map byteOf) := Lib.hid rfl
    have han : b0 + m ≤ l.length := by omega
    clear hr hb
    rw [HT.out]
    clear HT
    have HY := Lib.hid (bytesAt_in hi _ l b0 m w hn H.out han)
    clear H
    generalize (l.drop b0).take m = q at HY ⊢
    go_enter Tryz.func60, Tryz.ntmps60
    go_wp2_with fail
    refine HY.out.mono ?_
    rintro e w1 ⟨u, rfl, hu, rfl⟩
    have hst := str_of_rd hu
    clear hu
    go_wp2
    go_ret3
    exact ⟨rfl, Below.refl _ _⟩

set_option maxRecDepth 100000 in
set_option maxHeartbeats 800000 in
theorem getBehindBcd_any (hi : Nat) (v : Value) (l : List Int) (a : Int) (w : World) (p : Addr) (hg : 2 < w.heap.size) (hc : w.cell? ⟨2, 0, none⟩ = some (.iface 149 (.pointer (some p)))) (hn : l.length ≤ 1073741824) (ha : a ≤ 9223372036854775807) (hl : isBytes l) (h : rd .u8 hi w v l) (hhi : hi ≤ w.heap.size) :
    Calls Tryz.prog 87 #[v, .int .i64 a, .int .i64 2, .func (.func 58) #[] #[]] w fun e w' => e = trip (lenGot l a 2 && gOk l (lenEnd l a 2) (lenVal l a 2)) (gTxt l (lenEnd l a 2) (lenVal l a 2)) (gEnd l (lenEnd l a 2) (lenVal l a 2)) ∧ Below w.heap.size w w' := by
  have H := Lib.hid h
  have HL := Lib.hid hl
  have HC := Lib.hid hc
  have he := lenEnd_bd l a 2
  have hv := lenVal_bd l a 2
  clear h hc hl
  cases hgot : lenGot l a 2
  · have HG := Lib.hid hgot
    rw [Bool.false_and, trip_no]
    clear hgot
    go_enter Tryz.func87, Tryz.ntmps87
    go_wp2_with fail
    refine (implGetLen_any hi _ l a _ _ p hg HC.out hn ha HL.out H.out hhi).mono ?_
    rw [lenRes_trip, HG.out]
    rintro e w1 ⟨rfl, hb⟩
    go_wp2
    go_ret3
    exact ⟨rfl, hb⟩
  · have HG := Lib.hid hgot
    rw [Bool.true_and]
    clear hgot
    go_enter Tryz.func87, Tryz.ntmps87
    go_wp2_with fail
    refine (implGetLen_any hi _ l a _ _ p hg HC.out hn ha HL.out H.out hhi).mono ?_
    rw [lenRes_trip, HG.out]
    rintro e w1 ⟨rfl, hb⟩
    have HB1 := Lib.hid hb
    have hz1 := hb.size
    clear hb
    go_wp2_with fail
    refine (implGetBcd_any hi _ l _ _ _ hn (by omega) HL.out (H.out.below HB1.out hhi) (Nat.le_trans hhi hz1)).mono ?_
    rintro e w2 ⟨he2, hb2⟩
    rw [gRes_trip] at he2
    obtain ⟨s0, x0, b0, hf⟩ := trip_form (gOk l (lenEnd l a 2) (lenVal l a 2)) (gTxt l (lenEnd l a 2) (lenVal l a 2)) (gEnd l (lenEnd l a 2) (lenVal l a 2))
    have HF := Lib.hid hf
    rw [hf] at he2
    clear hf
    subst he2
    go_wp2
    go_ret3
    rw [HF.out]
    exact ⟨rfl, HB1.out.trans (hb2.mono hz1)⟩

set_option maxRecDepth 100000 in
set_option maxHeartbeats 800000 in
theorem getBehindText_any (hi : Nat) (v : Value) (l : List Int) (a : Int) (w : World) (p : Addr) (hg : 2 < w.heap.size) (hc : w.cell? ⟨2, 0, none⟩ = some (.iface 149 (.pointer (some p)))) (hn : l.length ≤ 1073741824) (ha : a ≤ 9223372036854775807) (hl : isBytes l) (h : rd .u8 hi w v l) (hhi : hi ≤ w.heap.size) :
    Calls Tryz.prog 87 #[v, .int .i64 a, .int .i64 2, .func (.func 60) #[] #[]] w fun e w' => e = trip (lenGot l a 2 && inR l (lenEnd l a 2) (lenVal l a 2)) (tPart l (lenEnd l a 2) (lenVal l a 2)) (lenEnd l a 2 + lenVal l a 2) ∧ Below w.heap.size w w' := by
  have H := Lib.hid h
  have HL := Lib.hid hl
  have HC := Lib.hid hc
  have he := lenEnd_bd l a 2
  have hv := lenVal_bd l a 2
  clear h hc hl
  cases hgot : lenGot l a 2
  · have HG := Lib.hid hgot
    rw [Bool.false_and, trip_no]
    clear hgot
    go_enter Tryz.func87, Tryz.ntmps87
    go_wp2_with fail
    refine (implGetLen_any hi _ l a _ _ p hg HC.out hn ha HL.out H.out hhi).mono ?_
    rw [lenRes_trip, HG.out]
    rintro e w1 ⟨rfl, hb⟩
    go_wp2
    go_ret3
    exact ⟨rfl, hb⟩
  · have HG := Lib.hid hgot
    rw [Bool.true_and]
    clear hgot
    go_enter Tryz.func87, Tryz.ntmps87
    go_wp2_with fail
    refine (implGetLen_any hi _ l a _ _ p hg HC.out hn ha HL.out H.out hhi).mono ?_
    rw [lenRes_trip, HG.out]
    rintro e w1 ⟨rfl, hb⟩
    have HB1 := Lib.hid hb
    have hz1 := hb.size
    clear hb
    go_wp2_with fail
    refine (getText_any hi _ l _ _ _ hn (by omega) (by omega) (H.out.below HB1.out hhi)).mono ?_
    rintro e w2 ⟨he2, hb2⟩
    skip
    obtain ⟨s0, x0, b0, hf⟩ := trip_form (inR l (lenEnd l a 2) (lenVal l a 2)) (tPart l (lenEnd l a 2) (lenVal l a 2)) (lenEnd l a 2 + lenVal l a 2)
    have HF := Lib.hid hf
    rw [hf] at he2
    clear hf
    subst he2
    go_wp2
    go_ret3
    rw [HF.out]
    exact ⟨rfl, HB1.out.trans (hb2.mono hz1)⟩

set_option maxRecDepth 100000 in
set_option maxHeartbeats 800000 in
theorem getBehindLong_any (hi : Nat) (v : Value) (l : List Int) (a : Int) (w : World) (p : Addr) (hg : 2 < w.heap.size) (hc : w.cell? ⟨2, 0, none⟩ = some (.iface 149 (.pointer (some p)))) (hn : l.length ≤ 1073741824) (ha : a ≤ 9223372036854775807) (hl : isBytes l) (h : rd .u8 hi w v l) (hhi : hi ≤ w.heap.size) :
    Calls Tryz.prog 87 #[v, .int .i64 a, .int .i64 3, .func (.func 60) #[] #[]] w fun e w' => e = trip (lenGot l a 3 && inR l (lenEnd l a 3) (lenVal l a 3)) (tPart l (lenEnd l a 3) (lenVal l a 3)) (lenEnd l a 3 + lenVal l a 3) ∧ Below w.heap.size w w' := by
  have H := Lib.hid h
  have HL := Lib.hid hl
  have HC := Lib.hid hc
  have he := lenEnd_bd l a 3
  have hv := lenVal_bd l a 3
  clear h hc hl
  cases hgot : lenGot l a 3
  · have HG := Lib.hid hgot
    rw [Bool.false_and, trip_no]
    clear hgot
    go_enter Tryz.func87, Tryz.ntmps87
    go_wp2_with fail
    refine (implGetLen_any hi _ l a _ _ p hg HC.out hn ha HL.out H.out hhi).mono ?_
    rw [lenRes_trip, HG.out]
    rintro e w1 ⟨rfl, hb⟩
    go_wp2
    go_ret3
    exact ⟨rfl, hb⟩
  · have HG := Lib.hid hgot
    rw [Bool.true_and]
    clear hgot
    go_enter Tryz.func87, Tryz.ntmps87
    go_wp2_with fail
    refine (implGetLen_any hi _ l a _ _ p hg HC.out hn ha HL.out H.out hhi).mono ?_
    rw [lenRes_trip, HG.out]
    rintro e w1 ⟨rfl, hb⟩
    have HB1 := Lib.hid hb
    have hz1 := hb.size
    clear hb
    go_wp2_with fail
    refine (getText_any hi _ l _ _ _ hn (by omega) (by omega) (H.out.below HB1.out hhi)).mono ?_
    rintro e w2 ⟨he2, hb2⟩
    skip
    obtain ⟨s0, x0, b0, hf⟩ := trip_form (inR l (lenEnd l a 3) (lenVal l a 3)) (tPart l (lenEnd l a 3) (lenVal l a 3)) (lenEnd l a 3 + lenVal l a 3)
    have HF := Lib.hid hf
    rw [hf] at he2
    clear hf
    subst he2
    go_wp2
    go_ret3
    rw [HF.out]
    exact ⟨rfl, HB1.out.trans (hb2.mono hz1)⟩

set_option maxRecDepth 100000 in
theorem getNumVar_any (hi : Nat) (v : Value) (l : List Int) (a n : Int) (w : World) (p : Addr) (hg : 2 < w.heap.size) (hc : w.cell? ⟨2, 0, none⟩ = some (.iface 149 (.pointer (some p)))) (hn : l.length ≤ 1073741824) (ha : a ≤ 9223372036854775807) (hl : isBytes l) (h : rd .u8 hi w v l) (hhi : hi ≤ w.heap.size) :
    Calls Tryz.prog 62 #[v, .int .i64 a, .int .i64 n] w fun e w' => e = trip (lenGot l a 2 && gOk l (lenEnd l a 2) (lenVal l a 2)) (gTxt l (lenEnd l a 2) (lenVal l a 2)) (gEnd l (lenEnd l a 2) (lenVal l a 2)) ∧ Below w.heap.size w w' := by
  have HH := Lib.hid (getBehindBcd_any hi v l a w p hg hc hn ha hl h hhi)
  clear h hc hl
  go_enter Tryz.func62, Tryz.ntmps62
  go_wp2_with fail
  refine HH.out.mono ?_
  rintro e w1 ⟨he, hb⟩
  obtain ⟨s0, x0, b0, hf⟩ := trip_form (lenGot l a 2 && gOk l (lenEnd l a 2) (lenVal l a 2)) (gTxt l (lenEnd l a 2) (lenVal l a 2)) (gEnd l (lenEnd l a 2) (lenVal l a 2))
  have HF := Lib.hid hf
  rw [hf] at he
  clear hf
  subst he
  go_wp2
  go_ret3
  rw [HF.out]
  exact ⟨rfl, hb⟩

set_option maxRecDepth 100000 in
theorem getTextVar_any (hi : Nat) (v : Value) (l : List Int) (a n : Int) (w : World) (p : Addr) (hg : 2 < w.heap.size) (hc : w.cell? ⟨2, 0, none⟩ = some (.iface 149 (.pointer (some p)))) (hn : l.length ≤ 1073741824) (ha : a ≤ 9223372036854775807) (hl : isBytes l) (h : rd .u8 hi w v l) (hhi : hi ≤ w.heap.size) :
    Calls Tryz.prog 64 #[v, .int .i64 a, .int .i64 n] w fun e w' => e = trip (lenGot l a 2 && inR l (lenEnd l a 2) (lenVal l a 2)) (tPart l (lenEnd l a 2) (lenVal l a 2)) (lenEnd l a 2 + lenVal l a 2) ∧ Below w.heap.size w w' := by
  have HH := Lib.hid (getBehindText_any hi v l a w p hg hc hn ha hl h hhi)
  clear h hc hl
  go_enter Tryz.func64, Tryz.ntmps64
  go_wp2_with fail
  refine HH.out.mono ?_
  rintro e w1 ⟨he, hb⟩
  obtain ⟨s0, x0, b0, hf⟩ := trip_form (lenGot l a 2 && inR l (lenEnd l a 2) (lenVal l a 2)) (tPart l (lenEnd l a 2) (lenVal l a 2)) (lenEnd l a 2 + lenVal l a 2)
  have HF := Lib.hid hf
  rw [hf] at he
  clear hf
  subst he
  go_wp2
  go_ret3
  rw [HF.out]
  exact ⟨rfl, hb⟩

set_option maxRecDepth 100000 in
theorem getTextLong_any (hi : Nat) (v : Value) (l : List Int) (a n : Int) (w : World) (p : Addr) (hg : 2 < w.heap.size) (hc : w.cell? ⟨2, 0, none⟩ = some (.iface 149 (.pointer (some p)))) (hn : l.length ≤ 1073741824) (ha : a ≤ 9223372036854775807) (hl : isBytes l) (h : rd .u8 hi w v l) (hhi : hi ≤ w.heap.size) :
    Calls Tryz.prog 66 #[v, .int .i64 a, .int .i64 n] w fun e w' => e = trip (lenGot l a 3 && inR l (lenEnd l a 3) (lenVal l a 3)) (tPart l (lenEnd l a 3) (lenVal l a 3)) (lenEnd l a 3 + lenVal l a 3) ∧ Below w.heap.size w w' := by
  have HH := Lib.hid (getBehindLong_any hi v l a w p hg hc hn ha hl h hhi)
  clear h hc hl
  go_enter Tryz.func66, Tryz.ntmps66
  go_wp2_with fail
  refine HH.out.mono ?_
  rintro e w1 ⟨he, hb⟩
  obtain ⟨s0, x0, b0, hf⟩ := trip_form (lenGot l a 3 && inR l (lenEnd l a 3) (lenVal l a 3)) (tPart l (lenEnd l a 3) (lenVal l a 3)) (lenEnd l a 3 + lenVal l a 3)
  have HF := Lib.hid hf
  rw [hf] at he
  clear hf
  subst he
  go_wp2
  go_ret3
  rw [HF.out]
  exact ⟨rfl, hb⟩

/-- what the decoder of a kind finds, before it is asked whether it fits -/
def rawOk (kd : Int) (l : List Int) (a sz : Int) : Bool := if kd = 1 then gOk l a sz else if kd = 2 then inR l a sz else if kd = 3 then (lenGot l a 2 && gOk l (lenEnd l a 2) (lenVal l a 2)) else if kd = 4 then (lenGot l a 2 && inR l (lenEnd l a 2) (lenVal l a 2)) else (lenGot l a 3 && inR l (lenEnd l a 3) (lenVal l a 3))
def rawTxt (kd : Int) (l : List Int) (a sz : Int) : List UInt8 := if kd = 1 then gTxt l a sz else if kd = 2 then tPart l a sz else if kd = 3 then gTxt l (lenEnd l a 2) (lenVal l a 2) else if kd = 4 then tPart l (lenEnd l a 2) (lenVal l a 2) else tPart l (lenEnd l a 3) (lenVal l a 3)
def rawEnd (kd : Int) (l : List Int) (a sz : Int) : Int := if kd = 1 then gEnd l a sz else if kd = 2 then (a + sz) else if kd = 3 then gEnd l (lenEnd l a 2) (lenVal l a 2) else if kd = 4 then (lenEnd l a 2 + lenVal l a 2) else (lenEnd l a 3 + lenVal l a 3)
def getOk (kd : Int) (l : List Int) (a sz : Int) : Bool := rawOk kd l a sz && okBy kd sz ⟨(rawTxt kd l a sz).toArray⟩
/-- what GetField finds -/
def getRes (l : List Int) (a no : Int) : Ending := if fKind no = 0 then trip false [] 0 else trip (getOk (fKind no) l a (fSize no)) (rawTxt (fKind no) l a (fSize no)) (rawEnd (fKind no) l a (fSize no))
set_option maxRecDepth 100000 in
theorem rawTxt_le (kd : Int) (l : List Int) (a sz : Int) (hn : l.length ≤ 1073741824) : (rawTxt kd l a sz).length ≤ 1073741824 := by
  unfold rawTxt
  repeat' split
  all_goals first | exact Nat.le_trans (gTxt_len _ _ _) (by decide) | exact Nat.le_trans (tPart_le _ _ _) hn
end Go.Proofs.YtdjlhijaadombaaGreatDoor
/- What was put is got back: digits, lengths, fields; wherever it lies. Plain facts on lists; no conditions. -/
set_option linter.unusedVariables false
set_option linter.unusedSimpArgs false
namespace Go.Proofs.YtdjlhijaadombaaGreatDoor
open Go.ChangeShapes Go.WideShapes Go.ChangeAt Go.RowKit

set_option maxRecDepth 100000 in
theorem mid_part (P M Q : List Int) : ((P ++ M ++ Q).drop P.length).take M.length = M := by
  rw [List.append_assoc, List.drop_left, List.take_left]
set_option maxRecDepth 100000 in
theorem pairs_get (L : List Int) (n k : Nat) (h : k < n) : (pairs L n).getD k 0 = 16 * L.getD (2 * k) 0 + L.getD (2 * k + 1) 0 := by
  unfold pairs
  simp [h]
set_option maxRecDepth 100000 in
theorem half_pairs (L : List Int) (hL : halvesOk L) (n i : Nat) (h : i < 2 * n) : halfAt (pairs L n) i = L.getD i 0 := by
  rcases Nat.mod_two_eq_zero_or_one i with e | e
  · obtain ⟨k, rfl⟩ : ∃ k, i = 2 * k := ⟨i / 2, by omega⟩
    rw [half_even, pairs_get _ _ _ (by omega)]
    have h1 := hL (2 * k); have h2 := hL (2 * k + 1)
    omega
  · obtain ⟨k, rfl⟩ : ∃ k, i = 2 * k + 1 := ⟨i / 2, by omega⟩
    rw [half_odd, pairs_get _ _ _ (by omega)]
    have h1 := hL (2 * k); have h2 := hL (2 * k + 1)
    omega
set_option maxRecDepth 100000 in
theorem hv_getD {s : ByteArray} (hd : digs s = true) (i : Nat) (h : i < s.size) : (hv s).getD i 0 = (s[i].toNat : Int) - 48 ∧ 48 ≤ s[i].toNat ∧ s[i].toNat ≤ 57 := by
  have := digs_get hd i h
  exact ⟨by rw [hv_get s i h, hexv_dig this], this.1, this.2⟩
set_option maxRecDepth 100000 in
theorem hv_halves {s : ByteArray} (hd : digs s = true) : halvesOk (hv s) := by
  intro i
  by_cases h : i < s.size
  · have := hv_getD hd i h
    omega
  · rw [List.getD_eq_getElem?_getD, List.getElem?_eq_none (by rw [hv_len]; omega)]
    simp
set_option maxRecDepth 100000 in
/-- the digits of a text of even length -/
theorem dec_back {t : ByteArray} (hd : digs t = true) (he : t.size % 2 = 0) : decN (pairs (hv t) (t.size / 2)) (2 * (pairs (hv t) (t.size / 2)).length) = t.data.toList := by
  rw [pairs_len]
  unfold decN
  refine List.ext_getElem (by simp; omega) fun i h1 h2 => ?_
  have hi : i < t.size := by simpa using h2
  rw [List.getElem_map, List.getElem_range, half_pairs _ (hv_halves hd) _ _ (by omega)]
  have hg := hv_getD hd i hi
  rw [hg.1]
  have : t.data.toList[i] = t[i] := rfl
  rw [this]
  unfold byteOf
  rw [show (48 + ((t[i].toNat : Int) - 48)).toNat = t[i].toNat by omega]
  exact UInt8.ofNat_toNat
set_option maxRecDepth 100000 in
theorem small_back {t : ByteArray} (hd : digs t = true) (n : Nat) (hn : 2 * n ≤ t.size) : small (pairs (hv t) n) = true := by
  unfold small
  rw [pairs_len, List.all_eq_true]
  intro i hi
  have hi' : i < 2 * n := by simpa using hi
  rw [half_pairs _ (hv_halves hd) _ _ hi', (hv_getD hd i (by omega)).1]
  have := hv_getD hd i (by omega)
  simp
  omega
set_option maxRecDepth 100000 in
theorem pad_digs {s : ByteArray} (hd : digs s = true) : digs (padS s) = true := by
  unfold padS
  split
  · exact digs_pad hd
  · exact hd
set_option maxRecDepth 100000 in
theorem pad_sz (s : ByteArray) : (padS s).size = 2 * ((s.size + 1) / 2) := by
  unfold padS
  split
  · rw [pad_size]; omega
  · omega
set_option maxRecDepth 100000 in
theorem bcd_size {s : ByteArray} (h : bcdOk s = true) : (bcd s).length = (s.size + 1) / 2 := by
  rw [bcd_yes h, pairs_len, pad_sz]; omega
set_option maxRecDepth 100000 in
theorem bcdOk_iff (s : ByteArray) : bcdOk s = true ↔ digs s = true ∧ s.size ≤ 38 := by simp [bcdOk]
set_option maxRecDepth 100000 in
theorem bcd_bytes (s : ByteArray) : isBytes (bcd s) := by
  by_cases h : bcdOk s = true
  · have hh := hv_halves (pad_digs ((bcdOk_iff s).1 h).1)
    rw [bcd_yes h]
    intro z hz
    unfold pairs at hz
    obtain ⟨i, _, rfl⟩ := List.mem_map.1 hz
    have h1 := hh (2 * i)
    have h2 := hh (2 * i + 1)
    omega
  · unfold bcd
    rw [if_neg h]
    intro z hz
    cases hz
set_option maxRecDepth 100000 in
/-- digits are found again -/
theorem bcd_back {s : ByteArray} (h : bcdOk s = true) (P Q : List Int) :
    gOk (P ++ bcd s ++ Q) P.length s.size = true ∧ gTxt (P ++ bcd s ++ Q) P.length s.size = s.data.toList ∧ gEnd (P ++ bcd s ++ Q) P.length s.size = P.length + (bcd s).length := by
  obtain ⟨hd, h38⟩ := (bcdOk_iff s).1 h
  have hp := digs_pos hd
  have hlen := bcd_size h
  have hn : (((s.size : Int) + 1) / 2).toNat = (bcd s).length := by rw [hlen]; omega
  have hpart : gPart (P ++ bcd s ++ Q) P.length s.size = bcd s := by
    unfold gPart
    rw [hn, show ((P.length : Int)).toNat = P.length by omega, mid_part]
  have hin : gIn (P ++ bcd s ++ Q) P.length s.size = true := by
    unfold gIn
    simp only [Bool.and_eq_true, decide_eq_true_eq, List.length_append]
    refine ⟨⟨⟨by omega, by omega⟩, by omega⟩, by omega⟩
  have hpd := pad_digs hd
  have hps := pad_sz s
  have hsm : small (bcd s) = true := by rw [bcd_yes h]; exact small_back hpd _ (by omega)
  have hdec : decN (bcd s) (2 * (bcd s).length) = (padS s).data.toList := by rw [bcd_yes h]; exact dec_back hpd (by omega)
  have hok : gOk (P ++ bcd s ++ Q) P.length s.size = true := by
    unfold gOk
    rw [hin, hpart, hsm]
    simp only [Bool.true_and, Bool.or_eq_true, decide_eq_true_eq]
    rcases Nat.mod_two_eq_zero_or_one s.size with e | e
    · left; omega
    · right
      have hb := bcd_yes h
      rw [hb, half_pairs _ (hv_halves hpd) _ _ (by omega), (hv_getD hpd 0 (by omega)).1]
      have : padS s = ⟨#[48]⟩ ++ s := by unfold padS; rw [if_pos e]
      have h0 : (padS s).data.toList = 48 :: s.data.toList := by rw [this]; simp
      have h1 : (padS s)[0]'(by omega) = 48 := by
        show (padS s).data.toList[0]'(by simp; omega) = 48
        simp only [h0, List.getElem_cons_zero]
      rw [h1]
      decide
  refine ⟨hok, ?_, ?_⟩
  · unfold gTxt
    rw [if_pos hok, hpart, hdec]
    rcases Nat.mod_two_eq_zero_or_one s.size with e | e
    · rw [if_neg (by omega)]; unfold padS; rw [if_neg (by omega)]
    · rw [if_pos (by omega)]; unfold padS; rw [if_pos e]; simp
  · unfold gEnd
    rw [if_pos hok, hlen]
    omega
set_option maxRecDepth 100000 in
theorem wide_61 : ∀ n, n < 61 → (digs ⟨(wideOf (n : Nat) 2).toArray⟩ = true ∧ (wideOf (n : Nat) 2).length = 2 ∧ narVal ⟨(wideOf (n : Nat) 2).toArray⟩ = n) ∧ (digs ⟨(wideOf (n : Nat) 3).toArray⟩ = true ∧ (wideOf (n : Nat) 3).length = 3 ∧ narVal ⟨(wideOf (n : Nat) 3).toArray⟩ = n) := by decide +kernel
set_option maxRecDepth 100000 in
theorem wide_both {n : Nat} (hn : n ≤ 60) {d : Int} (hd : d = 2 ∨ d = 3) : digs ⟨(wideOf (n : Nat) d).toArray⟩ = true ∧ ((wideOf (n : Nat) d).length : Int) = d ∧ narVal ⟨(wideOf (n : Nat) d).toArray⟩ = n := by
  obtain ⟨h2, h3⟩ := wide_61 n (by omega)
  rcases hd with rfl | rfl
  · exact ⟨h2.1, by omega, h2.2.2⟩
  · exact ⟨h3.1, by omega, h3.2.2⟩
set_option maxRecDepth 100000 in
/-- a length is found again -/
theorem len_back {n : Nat} (hn : n ≤ 60) {d : Int} (hd : d = 2 ∨ d = 3) (P Q : List Int) :
    lenGot (P ++ putLen n d ++ Q) P.length d = true ∧ lenVal (P ++ putLen n d ++ Q) P.length d = n ∧ lenEnd (P ++ putLen n d ++ Q) P.length d = P.length + (putLen n d).length := by
  have hl : lenDig d = true := by rcases hd with rfl | rfl <;> rfl
  obtain ⟨h1, h2, h3⟩ := wide_both hn hd
  have hs : ((⟨(wideOf (n : Nat) d).toArray⟩ : ByteArray).size : Int) = d := h2
  have hok : bcdOk ⟨(wideOf (n : Nat) d).toArray⟩ = true := (bcdOk_iff _).2 ⟨h1, by omega⟩
  obtain ⟨b1, b2, b3⟩ := bcd_back hok P Q
  rw [hs] at b1 b2 b3
  have hp : putLen n d = bcd ⟨(wideOf (n : Nat) d).toArray⟩ := by unfold putLen; rw [if_pos hl]
  rw [hp]
  refine ⟨by unfold lenGot; rw [hl, b1]; rfl, ?_, by unfold lenEnd; rw [if_pos hl, b3]⟩
  unfold lenVal
  rw [if_pos hl, b2]
  exact h3
set_option maxRecDepth 100000 in
theorem part_back (s : ByteArray) (P Q : List Int) : inR (P ++ bytesL s ++ Q) P.length s.size = true ∧ tPart (P ++ bytesL s ++ Q) P.length s.size = s.data.toList := by
  have hl := bytesL_len s
  constructor
  · unfold inR
    simp only [Bool.and_eq_true, decide_eq_true_eq, List.length_append, hl]
    refine ⟨⟨by omega, by omega⟩, by omega⟩
  · unfold tPart
    rw [show ((P.length : Int)).toNat = P.length by omega, show ((s.size : Int)).toNat = (bytesL s).length by rw [hl]; omega, mid_part, byteOf_back]
set_option maxRecDepth 100000 in
theorem raw3 (l : List Int) (a sz : Int) : rawOk 3 l a sz = (lenGot l a 2 && gOk l (lenEnd l a 2) (lenVal l a 2)) ∧ rawTxt 3 l a sz = gTxt l (lenEnd l a 2) (lenVal l a 2) ∧ rawEnd 3 l a sz = gEnd l (lenEnd l a 2) (lenVal l a 2) := ⟨rfl, rfl, rfl⟩
set_option maxRecDepth 100000 in
theorem raw4 (l : List Int) (a sz : Int) : rawOk 4 l a sz = (lenGot l a 2 && inR l (lenEnd l a 2) (lenVal l a 2)) ∧ rawTxt 4 l a sz = tPart l (lenEnd l a 2) (lenVal l a 2) ∧ rawEnd 4 l a sz = lenEnd l a 2 + lenVal l a 2 := ⟨rfl, rfl, rfl⟩
set_option maxRecDepth 100000 in
theorem raw5 (l : List Int) (a sz : Int) : rawOk 5 l a sz = (lenGot l a 3 && inR l (lenEnd l a 3) (lenVal l a 3)) ∧ rawTxt 5 l a sz = tPart l (lenEnd l a 3) (lenVal l a 3) ∧ rawEnd 5 l a sz = lenEnd l a 3 + lenVal l a 3 := ⟨rfl, rfl, rfl⟩
set_option maxRecDepth 100000 in
theorem back_str (s : ByteArray) : (⟨s.data.toList.toArray⟩ : ByteArray) = s := by simp
set_option maxRecDepth 100000 in
/-- a field is found again, wherever it lies -/
theorem field_back {no : Int} {s : ByteArray} (h : fOk no s = true) (P Q : List Int) :
    getRes (P ++ putFL no s ++ Q) P.length no = .returned (.tuple #[.string s, .int .i64 (P.length + (putFL no s).length), .bool true]) := by
  have hk : fKind no ≠ 0 := fun e => by rw [fOk_no e] at h; cases h
  have h60 := fOk_60 h
  have hokb : okBy (fKind no) (fSize no) s = true := h
  have hput : putFL no s = putBody (fKind no) s := by unfold putFL; rw [if_pos h]
  unfold getRes
  rw [if_neg hk, hput]
  have key : rawOk (fKind no) (P ++ putBody (fKind no) s ++ Q) P.length (fSize no) = true ∧ rawTxt (fKind no) (P ++ putBody (fKind no) s ++ Q) P.length (fSize no) = s.data.toList ∧ rawEnd (fKind no) (P ++ putBody (fKind no) s ++ Q) P.length (fSize no) = P.length + (putBody (fKind no) s).length := by
    have hsz := fOk_size h
    have hkc := kind_cases no
    generalize fKind no = kd at *
    generalize fSize no = sz at *
    rcases hkc with rfl | rfl | rfl | rfl | rfl | rfl
    · exact absurd rfl hk
    · simp [okBy] at hokb
      have hb : bcdOk s = true := (bcdOk_iff s).2 ⟨hokb.2, by omega⟩
      obtain ⟨b1, b2, b3⟩ := bcd_back hb P Q
      rw [hokb.1] at b1 b2 b3
      refine ⟨?_, ?_, ?_⟩
      · simp [rawOk, putBody, ← List.append_assoc, b1]
      · simp [rawTxt, putBody, ← List.append_assoc, b2]
      · simp [rawEnd, putBody, ← List.append_assoc, b3]
    · simp [okBy] at hokb
      obtain ⟨b1, b2⟩ := part_back s P Q
      have hl := bytesL_len s
      rw [hokb.1] at b1 b2
      refine ⟨?_, ?_, ?_⟩
      · simp [rawOk, putBody, ← List.append_assoc, b1]
      · simp [rawTxt, putBody, ← List.append_assoc, b2]
      · simp only [rawEnd, putBody]; simp [hl]; omega
    · simp [okBy] at hokb
      have hb : bcdOk s = true := (bcdOk_iff s).2 ⟨hokb.2, by omega⟩
      obtain ⟨l1, l2, l3⟩ := len_back (n := s.size) (by omega) (.inl rfl : (2 : Int) = 2 ∨ (2 : Int) = 3) P (bcd s ++ Q)
      obtain ⟨b1, b2, b3⟩ := bcd_back hb (P ++ putLen s.size 2) Q
      have e : P ++ putBody 3 s ++ Q = P ++ putLen s.size 2 ++ (bcd s ++ Q) := by simp [putBody]
      have e' : P ++ putLen s.size 2 ++ (bcd s ++ Q) = P ++ putLen s.size 2 ++ bcd s ++ Q := by simp
      have hc : ((P ++ putLen s.size 2).length : Int) = P.length + (putLen s.size 2).length := by simp
      rw [hc] at b1 b2 b3
      rw [e]
      refine ⟨?_, ?_, ?_⟩
      · rw [(raw3 _ _ _).1, l1, l2, l3, e', b1]; rfl
      · rw [(raw3 _ _ _).2.1, l2, l3, e', b2]
      · rw [(raw3 _ _ _).2.2, l2, l3, e', b3]; simp [putBody]; omega
    · simp [okBy] at hokb
      obtain ⟨l1, l2, l3⟩ := len_back (n := s.size) (by omega) (.inl rfl : (2 : Int) = 2 ∨ (2 : Int) = 3) P (bytesL s ++ Q)
      obtain ⟨b1, b2⟩ := part_back s (P ++ putLen s.size 2) Q
      have hl := bytesL_len s
      have e : P ++ putBody 4 s ++ Q = P ++ putLen s.size 2 ++ (bytesL s ++ Q) := by simp [putBody]
      have e' : P ++ putLen s.size 2 ++ (bytesL s ++ Q) = P ++ putLen s.size 2 ++ bytesL s ++ Q := by simp
      have hc : ((P ++ putLen s.size 2).length : Int) = P.length + (putLen s.size 2).length := by simp
      rw [hc] at b1 b2
      rw [e]
      refine ⟨?_, ?_, ?_⟩
      · rw [(raw4 _ _ _).1, l1, l2, l3, e', b1]; rfl
      · rw [(raw4 _ _ _).2.1, l2, l3, e', b2]
      · rw [(raw4 _ _ _).2.2, l2, l3]; simp [putBody, hl]; omega
    · simp [okBy] at hokb
      obtain ⟨l1, l2, l3⟩ := len_back (n := s.size) (by omega) (.inr rfl : (3 : Int) = 2 ∨ (3 : Int) = 3) P (bytesL s ++ Q)
      obtain ⟨b1, b2⟩ := part_back s (P ++ putLen s.size 3) Q
      have hl := bytesL_len s
      have e : P ++ putBody 5 s ++ Q = P ++ putLen s.size 3 ++ (bytesL s ++ Q) := by simp [putBody]
      have e' : P ++ putLen s.size 3 ++ (bytesL s ++ Q) = P ++ putLen s.size 3 ++ bytesL s ++ Q := by simp
      have hc : ((P ++ putLen s.size 3).length : Int) = P.length + (putLen s.size 3).length := by simp
      rw [hc] at b1 b2
      rw [e]
      refine ⟨?_, ?_, ?_⟩
      · rw [(raw5 _ _ _).1, l1, l2, l3, e', b1]; rfl
      · rw [(raw5 _ _ _).2.1, l2, l3, e', b2]
      · rw [(raw5 _ _ _).2.2, l2, l3]; simp [putBody, hl]; omega
  obtain ⟨k1, k2, k3⟩ := key
  have hg : getOk (fKind no) (P ++ putBody (fKind no) s ++ Q) P.length (fSize no) = true := by
    unfold getOk
    rw [k1, k2, back_str, hokb]
    rfl
  rw [trip_on hg, k2, k3, back_str]
end Go.Proofs.YtdjlhijaadombaaGreatDoor
/- Small facts on fields for the laws that put and get one; no conditions. -/
set_option linter.unusedVariables false
namespace Go.Proofs.YtdjlhijaadombaaGreatDoor
open Go.ChangeShapes Go.WideShapes Go.ChangeAt Go.RowKit

set_option maxRecDepth 100000 in
theorem ow_single (w : World) (c : Int) (T : TypeId) : ow T .u8 w.heap.size (w.alloc (.cells #[.int .u8 c] T)) (.slice (some ⟨w.heap.size, 0, none⟩) 1 1) [c] := by
  refine ⟨rfl, Or.inr ⟨w.heap.size, 1, #[.int .u8 c], rfl, Nat.le_refl _, ?_, Nat.le_refl _, by decide, rfl, rfl⟩⟩
  show (w.heap.push _)[w.heap.size]? = _
  simp
set_option maxRecDepth 100000 in
theorem ow.rdOne {T : TypeId} {K : IntKind} {B : Nat} {w : World} {o : Obj} {v : Value} {L : List Int} (h : ow T K B (w.alloc o) v L) : rd K (w.heap.size + 1) (w.alloc o) v L := by
  have := h.nums.rd
  simpa using this
set_option maxRecDepth 100000 in
theorem cell_lt {w : World} {b o : Nat} {v : Value} (h : w.cell? ⟨b, o, none⟩ = some v) : b < w.heap.size := by
  rcases Nat.lt_or_ge b w.heap.size with h' | h'
  · exact h'
  · simp [World.cell?, Array.getElem?_eq_none h'] at h
set_option maxRecDepth 100000 in
theorem putLen_bytes {n : Nat} (hn : n ≤ 60) {d : Int} (hd : d = 2 ∨ d = 3) : isBytes (putLen n d) ∧ (putLen n d).length ≤ 2 := by
  have hl : lenDig d = true := by rcases hd with rfl | rfl <;> rfl
  obtain ⟨h1, h2, h3⟩ := wide_both hn hd
  have hs : ((⟨(wideOf (n : Nat) d).toArray⟩ : ByteArray).size : Int) = d := h2
  have hok : bcdOk ⟨(wideOf (n : Nat) d).toArray⟩ = true := (bcdOk_iff _).2 ⟨h1, by omega⟩
  unfold putLen
  rw [if_pos hl]
  exact ⟨bcd_bytes _, by rw [bcd_size hok]; omega⟩
set_option maxRecDepth 100000 in
theorem putFL_bytes {no : Int} {s : ByteArray} (h : fOk no s = true) : isBytes (putFL no s) := by
  have h60 := fOk_60 h
  have h1 := bcd_bytes s
  have h2 := bytesL_ok s
  have h3 := (putLen_bytes h60 (.inl rfl : (2 : Int) = 2 ∨ (2 : Int) = 3)).1
  have h4 := (putLen_bytes h60 (.inr rfl : (3 : Int) = 2 ∨ (3 : Int) = 3)).1
  unfold putFL putBody
  rw [if_pos h]
  repeat' split
  all_goals intro z hz
  all_goals try simp only [List.mem_append] at hz
  · exact h1 z hz
  · exact h2 z hz
  · exact hz.elim (h3 z) (h1 z)
  · exact hz.elim (h3 z) (h2 z)
  · exact hz.elim (h4 z) (h2 z)
set_option maxRecDepth 100000 in
theorem fit_back {no : Int} {s : ByteArray} (h : fOk no s = true) : fitRes no s = s := by
  have hb : okBy (fKind no) (fSize no) s = true := h
  have e : fitS (fKind no) (fSize no).toNat s = s := by
    unfold fitS
    split
    · next hk => rw [hk] at hb; simp [okBy] at hb; rw [show (fSize no).toNat - s.size = 0 by omega]; rfl
    · split
      · next hk => rw [hk] at hb; simp [okBy] at hb; rw [show (fSize no).toNat - s.size = 0 by omega, padR_zero]
      · rfl
  unfold fitRes
  rw [e, if_pos h]
end Go.Proofs.YtdjlhijaadombaaGreatDoor
/- What the law package's helpers do with slices of ints; no conditions. -/
set_option linter.unusedVariables false
namespace Go.Proofs.YtdjlhijaadombaaGreatDoor
open Go.ChangeShapes Go.WideShapes Go.ChangeAt Go.RowKit

set_option maxRecDepth 100000 in
theorem infoI64 : (Tryz.prog.info? 3).map (fun i => (i.zero, i.size, i.bytes)) = some (some (.int .i64 0), 1, 8) := by kernel_rfl
end Go.Proofs.YtdjlhijaadombaaGreatDoor
/- Bitmaps of eight bytes: PutBits and GetBits of both; no conditions. -/
set_option linter.unusedVariables false
namespace Go.Proofs.YtdjlhijaadombaaGreatDoor
open Go.ChangeShapes Go.WideShapes Go.ChangeAt Go.RowKit

/-- the weight of bit k in its byte -/
def wt (k : Int) : Int := 128 / 2 ^ ((k - 1) % 8).toNat
def setB (b : List Int) (k : Int) : List Int := if 1 ≤ k ∧ k ≤ 64 then b.set ((k - 1) / 8).toNat (bits BinOp.or IntKind.u8 (b.getD ((k - 1) / 8).toNat 0) (wt k)) else b
def putB (l : List Int) : List Int := l.foldl setB (List.replicate 8 0)
set_option maxRecDepth 100000 in
theorem setB_len (b : List Int) (k : Int) : (setB b k).length = b.length := by unfold setB; split <;> simp
set_option maxRecDepth 100000 in
theorem fold_len (l b : List Int) : (l.foldl setB b).length = b.length := by
  induction l generalizing b with
  | nil => rfl
  | cons x l ih => rw [List.foldl_cons, ih, setB_len]
set_option maxRecDepth 100000 in
theorem putB_len (l : List Int) : (putB l).length = 8 := by unfold putB; rw [fold_len]; rfl
set_option maxRecDepth 100000 in
theorem take_foldl (l : List Int) (k : Nat) (h : k < l.length) : putB (l.take (k + 1)) = setB (putB (l.take k)) (l.getD k 0) := by
  unfold putB
  rw [List.take_succ_eq_append_getElem h, List.foldl_append, List.getD_eq_getElem?_getD, List.getElem?_eq_getElem h]
  rfl

set_option maxRecDepth 100000 in
theorem in_any (k a b : Int) (w : World) :
    Calls Tryz.prog 32 #[.int .i64 k, .int .i64 a, .int .i64 b] w fun e w' => e = .returned (.bool (decide (a ≤ k) && decide (k ≤ b))) ∧ w = w' := by
  by_cases h : a ≤ k
  · go_enter Tryz.func32, Tryz.ntmps32
    go_wp2
    go_ret
    exact ⟨ret_bool (by simp [h]), rfl⟩
  · have hd : decide (a ≤ k) = false := decide_eq_false h
    go_enter Tryz.func32, Tryz.ntmps32
    go_wp2
    go_ret
    exact ⟨ret_bool (by simp), rfl⟩

/-- the row of the bitmap -/
def bmap (b : Nat) (w : World) (l : List Int) : Prop := w.rowIs b 5 8 (fun j => .int .u8 (l.getD j 0))
set_option maxRecDepth 100000 in
theorem bmap.start (w : World) : bmap w.heap.size (w.alloc (.cells (madeCells #[.int .u8 0] 8) 5)) (putB []) := (World.rowIs_made w (.int .u8 0) 8 5).congr fun j hj => by
  have : j = 0 ∨ j = 1 ∨ j = 2 ∨ j = 3 ∨ j = 4 ∨ j = 5 ∨ j = 6 ∨ j = 7 := by omega
  rcases this with rfl | rfl | rfl | rfl | rfl | rfl | rfl | rfl <;> rfl
set_option maxRecDepth 100000 in
theorem bmap.set {b : Nat} {w : World} {l : List Int} {k y : Int} {i : Nat} (h : bmap b w l) (h1 : 1 ≤ k) (h2 : k ≤ 64) (hl : l.length = 8) (hi : (k - 1) / 8 = (i : Int)) (hy : y = bits BinOp.or IntKind.u8 (l.getD i 0) (wt k)) : bmap b (w.setCell ⟨b, i, none⟩ (.int .u8 y)) (setB l k) := by
  have hs : setB l k = l.set i (bits BinOp.or IntKind.u8 (l.getD i 0) (wt k)) := by unfold setB; rw [if_pos ⟨h1, h2⟩, hi, Int.toNat_natCast]
  rw [hs]
  refine (World.rowIs.set h i _).congr fun j hj => ?_
  by_cases e : j = i
  · subst e
    rw [if_pos rfl, List.getD_eq_getElem?_getD, List.getElem?_set_self (by omega), hy]
    rfl
  · rw [if_neg e]
    congr 1
    rw [List.getD_eq_getElem?_getD, List.getD_eq_getElem?_getD, List.getElem?_set_ne (Ne.symm e)]
set_option maxRecDepth 100000 in
theorem bmap.done {b lo : Nat} {w : World} {l : List Int} (h : bmap b w l) (hl : l.length = 8) (hlo : lo ≤ b) : nums .u8 lo w.heap.size w (.slice (some ⟨b, 0, none⟩) 8 8) l :=
  ⟨some ⟨b, 0, none⟩, 8, by rw [hl], by omega, fun j hj => ⟨b, 0, rfl, hlo, World.rowIs.lt h, by rw [Nat.zero_add]; exact World.rowIs.cell h (by omega), World.rowIs.frozen h _⟩⟩
set_option maxRecDepth 100000 in
theorem makeEight (w : World) : (Instr.makeSlice 56 (.int .i64 8) (.int .i64 8)).run Tryz.prog w = .ok (.slice (some ⟨w.heap.size, 0, none⟩) 8 8) (w.alloc (.cells (madeCells #[.int .u8 0] 8) 5)) :=
  run_make_row' (P := Tryz.prog) 56 5 (.int .u8 0) 1 Tryz.underlying56 infoU8 rfl .i64 .i64 8 (by omega) (by omega) w
def resN (L : List Int) (w : World) (e : Ending) (w' : World) : Prop := ∃ v, e = .returned v ∧ nums .u8 w.heap.size w'.heap.size w' v L ∧ Below w.heap.size w w'

set_option maxRecDepth 100000 in
theorem bmap.owned {b lo : Nat} {w : World} {l : List Int} (h : bmap b w l) (hl : l.length = 8) (hlo : lo ≤ b) : ow 5 .u8 lo w (.slice (some ⟨b, 0, none⟩) 8 8) l := by
  obtain ⟨c, hb, hc, hi⟩ := h
  refine ⟨by rw [List.length_map, Nat.mul_one], Or.inr ⟨b, 8, c, by rw [hl], hlo, hb, by omega, by decide, by omega, ?_⟩⟩
  rw [Nat.mul_one, hl]
  apply List.ext_getElem?
  intro j
  by_cases hj : j < 8
  · have hg : l[j]? = some l[j] := List.getElem?_eq_getElem (by omega)
    have hd : l.getD j 0 = l[j] := by rw [List.getD_eq_getElem?_getD, hg]; rfl
    rw [List.getElem?_take_of_lt hj, Array.getElem?_toList, hi j hj, List.getElem?_map, hg]
    show some (Value.int IntKind.u8 (l.getD j 0)) = _
    rw [hd]; rfl
  · rw [List.getElem?_eq_none (by rw [List.length_take]; omega), List.getElem?_eq_none (by rw [List.length_map]; omega)]
/-- as resN; the bytes lie in a row of the call's own -/
def resNo (L : List Int) (w : World) (e : Ending) (w' : World) : Prop := ∃ v, e = .returned v ∧ ow 5 .u8 w.heap.size w' v L ∧ Below w.heap.size w w'

/-- is bit k (from 1 on) of these bytes set? -/
def bitAt (p : List Int) (i : Nat) : Bool := decide (p.getD (i / 8) 0 / 2 ^ (7 - i % 8) % 2 = 1)
def getB (p : List Int) (n : Nat) : List Int := ((List.range n).filter (bitAt p)).map fun (i : Nat) => (i : Int) + 1
set_option maxRecDepth 100000 in
theorem getB_step (p : List Int) (n : Nat) : getB p (n + 1) = getB p n ++ (if bitAt p n = true then [(n : Int) + 1] else []) := by
  unfold getB
  rw [List.range_succ, List.filter_append, List.map_append]
  congr 1
  cases h : bitAt p n <;> simp [h]
set_option maxRecDepth 100000 in
theorem getB_len (p : List Int) (n : Nat) : (getB p n).length ≤ n := by
  unfold getB
  rw [List.length_map]
  exact Nat.le_trans (List.length_filter_le _ _) (by simp)
set_option maxRecDepth 100000 in
theorem bit_and : ∀ x < 256, ∀ j < 8, (bits BinOp.and IntKind.u8 ((x : Nat) : Int) (128 / 2 ^ (((j : Nat) : Int)).toNat) != 0) = decide (((x : Nat) : Int) / 2 ^ (7 - j) % 2 = 1) := by decide +kernel
set_option maxRecDepth 100000 in
theorem bit_wt {x : Int} (i : Nat) (h0 : 0 ≤ x) (h1 : x ≤ 255) : (bits BinOp.and IntKind.u8 x (wt ((i : Int) + 1)) != 0) = decide (x / 2 ^ (7 - i % 8) % 2 = 1) := by
  have := bit_and x.toNat (by omega) (i % 8) (by omega)
  rw [Int.toNat_of_nonneg h0] at this
  rw [← this]
  unfold wt
  have e : (((i : Int) + 1 - 1) % 8) = ((i % 8 : Nat) : Int) := by omega
  rw [e]
def bIn (l : List Int) (a : Int) : Bool := decide (0 ≤ a) && decide (a + 8 ≤ l.length)
def bPart (l : List Int) (a : Int) : List Int := (l.drop a.toNat).take 8
def bGet (l : List Int) (a : Int) : List Int := if bIn l a = true then getB (bPart l a) 64 else []
def bEnd (l : List Int) (a : Int) : Int := if bIn l a = true then a + 8 else 0
/-- what GetBits comes to -/
def resG (l : List Int) (a : Int) (w : World) (e : Ending) (w' : World) : Prop := ∃ v, e = .returned (.tuple #[v, .int .i64 (bEnd l a), .bool (bIn l a)]) ∧ nums .i64 w.heap.size w'.heap.size w' v (bGet l a) ∧ Below w.heap.size w w'
set_option maxRecDepth 100000 in
theorem resG_no {l : List Int} {a : Int} {w w' : World} (h : bIn l a = false) (hb : Below w.heap.size w w') : resG l a w (.returned (.tuple #[.slice none 0 0, .int .i64 0, .bool false])) w' := by
  refine ⟨.slice none 0 0, ?_, ?_, hb⟩
  · simp [bEnd, h]
  · have : bGet l a = [] := by simp [bGet, h]
    rw [this]
    exact nums_none _ _ _ _
set_option maxRecDepth 100000 in
theorem resG_yes {l : List Int} {a : Int} {w w' : World} {v : Value} (h : bIn l a = true) (hn : nums .i64 w.heap.size w'.heap.size w' v (getB (bPart l a) 64)) (hb : Below w.heap.size w w') : resG l a w (.returned (.tuple #[v, .int .i64 (a + 8), .bool true])) w' := by
  refine ⟨v, ?_, ?_, hb⟩
  · simp [bEnd, h]
  · have : bGet l a = getB (bPart l a) 64 := by simp [bGet, h]
    rw [this]
    exact hn
set_option maxRecDepth 100000 in
theorem bGet_len (l : List Int) (a : Int) : (bGet l a).length ≤ 64 := by
  unfold bGet; split
  · exact getB_len _ _
  · simp
set_option maxRecDepth 100000 in
theorem bIn_no {l : List Int} {a : Int} (h : a < 0 ∨ (l.length : Int) - 8 < a) : bIn l a = false := by
  cases hg : bIn l a
  · rfl
  · simp only [bIn, Bool.and_eq_true, decide_eq_true_eq] at hg; omega
set_option maxRecDepth 100000 in
theorem bPart_get {l : List Int} {b0 : Nat} (j : Nat) (hj : j < 8) : (bPart l (b0 : Int)).getD j 0 = l.getD (b0 + j) 0 := by
  unfold bPart
  rw [List.getD_eq_getElem?_getD, List.getD_eq_getElem?_getD, List.getElem?_take_of_lt hj, List.getElem?_drop]
  rfl

/-- as resG; the numbers lie in a row of the call's own -/
def resGo (l : List Int) (a : Int) (w : World) (e : Ending) (w' : World) : Prop := ∃ v, e = .returned (.tuple #[v, .int .i64 (bEnd l a), .bool (bIn l a)]) ∧ ow 3 .i64 w.heap.size w' v (bGet l a) ∧ Below w.heap.size w w'
set_option maxRecDepth 100000 in
theorem resGo_no {l : List Int} {a : Int} {w w' : World} (h : bIn l a = false) (hb : Below w.heap.size w w') : resGo l a w (.returned (.tuple #[.slice none 0 0, .int .i64 0, .bool false])) w' := by
  refine ⟨.slice none 0 0, ?_, ?_, hb⟩
  · simp [bEnd, h]
  · have : bGet l a = [] := by simp [bGet, h]
    rw [this]
    exact ow_none _ _ _ _
set_option maxRecDepth 100000 in
theorem resGo_yes {l : List Int} {a : Int} {w w' : World} {v : Value} (h : bIn l a = true) (hn : w'.ownsRow w.heap.size 3 1 v (getB (bPart l a) 64).length ((getB (bPart l a) 64).map (Value.int .i64))) (hb : Below w.heap.size w w') : resGo l a w (.returned (.tuple #[v, .int .i64 (a + 8), .bool true])) w' := by
  refine ⟨v, ?_, ?_, hb⟩
  · simp [bEnd, h]
  · have : bGet l a = getB (bPart l a) 64 := by simp [bGet, h]
    rw [this]
    exact hn
end Go.Proofs.YtdjlhijaadombaaGreatDoor
