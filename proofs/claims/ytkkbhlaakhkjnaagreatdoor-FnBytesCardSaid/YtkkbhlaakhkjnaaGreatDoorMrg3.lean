/- A message is got back from its encoding. Plain facts; no conditions. -/
import Derived.Test.YtkkbhlaakhkjnaaGreatDoorMrg2
import Derived.Maps.StringElems
import Derived.Test.YtkkbhlaakhkjnaaGreatDoorShelf
import Derived.Sort.OwnSortedInts
import Derived.Maps.RangeWalk
import Derived.Deep.RegionHeld3
import Derived.Carry
import Derived.Test.YtkkbhlaakhkjnaaGreatDoorMsgRow
import Derived.ArgAppend
import Derived.Test.YtkkbhlaakhkjnaaGreatDoorMrg1
import Derived.WalkLawsBesides
import Derived.Recover
set_option linter.unusedVariables false
namespace Go.Proofs.YtkkbhlaakhkjnaaGreatDoor
open Go.ChangeShapes Go.WideShapes Go.ChangeAt Go.RowKit

set_option maxRecDepth 100000 in
theorem listOk_all {L : List FieldD} (h : listOk L = true) : (∀ x ∈ L, fOk x.1 x.2 = true) ∧ L.Pairwise (fun a b => a.1 < b.1) := by
  have hs : ∀ j (hj : j < L.length), fOk (L[j]).1 (L[j]).2 = true ∧ (∀ hj' : j + 1 < L.length, (L[j]).1 < (L[j + 1]).1) := by
    intro j hj
    have h1 := listOk_at h j hj
    unfold stepOk at h1
    rw [getD_of (List.getElem?_eq_getElem hj)] at h1
    simp only [Bool.and_eq_true] at h1
    refine ⟨h1.1, fun hj' => ?_⟩
    have h2 := listOk_at h (j + 1) hj'
    unfold stepOk at h2
    rw [getD_of (List.getElem?_eq_getElem hj'), show j + 1 - 1 = j by omega, getD_of (List.getElem?_eq_getElem hj)] at h2
    simp only [Bool.and_eq_true] at h2
    simpa using h2.2
  constructor
  · intro x hx
    obtain ⟨j, hj, rfl⟩ := List.mem_iff_getElem.1 hx
    exact (hs j hj).1
  · rw [List.pairwise_iff_getElem]
    intro i j hi hj hij
    obtain ⟨d, rfl⟩ : ∃ d, j = i + d + 1 := ⟨j - i - 1, by omega⟩
    clear hij
    induction d with
    | zero => exact (hs i hi).2 hj
    | succ d ih =>
      have h1 := ih (by omega)
      have h2 := (hs (i + d + 1) (by omega)).2 hj
      exact Int.lt_trans h1 h2
set_option maxRecDepth 100000 in
theorem split_64 : ∀ (L : List FieldD), L.Pairwise (fun a b => a.1 < b.1) → L.map (·.1) = lows L ++ (highs L).map (· + 64) := by
  intro L
  induction L with
  | nil => intro _; rfl
  | cons x L ih =>
    intro hp
    rw [List.pairwise_cons] at hp
    by_cases h : x.1 ≤ 64
    · have e1 : lows (x :: L) = x.1 :: lows L := by unfold lows; simp [h]
      have e2 : highs (x :: L) = highs L := by unfold highs; rw [List.filter_cons_of_neg (by simpa using h)]
      rw [e1, e2, List.map_cons, ih hp.2]; rfl
    · have hall : ∀ y ∈ L, 64 < y.1 := fun y hy => by have := hp.1 y hy; omega
      have e1 : lows (x :: L) = [] := by
        unfold lows
        rw [List.map_eq_nil_iff, List.filter_eq_nil_iff]
        intro y hy
        rcases List.mem_cons.1 hy with rfl | hy
        · simpa using h
        · have := hall y hy; simp; omega
      have e2 : highs (x :: L) = (x :: L).map (·.1 - 64) := by
        unfold highs
        rw [List.filter_eq_self.2 fun y hy => by
          rcases List.mem_cons.1 hy with rfl | hy
          · simp; omega
          · have := hall y hy; simpa using this]
      rw [e1, e2, List.map_map, List.nil_append]
      refine List.map_congr_left fun y _ => ?_
      simp
set_option maxRecDepth 100000 in
theorem lows_up {L : List FieldD} (hp : L.Pairwise (fun a b => a.1 < b.1)) : (lows L).Pairwise (· < ·) := by
  unfold lows
  rw [List.pairwise_map]
  exact hp.filter _
set_option maxRecDepth 100000 in
theorem highs_up {L : List FieldD} (hp : L.Pairwise (fun a b => a.1 < b.1)) : (highs L).Pairwise (· < ·) := by
  unfold highs
  rw [List.pairwise_map]
  exact (hp.filter _).imp fun h => by omega
set_option maxRecDepth 100000 in
theorem lows_bd {L : List FieldD} (h : ∀ x ∈ L, fOk x.1 x.2 = true) : ∀ k ∈ lows L, 2 ≤ k ∧ k ≤ 64 := by
  intro k hk
  unfold lows at hk
  obtain ⟨x, hx, rfl⟩ := List.mem_map.1 hk
  obtain ⟨h1, h2⟩ := List.mem_filter.1 hx
  have := fOk_range (h x h1)
  have h3 : x.1 ≤ 64 := by simpa using h2
  omega
set_option maxRecDepth 100000 in
theorem highs_bd {L : List FieldD} (h : ∀ x ∈ L, fOk x.1 x.2 = true) : ∀ k ∈ highs L, 1 ≤ k ∧ k ≤ 64 := by
  intro k hk
  unfold highs at hk
  obtain ⟨x, hx, rfl⟩ := List.mem_map.1 hk
  obtain ⟨h1, h2⟩ := List.mem_filter.1 hx
  have := fOk_range (h x h1)
  have h3 : 64 < x.1 := by simpa using h2
  omega
set_option maxRecDepth 100000 in
theorem bits_at (P B Q : List Int) (hB : B.length = 8) (a : Int) (ha : a = P.length) : bIn (P ++ B ++ Q) a = true ∧ bPart (P ++ B ++ Q) a = B ∧ bGet (P ++ B ++ Q) a = getB B 64 ∧ bEnd (P ++ B ++ Q) a = P.length + 8 := by
  subst ha
  have h1 : bIn (P ++ B ++ Q) P.length = true := by
    unfold bIn
    simp only [Bool.and_eq_true, decide_eq_true_eq, List.length_append]
    omega
  have h2 : bPart (P ++ B ++ Q) P.length = B := by
    unfold bPart
    rw [show ((P.length : Int)).toNat = P.length by omega]
    have := mid_part P B Q
    rwa [hB] at this
  exact ⟨h1, h2, by unfold bGet; rw [if_pos h1, h2], by unfold bEnd; rw [if_pos h1]⟩
set_option maxRecDepth 100000 in
theorem nos_back {L : List FieldD} (h : listOk L = true) (P Q : List Int) (hP : P.length = 2) :
    nosOk (P ++ bitsL L ++ Q) = true ∧ nosL (P ++ bitsL L ++ Q) = L.map (·.1) ∧ nosE (P ++ bitsL L ++ Q) = P.length + (bitsL L).length := by
  obtain ⟨hf, hp⟩ := listOk_all h
  have hlb := lows_bd hf
  have hlu := lows_up hp
  have hhb := highs_bd hf
  have hhu := highs_up hp
  have hsp := split_64 L hp
  have hk : knownB (L.map (·.1)) = true := by
    unfold knownB
    rw [List.all_eq_true]
    intro k hk
    obtain ⟨x, hx, rfl⟩ := List.mem_map.1 hk
    have : fKind x.1 ≠ 0 := fun e => by have := hf x hx; rw [fOk_no e] at this; cases this
    simpa using this
  have key : nosRaw (P ++ bitsL L ++ Q) = L.map (·.1) ∧ nosEnd (P ++ bitsL L ++ Q) = P.length + (bitsL L).length ∧ (bIn (P ++ bitsL L ++ Q) 2 && (!moreB (bGet (P ++ bitsL L ++ Q) 2) || (bIn (P ++ bitsL L ++ Q) (bEnd (P ++ bitsL L ++ Q) 2) && decide (0 < (bGet (P ++ bitsL L ++ Q) (bEnd (P ++ bitsL L ++ Q) 2)).length)))) = true := by
    by_cases hh : highs L = []
    · have hb : bitsL L = putB (lows L) := by unfold bitsL; rw [if_pos hh]
      have hg : getB (putB (lows L)) 64 = lows L := getB_putB (fun k hk => by have := hlb k hk; omega) _ hlu (fun z => Iff.rfl)
      obtain ⟨b1, b2, b3, b4⟩ := bits_at P (putB (lows L)) Q (putB_len8 _) 2 (by omega)
      rw [hg] at b3
      rw [hb]
      have hm : moreB (lows L) = false := by
        unfold moreB
        rw [decide_eq_false_iff_not]
        intro h1
        have := hlb 1 h1
        omega
      have ho : lowOnes (lows L) = lows L := by
        unfold lowOnes
        rw [List.filter_eq_self]
        intro z hz
        have := hlb z hz
        simp; omega
      refine ⟨?_, ?_, ?_⟩
      · unfold nosRaw
        rw [b3, hm, if_neg (by simp), ho, hsp, hh]
        simp
      · unfold nosEnd
        rw [b3, hm, if_neg (by simp), b4, putB_len8]
        rfl
      · rw [b3, hm, b1]; rfl
    · have hb : bitsL L = putB (lows L ++ [1]) ++ putB (highs L) := by unfold bitsL; rw [if_neg hh]
      have hbd1 : ∀ k ∈ lows L ++ [1], 1 ≤ k ∧ k ≤ 64 := fun k hk => by
        rcases List.mem_append.1 hk with hk | hk
        · have := hlb k hk; omega
        · rw [List.mem_singleton.1 hk]; omega
      have hg1 : getB (putB (lows L ++ [1])) 64 = 1 :: lows L := getB_putB hbd1 _ (List.pairwise_cons.2 ⟨fun z hz => by have := hlb z hz; omega, hlu⟩) (fun z => by simp [or_comm])
      have hg2 : getB (putB (highs L)) 64 = highs L := getB_putB hhb _ hhu (fun z => Iff.rfl)
      obtain ⟨b1, b2, b3, b4⟩ := bits_at P (putB (lows L ++ [1])) (putB (highs L) ++ Q) (putB_len8 _) 2 (by omega)
      obtain ⟨c1, c2, c3, c4⟩ := bits_at (P ++ putB (lows L ++ [1])) (putB (highs L)) Q (putB_len8 _) 10 (by rw [List.length_append, putB_len8]; omega)
      have e : P ++ (putB (lows L ++ [1]) ++ putB (highs L)) ++ Q = P ++ putB (lows L ++ [1]) ++ (putB (highs L) ++ Q) := by simp
      have e' : P ++ putB (lows L ++ [1]) ++ putB (highs L) ++ Q = P ++ putB (lows L ++ [1]) ++ (putB (highs L) ++ Q) := by simp
      rw [e'] at c1 c2 c3 c4
      rw [hg1] at b3
      rw [hg2] at c3
      rw [hb, e]
      have b4' : bEnd (P ++ putB (lows L ++ [1]) ++ (putB (highs L) ++ Q)) 2 = 10 := by rw [b4]; omega
      have hm : moreB (1 :: lows L) = true := by unfold moreB; simp
      have ho : lowOnes (1 :: lows L) = lows L := by
        unfold lowOnes
        rw [List.filter_cons_of_neg (by simp), List.filter_eq_self]
        intro z hz
        have := hlb z hz
        simp; omega
      have hpos : 0 < (highs L).length := List.length_pos_iff.2 hh
      refine ⟨?_, ?_, ?_⟩
      · unfold nosRaw
        rw [b3, hm, if_pos rfl, ho, b4', c3, hsp]
      · unfold nosEnd
        rw [b3, hm, if_pos rfl, b4', c4, List.length_append, List.length_append, putB_len8, putB_len8]
        omega
      · rw [b3, hm, b1, b4', c1, c3]
        simp [hpos]
  have hok : nosOk (P ++ bitsL L ++ Q) = true := by
    unfold nosOk
    rw [key.2.2, key.1, hk]
    rfl
  exact ⟨hok, by unfold nosL; rw [if_pos hok, key.1], by unfold nosE; rw [if_pos hok, key.2.1]⟩
set_option maxRecDepth 100000 in
theorem gf_back {no : Int} {s : ByteArray} (h : fOk no s = true) (P Q : List Int) (a : Int) (ha : a = P.length) : gfOk (P ++ putFL no s ++ Q) a no = true ∧ gfTxt (P ++ putFL no s ++ Q) a no = s ∧ gfEnd (P ++ putFL no s ++ Q) a no = P.length + (putFL no s).length := by
  subst ha
  have hb := field_back h P Q
  cases hg : gfOk (P ++ putFL no s ++ Q) P.length no
  · rw [get_no hg] at hb
    simp at hb
  · rw [get_yes hg] at hb
    simp only [Ending.returned.injEq, Value.tuple.injEq] at hb
    injection hb with hb
    simp only [List.cons.injEq, Value.string.injEq, Value.int.injEq, true_and, and_true] at hb
    exact ⟨rfl, hb.1, hb.2⟩
set_option maxRecDepth 100000 in
theorem pst_back {L : List FieldD} (h : ∀ x ∈ L, fOk x.1 x.2 = true) (H R : List Int) : ∀ i, i ≤ L.length → pst (H ++ bodyL L ++ R) (L.map (·.1)) H.length i = some ((H.length : Int) + ((bodyL (L.take i)).length : Int), L.take i) := by
  intro i
  induction i with
  | zero => intro _; simp [pst, bodyL]
  | succ i ih =>
    intro hi
    have hx := List.getElem?_eq_getElem (l := L) (i := i) (by omega)
    generalize L[i] = x at hx
    rw [pst_next _ _ _ i x.1 (by rw [List.getElem?_map, hx]; rfl), ih (by omega)]
    have hsplit : L = L.take i ++ x :: L.drop (i + 1) := by
      obtain ⟨hi', rfl⟩ := List.getElem?_eq_some_iff.1 hx
      rw [List.getElem_cons_drop, List.take_append_drop]
    have hbody : H ++ bodyL L ++ R = (H ++ bodyL (L.take i)) ++ putFL x.1 x.2 ++ (bodyL (L.drop (i + 1)) ++ R) := by
      conv => lhs; rw [hsplit]
      unfold bodyL
      rw [List.flatMap_append, List.flatMap_cons]
      simp
    obtain ⟨g1, g2, g3⟩ := gf_back (h x (List.mem_of_getElem? hx)) (H ++ bodyL (L.take i)) (bodyL (L.drop (i + 1)) ++ R) (H.length + (bodyL (L.take i)).length) (by simp)
    rw [← hbody] at g1 g2 g3
    unfold pstep
    simp only [Option.bind_some]
    rw [g1, if_pos rfl, g2, g3, take_snocF hx, bodyL_snoc]
    simp
    omega
set_option maxRecDepth 100000 in
/-- Parse of Encode, with bytes behind it -/
theorem parse_with {m : MsgD} (h : msgOk m = true) (R : List Int) : parseRes (encL m ++ R) = if R = [] then (m, 0) else ((⟨#[]⟩, []), 4) := by
  have hm : mtiOk m.1 = true ∧ listOk m.2 = true := by simpa [msgOk] using h
  have h4 : digs m.1 = true ∧ m.1.size = 4 := by simpa [mtiOk] using hm.1
  have hbo : bcdOk m.1 = true := by simp [bcdOk, h4]
  have hlen : (bcd m.1).length = 2 := by rw [bcd_size hbo, h4.2]
  have he : encL m ++ R = bcd m.1 ++ bitsL m.2 ++ (bodyL m.2 ++ R) := by unfold encL; rw [if_pos h]; simp
  obtain ⟨n1, n2, n3⟩ := nos_back hm.2 (bcd m.1) (bodyL m.2 ++ R) hlen
  obtain ⟨g1, g2, -⟩ := bcd_back hbo [] (bitsL m.2 ++ (bodyL m.2 ++ R))
  rw [h4.2] at g1 g2
  simp only [List.nil_append, List.length_nil] at g1 g2
  rw [← List.append_assoc (bcd m.1)] at g1 g2
  have hp := pst_back (listOk_all hm.2).1 (bcd m.1 ++ bitsL m.2) R m.2.length (Nat.le_refl _)
  rw [List.take_length, List.append_assoc _ (bodyL m.2) R] at hp
  unfold parseRes
  rw [he]
  rw [if_neg (by rw [show ((0 : Nat) : Int) = 0 from rfl, show ((4 : Nat) : Int) = 4 from rfl] at g1; rw [g1]; simp), if_neg (by rw [n1]; simp), n2, n3]
  rw [List.length_map]
  have hc : ((bcd m.1).length : Int) + (bitsL m.2).length = ((bcd m.1 ++ bitsL m.2).length : Int) := by simp
  rw [hc, hp]
  simp only []
  by_cases hR : R = []
  · rw [if_pos hR, if_pos (by rw [hR]; simp only [List.length_append, List.length_nil]; omega)]
    rw [show ((0 : Nat) : Int) = 0 from rfl, show ((4 : Nat) : Int) = 4 from rfl] at g2
    rw [g2, back_str]
  · have := List.length_pos_iff.2 hR
    rw [if_neg hR, if_neg (by simp only [List.length_append]; omega)]
set_option maxRecDepth 100000 in
theorem parse_back {m : MsgD} (h : msgOk m = true) : parseRes (encL m) = (m, 0) := by
  have := parse_with h []
  rwa [List.append_nil, if_pos rfl] at this
end Go.Proofs.YtkkbhlaakhkjnaaGreatDoor
/- WithField's list, of an ascending list: what is below, the new one, what is above. Plain facts; no conditions. -/
set_option linter.unusedVariables false
namespace Go.Proofs.YtkkbhlaakhkjnaaGreatDoor
open Go.ChangeShapes Go.WideShapes Go.ChangeAt Go.RowKit

def asc (l : List FieldD) : Prop := l.Pairwise (fun a b => a.1 < b.1)
def below (no : Int) (l : List FieldD) : List FieldD := l.filter fun x => decide (x.1 < no)
def above (no : Int) (l : List FieldD) : List FieldD := l.filter fun x => decide (no < x.1)
set_option maxRecDepth 100000 in
theorem wfold_true (no : Int) (s : ByteArray) : ∀ (l : List FieldD) (a : List FieldD), l.foldl (wstep no s) (a, true) = (a ++ l.filter (fun x => decide (x.1 ≠ no)), true) := by
  intro l
  induction l with
  | nil => intro a; simp
  | cons x l ih =>
    intro a
    rw [List.foldl_cons]
    have h : wstep no s (a, true) x = if x.1 = no then (a, true) else (a ++ [x], true) := by
      unfold wstep; simp
    rw [h]
    by_cases hx : x.1 = no
    · rw [if_pos hx, ih, List.filter_cons_of_neg (by simp [hx])]
    · rw [if_neg hx, ih, List.filter_cons_of_pos (by simp [hx])]; simp
set_option maxRecDepth 100000 in
theorem all_above {no : Int} {l : List FieldD} (h : ∀ x ∈ l, no < x.1) : below no l = [] ∧ above no l = l ∧ l.filter (fun x => decide (x.1 ≠ no)) = l := by
  refine ⟨List.filter_eq_nil_iff.2 fun x hx => ?_, List.filter_eq_self.2 fun x hx => ?_, List.filter_eq_self.2 fun x hx => ?_⟩
  all_goals have h1 := h x hx
  · simp only [decide_eq_true_eq]; omega
  · simp only [decide_eq_true_eq]; omega
  · simp only [decide_eq_true_eq]; omega
set_option maxRecDepth 100000 in
theorem wfold_false (no : Int) (s : ByteArray) : ∀ (l : List FieldD), asc l → ∀ (a : List FieldD),
    (if (l.foldl (wstep no s) (a, false)).2 = true then (l.foldl (wstep no s) (a, false)).1 else (l.foldl (wstep no s) (a, false)).1 ++ [(no, s)]) = a ++ (below no l ++ (no, s) :: above no l) := by
  intro l
  induction l with
  | nil => intro _ a; simp [below, above]
  | cons x l ih =>
    intro hp a
    obtain ⟨hx, hl⟩ := List.pairwise_cons.1 hp
    rw [List.foldl_cons]
    rcases Int.lt_trichotomy x.1 no with h | h | h
    · have hw : wstep no s (a, false) x = (a ++ [x], false) := by
        unfold wstep
        rw [show decide (no ≤ x.1) = false by simp only [decide_eq_false_iff_not]; omega]
        simp only [Bool.not_false, Bool.and_false, Bool.false_eq_true, if_false]
        rw [if_neg (by omega)]
      rw [hw, ih hl]
      have hb : below no (x :: l) = x :: below no l := List.filter_cons_of_pos (by simpa using h)
      have ha : above no (x :: l) = above no l := List.filter_cons_of_neg (by simp only [decide_eq_true_eq]; omega)
      rw [hb, ha]; simp
    · have hw : wstep no s (a, false) x = (a ++ [(no, s)], true) := by
        unfold wstep
        rw [show decide (no ≤ x.1) = true by simp only [decide_eq_true_eq]; omega]
        simp only [Bool.not_false, Bool.and_true, if_true]
        rw [if_pos h]
      have hg := all_above (no := no) (l := l) (fun y hy => by have := hx y hy; omega)
      rw [hw, wfold_true, hg.2.2]
      have hb : below no (x :: l) = [] := by
        show List.filter _ (x :: l) = []
        rw [List.filter_cons_of_neg (by simp only [decide_eq_true_eq]; omega)]; exact hg.1
      have ha : above no (x :: l) = l := by
        show List.filter _ (x :: l) = l
        rw [List.filter_cons_of_neg (by simp only [decide_eq_true_eq]; omega)]; exact hg.2.1
      rw [hb, ha]; simp
    · have hw : wstep no s (a, false) x = (a ++ [(no, s)] ++ [x], true) := by
        unfold wstep
        rw [show decide (no ≤ x.1) = true by simp only [decide_eq_true_eq]; omega]
        simp only [Bool.not_false, Bool.and_true, if_true]
        rw [if_neg (by omega)]
      have hg := all_above (no := no) (l := l) (fun y hy => by have := hx y hy; omega)
      rw [hw, wfold_true, hg.2.2]
      have hb : below no (x :: l) = [] := by
        show List.filter _ (x :: l) = []
        rw [List.filter_cons_of_neg (by simp only [decide_eq_true_eq]; omega)]; exact hg.1
      have ha : above no (x :: l) = x :: l := by
        show List.filter _ (x :: l) = x :: l
        rw [List.filter_cons_of_pos (by simpa using h)]; exact congrArg _ hg.2.1
      rw [hb, ha]; simp
set_option maxRecDepth 100000 in
theorem withF_asc {l : List FieldD} (h : asc l) (no : Int) (s : ByteArray) : withF no s l = below no l ++ (no, s) :: above no l := by
  have h1 := wfold_false no s l h []
  unfold withF wst
  rw [List.take_length]
  simpa using h1
set_option maxRecDepth 100000 in
theorem mem_below {no : Int} {l : List FieldD} {x : FieldD} : x ∈ below no l ↔ x ∈ l ∧ x.1 < no := by simp [below]
set_option maxRecDepth 100000 in
theorem mem_above {no : Int} {l : List FieldD} {x : FieldD} : x ∈ above no l ↔ x ∈ l ∧ no < x.1 := by simp [above]
set_option maxRecDepth 100000 in
theorem withF_up {l : List FieldD} (h : asc l) (no : Int) (s : ByteArray) : asc (withF no s l) := by
  rw [withF_asc h]
  unfold asc
  rw [List.pairwise_append]
  refine ⟨h.filter _, List.pairwise_cons.2 ⟨fun x hx => (mem_above.1 hx).2, h.filter _⟩, fun x hx y hy => ?_⟩
  have h1 := (mem_below.1 hx).2
  rcases List.mem_cons.1 hy with rfl | hy
  · exact h1
  · exact Int.lt_trans h1 (mem_above.1 hy).2
set_option maxRecDepth 100000 in
theorem withF_mem {l : List FieldD} (h : asc l) (no : Int) (s : ByteArray) (x : FieldD) : x ∈ withF no s l ↔ x = (no, s) ∨ (x ∈ l ∧ x.1 ≠ no) := by
  rw [withF_asc h, List.mem_append, List.mem_cons, mem_below, mem_above]
  constructor
  · rintro (h | h | h)
    · exact Or.inr ⟨h.1, by omega⟩
    · exact Or.inl h
    · exact Or.inr ⟨h.1, by omega⟩
  · rintro (h | h)
    · exact Or.inr (Or.inl h)
    · rcases Int.lt_trichotomy x.1 no with g | g | g
      · exact Or.inl ⟨h.1, g⟩
      · exact absurd g h.2
      · exact Or.inr (Or.inr ⟨h.1, g⟩)
set_option maxRecDepth 100000 in
theorem listOk_of {L : List FieldD} (hf : ∀ x ∈ L, fOk x.1 x.2 = true) (hp : asc L) : listOk L = true := by
  apply listOk_yes
  intro j hj
  unfold stepOk
  rw [getD_of (List.getElem?_eq_getElem hj)]
  rw [hf _ (List.getElem_mem hj)]
  cases j with
  | zero => simp
  | succ j =>
    rw [show j + 1 - 1 = j by omega, getD_of (List.getElem?_eq_getElem (by omega : j < L.length))]
    have := List.pairwise_iff_getElem.1 hp j (j + 1) (by omega) hj (by omega)
    simpa using this
set_option maxRecDepth 100000 in
theorem withMsg_ok {m : MsgD} {no : Int} {s : ByteArray} (h : withOk m no s = true) : msgOk (withMsg m no s) = true := by
  have h0 := h
  unfold withOk at h
  rw [Bool.and_eq_true] at h
  have hm := h.1
  unfold msgOk at hm
  rw [Bool.and_eq_true] at hm
  obtain ⟨hf, hp⟩ := listOk_all hm.2
  unfold withMsg
  rw [if_pos h0]
  unfold msgOk
  rw [Bool.and_eq_true]
  refine ⟨hm.1, listOk_of (fun x hx => ?_) (withF_up hp no s)⟩
  rcases (withF_mem hp no s x).1 hx with rfl | hx
  · exact h.2
  · exact hf x hx.1
end Go.Proofs.YtkkbhlaakhkjnaaGreatDoor
/- Maps from numbers to texts: what one holds, its keys collected and sorted, a look-up. No conditions. -/
set_option linter.unusedVariables false
namespace Go.Proofs.YtkkbhlaakhkjnaaGreatDoor
open Go.ChangeShapes Go.WideShapes Go.ChangeAt Go.RowKit
open Go.Maps (Keyed IsMap)

/-- the map as read holds just the pairs of the list -/
structure mapIs (D : DataW Unit) (L : List FieldD) : Prop where
  isMap : IsMap D
  has_ : ∀ k : Int, Maps.has D (.int .i64 k) = fldHas L k
  at_ : ∀ x ∈ L, ∀ z, D.atKey (.int .i64 x.1) z = .lit (.string x.2.data.toList)
set_option maxRecDepth 100000 in
theorem mapIs.start : mapIs (.map [] : DataW Unit) [] := ⟨Maps.isMap_empty, fun k => rfl, fun x hx => absurd hx (by simp)⟩
set_option maxRecDepth 100000 in
theorem keyLit (k : Int) : WideAt.IsKeyLit (.int .i64 k) := by simp [WideAt.IsKeyLit]
set_option maxRecDepth 100000 in
theorem lit_ne {a b : Int} (h : a ≠ b) : (Lit.int .i64 a) ≠ .int .i64 b := fun e => h (by cases e; rfl)
set_option maxRecDepth 100000 in
/-- a pair with a new key comes behind -/
theorem mapIs.snoc {D : DataW Unit} {L : List FieldD} (h : mapIs D L) {x : FieldD} (hx : ∀ y ∈ L, y.1 ≠ x.1) : mapIs (D.put (.int .i64 x.1) (.lit (.string x.2.data.toList))) (L ++ [x]) := by
  refine ⟨h.isMap.put _ _, fun k => ?_, fun y hy z => ?_⟩
  · unfold fldHas
    rw [List.any_append]
    by_cases e : k = x.1
    · subst e
      rw [Maps.has_put_same h.isMap (keyLit _)]
      simp
    · rw [Maps.has_put_other (lit_ne e), h.has_ k]
      have : ¬ x.1 = k := fun g => e g.symm
      simp [fldHas, this]
  · rcases List.mem_append.1 hy with hy | hy
    · rw [Maps.atKey_put_other (lit_ne (hx y hy))]
      exact h.at_ y hy z
    · obtain rfl : y = x := by simpa using hy
      exact Maps.atKey_put_same h.isMap (keyLit _) _ _
set_option maxRecDepth 100000 in
/-- a pair is put; the list is any that holds the same -/
theorem mapIs.put {D : DataW Unit} {L L' : List FieldD} (h : mapIs D L) (no : Int) (s : ByteArray) (hm : ∀ x, x ∈ L' ↔ x = (no, s) ∨ (x ∈ L ∧ x.1 ≠ no)) : mapIs (D.put (.int .i64 no) (.lit (.string s.data.toList))) L' := by
  refine ⟨h.isMap.put _ _, fun k => ?_, fun y hy z => ?_⟩
  · rw [Bool.eq_iff_iff]
    by_cases e : k = no
    · subst e
      rw [Maps.has_put_same h.isMap (keyLit _)]
      unfold fldHas
      rw [List.any_eq_true]
      exact ⟨fun _ => ⟨(k, s), (hm _).2 (Or.inl rfl), by simp⟩, fun _ => rfl⟩
    · rw [Maps.has_put_other (lit_ne e), h.has_ k]
      unfold fldHas
      rw [List.any_eq_true, List.any_eq_true]
      constructor
      · rintro ⟨x, hx, hk⟩
        have hk' : x.1 = k := by simpa using hk
        exact ⟨x, (hm x).2 (Or.inr ⟨hx, fun g => e (by rw [← hk', g])⟩), hk⟩
      · rintro ⟨x, hx, hk⟩
        have hk' : x.1 = k := by simpa using hk
        rcases (hm x).1 hx with rfl | hx
        · exact absurd hk'.symm e
        · exact ⟨x, hx.1, hk⟩
  · rcases (hm y).1 hy with rfl | hy
    · exact Maps.atKey_put_same h.isMap (keyLit _) _ _
    · rw [Maps.atKey_put_other (lit_ne hy.2)]
      exact h.at_ y hy.1 z
/-- the keys met so far -/
def metI (D : DataW Unit) (left : Lit → Bool) (zs : List Int) : Prop := zs.Nodup ∧ ∀ x, x ∈ zs ↔ (Maps.has D (.int .i64 x) = true ∧ left (.int .i64 x) = false)
set_option maxRecDepth 100000 in
theorem metI.start (D : DataW Unit) : metI D (Maps.has D) [] := ⟨List.nodup_nil, fun x => ⟨fun h => absurd h (by simp), fun h => by rw [h.1] at h; exact absurd h.2 (by simp)⟩⟩
set_option maxRecDepth 100000 in
theorem metI.step {D d : DataW Unit} {left : Lit → Bool} {zs : List Int} {x : Int} (h : metI D left zs) (hl : left (.int .i64 x) = true) (hat : ∀ zd, D.atKey (.int .i64 x) zd = d) :
    metI D (fun z => left z && !z.sameKey (.int .i64 x)) (zs ++ [x]) := by
  have hn : x ∉ zs := fun hx => by rw [((h.2 x).1 hx).2] at hl; cases hl
  refine ⟨?_, fun y => ?_⟩
  · rw [List.nodup_append]
    exact ⟨h.1, by simp, fun a ha b hb e => hn (by rw [List.mem_singleton.1 hb] at e; rw [← e]; exact ha)⟩
  · rw [List.mem_append, List.mem_singleton, h.2 y]
    by_cases e : y = x
    · subst e
      show _ ↔ _ ∧ (left (.int .i64 y) && !(Lit.int .i64 y).sameKey (.int .i64 y)) = false
      rw [WideAt.sameKey_self (keyLit _)]
      exact ⟨fun _ => ⟨Maps.has_true_of_atKey hat, by simp⟩, fun _ => Or.inr rfl⟩
    · show _ ↔ _ ∧ (left (.int .i64 y) && !(Lit.int .i64 y).sameKey (.int .i64 x)) = false
      rw [Maps.sameKey_ne (lit_ne e)]
      simp [e]
set_option maxRecDepth 100000 in
theorem asc_keys {L : List FieldD} (h : asc L) : (L.map (·.1)).Pairwise (fun a b => a < b) := by
  rw [List.pairwise_map]; exact h
set_option maxRecDepth 100000 in
theorem mem_has {L : List FieldD} {k : Int} : k ∈ L.map (·.1) ↔ fldHas L k = true := by
  unfold fldHas
  rw [List.any_eq_true, List.mem_map]
  exact ⟨fun ⟨x, hx, he⟩ => ⟨x, hx, by simpa using he⟩, fun ⟨x, hx, he⟩ => ⟨x, hx, by simpa using he⟩⟩
set_option maxRecDepth 100000 in
/-- sorted, the keys are the list's own -/
theorem sorted_keys {L : List FieldD} (h : asc L) {zs : List Int} (hn : zs.Nodup) (hm : ∀ x, x ∈ zs ↔ fldHas L x = true) : zs.mergeSort (fun x y => decide (x ≤ y)) = L.map (·.1) := by
  have hk := asc_keys h
  have hnd : (L.map (·.1)).Nodup := hk.imp (fun {a b} hab e => by omega)
  have hp : zs.Perm (L.map (·.1)) := (List.perm_ext_iff_of_nodup hn hnd).2 fun x => by rw [hm x, mem_has]
  have tr : ∀ a b c : Int, decide (a ≤ b) = true → decide (b ≤ c) = true → decide (a ≤ c) = true := fun a b c h1 h2 => by simp only [decide_eq_true_eq] at *; omega
  have tl : ∀ a b : Int, (decide (a ≤ b) || decide (b ≤ a)) = true := fun a b => by simp only [Bool.or_eq_true, decide_eq_true_eq]; omega
  refine List.Perm.eq_of_pairwise (le := fun a b => decide (a ≤ b) = true) (fun a b _ _ h1 h2 => ?_) (List.pairwise_mergeSort tr tl zs) (hk.imp fun {a b} hab => by simp only [decide_eq_true_eq]; omega) ((List.mergeSort_perm zs _).trans hp)
  simp only [decide_eq_true_eq] at h1 h2
  omega
set_option maxRecDepth 100000 in
/-- the look-up of a text, at the operation -/
theorem look_text {H : Type} {P : Program} (w : World) {ops : Array Oper} {rest : List Oper} {o : Oper} {a : Act} {Q : Exit → Act → World → Prop}
    (hg : o.guard = none) (m x : Operand) (t : TypeId) (hop : o.op = Op.lookup t m x false)
    (k e : TypeId) (K : Keyed P k) (ht : P.underlying t = some (.map k e)) (he : P.underlying e = some .string) (hz : (zeroValue e).run P w = .ok (.string ⟨#[]⟩) w) (b n : Nat) (D : DataW H)
    (hm : a.eval m = .map (some b)) (hown : w.ownsMap P k (plainElem P e) b n D) (key : Value) (kl : Lit) (hx : a.eval x = key) (hkey : keyOf P k key = some kl) (s : ByteArray) (hat : ∀ z, D.atKey kl z = .lit (.string s.data.toList))
    (hK : wpList P ops Q rest (a.put o.dst (.string s)) w) :
    wpList P ops Q (o :: rest) a w := by
  refine wpList_plain hg fun K' hK' => ?_
  obtain ⟨v, ps, hrun, hv⟩ := hown.lookup K ht hz (plainElem_string he (s := ⟨#[]⟩) (Nat.zero_le _)) hkey
  obtain ⟨c, rfl, hc, hwc⟩ := plainElem_string_inv he hv
  rw [hat] at hc
  simp only [Prod.mk.injEq] at hc
  obtain rfl : c = s := by
    have := hc.1
    simp only [DataW.lit.injEq, Lit.string.injEq] at this
    exact ByteArray.ext (Array.toList_inj.1 this.symm)
  unfold Oper.wp
  simp [execOp, hop, hm, hx, hrun, Result.andThen]
  exact hK' _ _ hK
set_option maxRecDepth 100000 in
/-- .. as an equation -/
theorem look_run {H : Type} {P : Program} {w : World} {t k e : TypeId} (K : Keyed P k) (ht : P.underlying t = some (.map k e)) (he : P.underlying e = some .string) (hz : (zeroValue e).run P w = .ok (.string ⟨#[]⟩) w) {b n : Nat} {D : DataW H}
    (hown : w.ownsMap P k (plainElem P e) b n D) {key : Value} {kl : Lit} (hkey : keyOf P k key = some kl) {s : ByteArray} (hat : ∀ z, D.atKey kl z = .lit (.string s.data.toList)) :
    (Instr.lookup t (.map (some b)) key false).run P w = .ok (.string s) w := by
  obtain ⟨v, ps, hrun, hv⟩ := hown.lookup K ht hz (plainElem_string he (s := ⟨#[]⟩) (Nat.zero_le _)) hkey
  obtain ⟨c, rfl, hc, hwc⟩ := plainElem_string_inv he hv
  rw [hat] at hc
  simp only [Prod.mk.injEq] at hc
  obtain rfl : c = s := by
    have := hc.1
    simp only [DataW.lit.injEq, Lit.string.injEq] at this
    exact ByteArray.ext (Array.toList_inj.1 this.symm)
  exact hrun
/-- a key of Go's int -/
def isI64 (k : Int) : Prop := (Lit.int .i64 k).wf = true
set_option maxRecDepth 100000 in
theorem ownsMap_below {H : Type} {P : Program} {k : TypeId} {R : Value → Option (DataW H × List MemPlace)} {w w' : World} {b n C : Nat} {D : DataW H} (h : w.ownsMap P k R b n D) (hb : Below C w w') (hC : b < C) : w'.ownsMap P k R b n D := by
  obtain ⟨es, clock, h1, rest⟩ := h
  exact ⟨es, clock, (hb.block b hC).trans h1, rest⟩
end Go.Proofs.YtkkbhlaakhkjnaaGreatDoor
/- FieldOf and WithoutField of the program; no conditions. -/
set_option linter.unusedVariables false
namespace Go.Proofs.YtkkbhlaakhkjnaaGreatDoor
open Go.ChangeShapes Go.WideShapes Go.ChangeAt Go.RowKit

set_option maxRecDepth 100000 in
set_option maxHeartbeats 1600000 in
theorem implFieldOf_any (hi : Nat) (v : Value) (m : MsgD) (no : Int) (w : World) (hn : m.2.length ≤ 1048576) (h : FieldsR.rd hi w [v] m.2) (hh : hi ≤ w.heap.size) :
    Calls Tryz.prog 29 #[.agg #[.string m.1, v], .int .i64 no] w fun e w' => e = .returned (.tuple #[.string (fldTxt m.2 no), .bool (fldHas m.2 no)]) ∧ Below w.heap.size w w' := by
  obtain ⟨A, c, rfl, hc, h'⟩ := fields_rd h
  have HR := Lib.hid h'
  clear h' h
  go_enter Tryz.func29, Tryz.ntmps29
  go_wp2
  have HB0 : Hid (Below w.heap.size w (w.alloc (.cells #[.string m.1, .slice A m.2.length c] 31))) := Lib.hid ((Below.refl _ _).alloc (Nat.le_refl _) _)
  go_loopw [11] (fun iv wr => ∃ i : Nat, i ≤ m.2.length ∧ iv = .int .i64 i ∧ Hid (∀ j y, j < i → m.2[j]? = some y → y.1 ≠ no) ∧ Hid (Below w.heap.size w wr) ∧ w.heap.size ≤ wr.heap.size) (fun iv _ => m.2.length - (intOf iv).toNat)
  case atStart => exact ⟨0, Nat.zero_le _, rfl, Lib.hid (fun j y hj => absurd hj (by omega)), HB0, by simp⟩
  case round =>
    obtain ⟨i, hi', rfl, HN, HB, hz⟩ := hrel
    by_cases hin : i < m.2.length
    · obtain ⟨x, hx⟩ : ∃ x, m.2[i]? = some x := ⟨_, List.getElem?_eq_getElem hin⟩
      obtain ⟨b, off, rfl, hbl, c0, c1⟩ := HR.out i x hx
      have HX := Lib.hid hx
      have c0 := (HB.out.cell (p := ⟨b, off + i * 2, none⟩) (show b < w.heap.size by omega)).trans c0
      have c1 := (HB.out.cell (p := ⟨b, off + i * 2 + 1, none⟩) (show b < w.heap.size by omega)).trans c1
      have g1 : (i : Int) < (m.2.length : Int) := by omega
      have g2 : 0 ≤ (i : Int) := by omega
      clear hx
      by_cases he : x.1 = no
      · have HF := Lib.hid (find_at HN.out HX.out he)
        have he' : (x.1 == no) = true := by simpa using he
        clear he
        go_wp2
        go_ret2
        rw [HF.out.1, HF.out.2]
        exact ⟨rfl, HB.out.alloc hz _⟩
      · have he' : (x.1 == no) = false := by simpa using he
        have HE := Lib.hid he
        clear he
        go_wp2
        go_roundw
        case rel => exact ⟨i + 1, by omega, by go_num, Lib.hid (fun j y hj hy => by
          by_cases e : j = i
          · subst e; rw [HX.out] at hy; cases hy; exact HE.out
          · exact HN.out j y (by omega) hy), Lib.hid (HB.out.alloc hz _), by simp; omega⟩
        case measure => simp [intOf] <;> omega
    · obtain rfl : i = m.2.length := by omega
      have HF := Lib.hid (find_none HN.out)
      go_wp2
      go_ret2
      rw [HF.out.1, HF.out.2]
      exact ⟨rfl, HB.out⟩
set_option maxRecDepth 100000 in
/-- the answer is a message whose list is a row of the call's own -/
theorem mine_own {lo hi : Nat} {w : World} {v : Value} {L : List FieldD} (h : owE 55 2 fCells lo w v L) (hh : w.heap.size ≤ hi) : FieldsR.mine lo hi w [v] L := by
  rcases h.filled (fun _ => rfl) noF with ⟨rfl, A, c, rfl⟩ | ⟨g, c, rfl, hc, h1, h2, hf⟩
  · exact ⟨[], ⟨A, c, rfl, Nat.zero_le _, .inl ⟨rfl, rfl⟩⟩, List.nodup_nil, by simp⟩
  · exact fields_mine rfl hc h1 (by omega) hf
set_option maxRecDepth 100000 in
set_option maxHeartbeats 3200000 in
theorem implWithoutField_any (hi : Nat) (v : Value) (m : MsgD) (no : Int) (w : World) (hn : m.2.length ≤ 1048576) (h : FieldsR.rd hi w [v] m.2) (hh : hi ≤ w.heap.size) :
    Calls Tryz.prog 30 #[.agg #[.string m.1, v], .int .i64 no] w (msgOnly (m.1, withoutL m.2 no) w) := by
  obtain ⟨A, c, rfl, hc, h'⟩ := fields_rd h
  have HR := Lib.hid h'
  clear h' h
  go_enter Tryz.func30, Tryz.ntmps30
  go_wp2
  have HB0 : Hid (Below w.heap.size w ((w.alloc (.cells #[.string m.1, .slice A m.2.length c] 31)).alloc (.cells #[.string ⟨#[]⟩, .slice none 0 0] 31))) := Lib.hid (((Below.refl _ _).alloc (Nat.le_refl _) _).alloc (by simp) _)
  have HX0 : Hid (((w.alloc (.cells #[.string m.1, .slice A m.2.length c] 31)).alloc (.cells #[.string ⟨#[]⟩, .slice none 0 0] 31)).cell? ⟨w.heap.size, 0, none⟩ = some (.string m.1)) := Lib.hid (by simp)
  have HRES : Hid (((w.alloc (.cells #[.string m.1, .slice A m.2.length c] 31)).alloc (.cells #[.string ⟨#[]⟩, .slice none 0 0] 31)).heap[w.heap.size + 1]? = some (.cells #[.string ⟨#[]⟩, .slice none 0 0] 31 (0, 0))) := Lib.hid (by simpa using heap_alloc_new (w.alloc (.cells #[.string m.1, .slice A m.2.length c] 31)) (.cells #[.string ⟨#[]⟩, .slice none 0 0] 31))
  generalize hW0 : (w.alloc (.cells #[.string m.1, .slice A m.2.length c] 31)).alloc (.cells #[.string ⟨#[]⟩, .slice none 0 0] 31) = W0 at HB0 HX0 HRES ⊢
  have hs0 : W0.heap.size = w.heap.size + 2 := by rw [← hW0]; simp
  clear hW0
  go_loopw [5, 11] (fun lv iv wr => ∃ (i : Nat) (A : Option Addr) (c : Nat) (L : List FieldD), i ≤ m.2.length ∧ iv = .int .i64 i ∧ lv = .slice A L.length c ∧ Hid (L = withoutL (m.2.take i) no) ∧ L.length ≤ i ∧ Hid (owE 55 2 fCells W0.heap.size wr (.slice A L.length c) L) ∧ Hid (Below W0.heap.size W0 wr) ∧ W0.heap.size ≤ wr.heap.size) (fun _ iv _ => m.2.length - (intOf iv).toNat)
  case atStart => exact ⟨0, none, 0, [], Nat.zero_le _, rfl, rfl, Lib.hid rfl, Nat.le_refl _, Lib.hid (owE_none _ _ _ _ _), Lib.hid (Below.refl _ _), Nat.le_refl _⟩
  case round =>
    obtain ⟨i, A', c', L, hi', rfl, rfl, HL, hLl, HO, HB, hz⟩ := hrel
    have HBr : Hid (Below w.heap.size w wr) := Lib.hid (HB0.out.trans (HB.out.mono (by omega)))
    by_cases hin : i < m.2.length
    · obtain ⟨x, hx⟩ : ∃ x, m.2[i]? = some x := ⟨_, List.getElem?_eq_getElem hin⟩
      obtain ⟨b, off, rfl, hbl, c0, c1⟩ := HR.out i x hx
      have HX := Lib.hid (take_next hx)
      have c0 := (HBr.out.cell (p := ⟨b, off + i * 2, none⟩) (show b < w.heap.size by omega)).trans c0
      have c1 := (HBr.out.cell (p := ⟨b, off + i * 2 + 1, none⟩) (show b < w.heap.size by omega)).trans c1
      have g1 : (i : Int) < (m.2.length : Int) := by omega
      have g2 : 0 ≤ (i : Int) := by omega
      have HF := Lib.hid (HO.out.alloc (.cells #[.int .i64 x.1, .string x.2] 55))
      have HBF := Lib.hid (HB.out.alloc hz (.cells #[.int .i64 x.1, .string x.2] 55))
      clear hx
      by_cases he : x.1 = no
      · have he' : (x.1 != no) = false := by simpa using he
        have HE := Lib.hid he
        clear he
        go_wp2
        go_roundw
        case rel => exact ⟨i + 1, A', c', L, by omega, by go_num, rfl, Lib.hid (by rw [HX.out, without_snoc, if_pos HE.out]; exact HL.out), by omega, HF, HBF, by simp; omega⟩
        case measure => simp [intOf] <;> omega
      · have he' : (x.1 != no) = true := by simpa using he
        have HE := Lib.hid he
        clear he
        go_wp2_with (at_builtin; refine app_elem fCells 2 (fun _ => rfl) (by decide) fCells_one 29 55 #[.int .i64 0, .string ⟨#[]⟩] 24 Tryz.underlying29 infoField rfl _ _ rfl (by rfl) W0.heap.size _ _ L x _ _ (by rfl) (by rfl) (by rfl) (by simp) HF.out (by unfold maxLen; omega) (by omega) (by first | omega | (simp; omega)) ?_)
        intro A2 c2 w2 hown2 hc2 hg2 _
        have hs2 : wr.heap.size + 2 ≤ w2.heap.size := by have := hg2.size; simp at this; omega
        have HB2 : Hid (Below W0.heap.size W0 w2) := Lib.hid ((HBF.out.alloc (by simp; omega) _).grown hg2 (by simp; omega) (fun g hg => (HF.out.lt g hg).1))
        have HO2 := Lib.hid hown2
        clear hown2 hg2
        go_wp2
        go_roundw
        case rel => exact ⟨i + 1, A2, c2, L ++ [x], by omega, by go_num, by rw [List.length_append]; rfl, Lib.hid (by rw [HX.out, without_snoc, if_neg HE.out, ← HL.out]), by simp; omega, Lib.hid (by rw [List.length_append, hs0]; exact HO2.out), HB2, by omega⟩
        case measure => simp [intOf] <;> omega
    · obtain rfl : i = m.2.length := by omega
      have HLL : Hid (L = withoutL m.2 no) := Lib.hid (by have := HL.out; rwa [List.take_length] at this)
      have x0 := (HB.out.cell (p := ⟨w.heap.size, 0, none⟩) (show w.heap.size < _ by omega)).trans HX0.out
      have hrb := (HB.out.block (w.heap.size + 1) (by omega)).trans HRES.out
      have r0 := cell_of_row _ _ 0 _ _ (0, 0) hrb
      have r1 := cell_of_row _ _ 1 _ _ (0, 0) hrb
      simp only [List.getElem?_toArray, List.getElem?_cons_zero, List.getElem?_cons_succ] at r0 r1
      have f0 : wr.frozen? ⟨w.heap.size + 1, 0, none⟩ = false := by unfold World.frozen?; rw [hrb]; simp
      have f1 : wr.frozen? ⟨w.heap.size + 1, 1, none⟩ = false := by unfold World.frozen?; rw [hrb]; simp
      clear hrb
      go_wp2
      refine bodyPost_ret (v := .agg #[.string m.1, .slice A' L.length c']) (by simp [results, Tryz.results30, go_sem, r0, r1]) rfl ⟨_, rfl, ?_, (HBr.out.setCell (p := ⟨_, _, none⟩) (show _ ≤ w.heap.size + 1 by omega) _).setCell (p := ⟨_, _, none⟩) (show _ ≤ w.heap.size + 1 by omega) _⟩
      have ht := ((Turned.refl (w.heap.size + 1) (w.heap.size + 2) wr).set (b := w.heap.size + 1) 0 (.string m.1) (by omega) (by omega)).set (b := w.heap.size + 1) 1 (.slice A' L.length c') (by omega) (by omega)
      show FieldsR.mine _ _ _ _ (withoutL m.2 no)
      rw [← HLL.out]
      exact ((mine_own HO.out (Nat.le_refl _)).turned ht (.inr (by omega)) (Nat.le_refl _)).mono (by omega) ht.size
end Go.Proofs.YtkkbhlaakhkjnaaGreatDoor
/- fieldsOf, textsOf and WithField of the program: a map from numbers to texts, its keys sorted; no conditions. -/
set_option linter.unusedVariables false
namespace Go.Proofs.YtkkbhlaakhkjnaaGreatDoor
open Go.ChangeShapes Go.WideShapes Go.ChangeAt Go.RowKit
open Go.Maps (Keyed IsMap)

set_option maxRecDepth 100000 in
theorem lawI : Keyed Tryz.prog 3 := Maps.int_keyed Tryz.underlying3
set_option maxRecDepth 100000 in
theorem zeroS (w : World) : (zeroValue 9).run Tryz.prog w = .ok (.string ⟨#[]⟩) w := by kernel_rfl
/-- block b holds a map from numbers to texts -/
abbrev mapAt (w : World) (b n : Nat) (D : DataW Unit) : Prop := w.ownsMap Tryz.prog 3 (plainElem Tryz.prog 9) b n D
set_option maxRecDepth 100000 in
theorem mapAt_size {w : World} {b n : Nat} {D : DataW Unit} (h : mapAt w b n D) : Maps.size D ≤ n := by
  obtain ⟨es, clock, hb, F, hs, rfl⟩ := h
  simp only [Maps.size, length_sorted, List.length_map, Array.length_toList]
  exact hs
set_option maxRecDepth 100000 in
theorem owE_ints {B : Nat} {w : World} {v : Value} {l : List Int} (h : w.ownsRow B 3 1 v l.length (l.map (Value.int .i64))) : owE 3 1 iCells B w v l := by
  unfold owE
  rw [show l.flatMap iCells = l.map (Value.int .i64) from flat_map _ _]
  exact h
set_option maxRecDepth 100000 in
theorem row_iter {w : World} {v : Value} {l : List Int} {B b r n cnt : Nat} {D : DataW Unit} {left : Lit → Bool} (h : owE 3 1 iCells B w v l) (hr : w.ranges Tryz.prog 3 (plainElem Tryz.prog 9) b r n D left cnt) : some r ≠ v.ownBlock := row_ne_iter h hr
set_option maxRecDepth 100000 in
theorem ow_of_row {w : World} {B g c n : Nat} {l : List Int} (h : w.ownsRow B 3 1 (.slice (some ⟨g, 0, none⟩) n c) n (l.map (Value.int .i64))) (hn : n = l.length) : ow 3 .i64 B w (.slice (some ⟨g, 0, none⟩) n c) l := by
  subst hn; exact h
set_option maxRecDepth 100000 in
set_option maxHeartbeats 6400000 in
theorem implFieldsOf_any (b n : Nat) (D : DataW Unit) (L : List FieldD) (w : World) (hown : mapAt w b n D) (hD : mapIs D L) (hL : asc L) (hn : n ≤ 4000000) (hl : L.length ≤ 4000000) (hk : ∀ x ∈ L, (Lit.int .i64 x.1).wf = true) :
    Calls Tryz.prog 51 #[.map (some b)] w fun e w' => ∃ u, e = .returned u ∧ FieldsR.mine w.heap.size w'.heap.size w' [u] L ∧ Below w.heap.size w w' := by
  have hbl := hown.lt
  have hsz := mapAt_size hown
  have HO := Lib.hid hown
  have HD := Lib.hid hD
  have HL := Lib.hid hL
  have HK := Lib.hid hk
  clear hD hL hk
  go_enter Tryz.func51, Tryz.ntmps51
  go_wp2_with (at_range; refine wpList_range_own _ rfl _ 70 rfl 3 9 lawI Tryz.underlying70 _ b n D rfl hown ?_)
  intro w0 hrg0 hg0 hs0
  have hz0 : w.heap.size ≤ w0.heap.size := hg0.size
  have HB0 : Hid (Below w.heap.size w w0) := Lib.hid ((Below.refl _ _).grown hg0 (Nat.le_refl _) (fun j hj => by cases hj))
  clear hs0 hown
  go_wp2
  go_loopw [3] (fun v wr => ∃ (left : Lit → Bool) (cnt : Nat) (A : Option Addr) (c : Nat) (zs : List Int), wr.ranges Tryz.prog 3 (plainElem Tryz.prog 9) b w.heap.size n D left cnt ∧ zs.length + cnt ≤ Maps.size D ∧ v = .slice A zs.length c ∧
      Hid (owE 3 1 iCells w.heap.size wr (.slice A zs.length c) zs) ∧ Hid (metI D left zs) ∧ Hid (Below w.heap.size w wr) ∧ w.heap.size ≤ wr.heap.size)
    (fun _ wr => wr.rangeLeft b w.heap.size)
  case atStart => exact ⟨_, _, none, 0, [], hrg0, by simp, rfl, Lib.hid (owE_none _ _ _ _ _), Lib.hid (metI.start D), HB0, hz0⟩
  case round =>
    obtain ⟨left, cnt, A, c, zs, hrg, hcs, rfl, HR, HM, HB, hz⟩ := hrel
    go_wp2_with (at_next; refine wpList_next_ranges_is _ rfl _ rfl 3 9 .i64 lawI Tryz.underlying3 Tryz.underlying9 b w.heap.size n _ _ _ rfl hrg ?_ ?_)
    · intro hc0 hl0
      have hzs : Hid (zs.Nodup ∧ ∀ x, x ∈ zs ↔ fldHas L x = true) := Lib.hid ⟨HM.out.1, fun x => by rw [HM.out.2 x, HD.out.has_ x]; simp [hl0]⟩
      have HS := Lib.hid (sorted_keys HL.out hzs.out.1 hzs.out.2)
      have hlen : zs.length = L.length := by
        have := congrArg List.length HS.out
        simpa using this
      clear hl0 hrg
      -- behind the sort: the slice holds the list's numbers
      have HC : Hid (Calls Tryz.prog 84 #[.slice A zs.length c] wr fun e w' => e = .returned (.tuple #[]) ∧ rd .i64 w'.heap.size w' (.slice A zs.length c) (L.map (·.1)) ∧ Below w.heap.size w w' ∧ w.heap.size ≤ w'.heap.size) := Lib.hid (by
        have hrow := HR.out.ints
        have hb0 := HB.out
        rcases hrow.2 with ⟨hnil, h0⟩ | ⟨g, cap, cur, hv, hbase, hb, h1, h2, h3, h4⟩
        · have hL0 : L.map (·.1) = [] := by rw [← HS.out, List.eq_nil_of_length_eq_zero h0, List.mergeSort_nil]
          rw [hnil]
          refine (Tryz.slices_Sort_int_none none 0 wr).mono ?_
          rintro e w' ⟨rfl, rfl⟩
          rw [hL0]
          exact ⟨rfl, (nums_none _ 0 _ _).rd, hb0, hz⟩
        · simp only [Value.slice.injEq] at hv
          obtain ⟨rfl, -, rfl⟩ := hv
          have hH : Go.Sort.Holds (Value.int .i64) wr g 0 zs.toArray := holds_of_blockI hb (by simpa using h4)
          refine (Tryz.slices_Sort_int g 0 c zs wr hH (Array.getElem?_eq_some_iff.1 hb).1 (by omega)).mono ?_
          rintro e w' ⟨rfl, nn, os, rfl⟩
          have hs := ownsRow_sortedI (n := nn) (os := os) (ts := zs.mergeSort (fun x y => decide (x ≤ y))) (ss := zs) (List.length_mergeSort zs) hbase hb h1 h2 h3
          rw [HS.out] at hs ⊢
          have hb' := hb0.grown (grownBy_sortedI (w := wr) (g := g) (n := nn) (os := os) (L.map (·.1)).toArray) hz (fun j hj => by cases hj; exact hbase)
          exact ⟨rfl, (ow_of_row hs (by rw [List.length_map, hlen])).nums.rd, hb', hb'.size⟩)
      have HLEN := Lib.hid hlen
      clear hlen
      go_wp2_with fail
      refine HC.out.mono ?_
      rintro e w2 ⟨rfl, hrd, hb2, hz2⟩
      have HRD := Lib.hid hrd
      have HB2 := Lib.hid hb2
      have HO2 : Hid (mapAt w2 b n D) := Lib.hid (ownsMap_below HO.out hb2 hbl)
      clear hrd hb2 HC
      rw [HLEN.out] at HRD ⊢
      clear hzs HM HR hcs HLEN HS
      go_wp2
      go_loopw [5, 22] (fun lv iv wr => ∃ (i : Nat) (A4 : Option Addr) (c4 : Nat) (M : List FieldD), i ≤ L.length ∧ iv = .int .i64 i ∧ lv = .slice A4 M.length c4 ∧ M.length ≤ i ∧ Hid (M = L.take i) ∧ Hid (owE 55 2 fCells w2.heap.size wr (.slice A4 M.length c4) M) ∧ Hid (Below w2.heap.size w2 wr) ∧ w2.heap.size ≤ wr.heap.size) (fun _ iv _ => L.length - (intOf iv).toNat)
      case atStart => exact ⟨0, none, 0, [], Nat.zero_le _, rfl, rfl, Nat.le_refl _, Lib.hid rfl, Lib.hid (owE_none _ _ _ _ _), Lib.hid (Below.refl _ _), Nat.le_refl _⟩
      case round =>
        obtain ⟨i, A4, c4, M, hi', rfl, rfl, hMl, HM, HW, HB3, hz3⟩ := hrel
        by_cases hin : i < L.length
        · obtain ⟨x, hx⟩ : ∃ x, L[i]? = some x := ⟨_, List.getElem?_eq_getElem hin⟩
          have hxk : (L.map (·.1))[i]? = some x.1 := by rw [List.getElem?_map, hx]; rfl
          obtain ⟨p, off, hA, hp, d0⟩ := HRD.out.at (n := L.length) (by simpa using hxk)
          subst hA
          have d0 := (HB3.out.cell (p := ⟨p, off + i, none⟩) hp).trans d0
          have hmem := List.mem_of_getElem? hx
          have HX := Lib.hid (take_next hx)
          have HKX := Lib.hid (HK.out x hmem)
          have HAT := Lib.hid (HD.out.at_ x hmem)
          have HO3 : Hid (mapAt wr b n D) := Lib.hid (ownsMap_below HO2.out HB3.out (by omega))
          have g1 : (i : Int) < (L.length : Int) := by omega
          have g2 : 0 ≤ (i : Int) := by omega
          clear hx hxk hmem
          go_wp2_with (first
            | (at_lookup; refine look_text _ rfl _ _ 70 rfl 3 9 lawI Tryz.underlying70 Tryz.underlying9 (zeroS _) b n D rfl HO3.out _ _ rfl (Maps.keyOf_int_mk Tryz.underlying3 HKX.out) x.2 HAT.out ?_)
            | (at_builtin; refine app_elem fCells 2 (fun _ => rfl) (by decide) fCells_one 29 55 #[.int .i64 0, .string ⟨#[]⟩] 24 Tryz.underlying29 infoField rfl _ _ rfl (by rfl) w2.heap.size _ _ M x _ _ (by rfl) (by rfl) (by rfl) (by simp) HW.out (by unfold maxLen; omega) (by omega) (by first | omega | (simp; omega)) ?_))
          intro A5 c5 w5 hown5 hc5 hg5 _
          have hs5 : wr.heap.size + 1 ≤ w5.heap.size := by have := hg5.size; simpa using this
          have HB5 : Hid (Below w2.heap.size w2 w5) := Lib.hid ((HB3.out.alloc hz3 _).grown hg5 (by simp; omega) (fun g hg => (HW.out.lt g hg).1))
          have HO5 := Lib.hid hown5
          clear hown5 hg5
          go_wp2
          go_roundw
          case rel => exact ⟨i + 1, A5, c5, M ++ [x], by omega, by go_num, by rw [List.length_append]; rfl, by simp; omega, Lib.hid (by rw [HX.out, ← HM.out]), Lib.hid (by rw [List.length_append]; exact HO5.out), HB5, by omega⟩
          case measure => simp [intOf] <;> omega
        · obtain rfl : i = L.length := by omega
          have HLL : Hid (M = L) := Lib.hid (by have := HM.out; rwa [List.take_length] at this)
          go_wp2
          go_ret
          refine ⟨_, rfl, ?_, HB2.out.trans (HB3.out.mono hz2)⟩
          have hq := mine_own HW.out (Nat.le_refl _)
          rw [HLL.out] at hq ⊢
          exact hq.mono hz2 (Nat.le_refl _)
    · intro x s w2 cnt2 hwx hwc hlx hat hrg2 hlt hg2 hs2 hen
      have HRW2 : Hid (owE 3 1 iCells w.heap.size w2 (.slice A zs.length c) zs) := Lib.hid (HR.out.grown hg2 (fun g hg e => row_iter HR.out hrg (by rw [hg]; exact e)))
      have hz2 : wr.heap.size ≤ w2.heap.size := hg2.size
      have HB2 : Hid (Below w.heap.size w w2) := Lib.hid (HB.out.grown hg2 hz (fun j hj => by cases hj; exact Nat.le_refl _))
      have HM2 := Lib.hid (HM.out.step hlx hat)
      have hd := hrg.left_eq
      clear hs2 hat hlx hg2
      go_wp2_with (at_builtin; refine app_elem iCells 1 (fun _ => rfl) (by decide) iCells_one 53 3 #[.int .i64 0] 8 Tryz.underlying53 infoInt rfl _ _ rfl (by rfl) w.heap.size _ _ zs x _ _ (by rfl) (by rfl) (by rfl) (by simp) HRW2.out (by unfold maxLen; omega) (by omega) (by first | omega | (simp; omega)) ?_)
      intro A3 c3 w3 hown3 hc3 hg3 _
      have hz3 : w2.heap.size + 1 ≤ w3.heap.size := by have := hg3.size; simpa using this
      have hrg3 := (hrg2.alloc _).kept hg3 (fun e => by have := (HRW2.out.lt b e.symm).1; omega) (row_iter HRW2.out hrg2)
      have HB3 : Hid (Below w.heap.size w w3) := Lib.hid ((HB2.out.alloc (by omega) _).grown hg3 (by simp; omega) (fun g hg => (HRW2.out.lt g hg).1))
      have HO3 := Lib.hid hown3
      clear hown3 hg3
      go_wp2
      go_roundw
      case rel => exact ⟨_, cnt2, A3, c3, zs ++ [x], hrg3, by simp; omega, by rw [List.length_append]; rfl, Lib.hid (by rw [List.length_append]; exact HO3.out), HM2, HB3, by omega⟩
      case measure => rw [hrg3.left_eq, hd]; exact hlt
end Go.Proofs.YtkkbhlaakhkjnaaGreatDoor
/- WithField of the program; no conditions on the message but its size. -/
set_option linter.unusedVariables false
namespace Go.Proofs.YtkkbhlaakhkjnaaGreatDoor
open Go.ChangeShapes Go.WideShapes Go.ChangeAt Go.RowKit
open Go.Maps (Keyed IsMap)

set_option maxRecDepth 100000 in
theorem ba_len (no : Int) (l : List FieldD) : (below no l).length + (above no l).length ≤ l.length := by
  induction l with
  | nil => simp [below, above]
  | cons x l ih =>
    unfold below above at ih ⊢
    rw [List.filter_cons, List.filter_cons]
    by_cases h1 : x.1 < no
    · have h2 : ¬ no < x.1 := by omega
      simp only [h1, h2, decide_true, decide_false, if_true, Bool.false_eq_true, if_false, List.length_cons]; omega
    · by_cases h2 : no < x.1
      · simp only [h1, h2, decide_true, decide_false, if_true, Bool.false_eq_true, if_false, List.length_cons]; omega
      · simp only [h1, h2, decide_false, Bool.false_eq_true, if_false, List.length_cons]; omega
set_option maxRecDepth 100000 in
theorem withMsg_len (m : MsgD) (no : Int) (s : ByteArray) : (withMsg m no s).2.length ≤ m.2.length + 1 := by
  unfold withMsg
  split
  · next h =>
    unfold withOk at h
    rw [Bool.and_eq_true] at h
    have hm := h.1
    unfold msgOk at hm
    rw [Bool.and_eq_true] at hm
    obtain ⟨-, hp⟩ := listOk_all hm.2
    have := ba_len no m.2
    show (withF no s m.2).length ≤ _
    rw [withF_asc hp, List.length_append, List.length_cons]
    omega
  · simp
set_option maxRecDepth 100000 in
theorem asc_new {l : List FieldD} (h : asc l) {i : Nat} {x : FieldD} (hx : l[i]? = some x) : ∀ y ∈ l.take i, y.1 ≠ x.1 := by
  obtain ⟨hi, rfl⟩ := List.getElem?_eq_some_iff.1 hx
  intro y hy
  obtain ⟨j, hj, rfl⟩ := List.mem_iff_getElem.1 hy
  rw [List.length_take] at hj
  rw [List.getElem_take]
  have := List.pairwise_iff_getElem.1 h j i (by omega) hi (by omega)
  omega
set_option maxRecDepth 100000 in
set_option maxHeartbeats 3200000 in
theorem textsOf_any (hi : Nat) (v : Value) (m : MsgD) (w : World) (hn : m.2.length ≤ 1048576) (hs : ∀ x ∈ m.2, x.2.size ≤ maxLen) (hL : asc m.2) (hk : ∀ x ∈ m.2, (Lit.int .i64 x.1).wf = true) (h : FieldsR.rd hi w [v] m.2) (hh : hi ≤ w.heap.size) :
    Calls Tryz.prog 50 #[.agg #[.string m.1, v]] w fun e w' => ∃ D, e = .returned (.map (some (w.heap.size + 1))) ∧ mapAt w' (w.heap.size + 1) m.2.length D ∧ mapIs D m.2 ∧ Below w.heap.size w w' := by
  obtain ⟨A, c, rfl, hc, h'⟩ := fields_rd h
  have HR := Lib.hid h'
  have HS := Lib.hid hs
  have HL := Lib.hid hL
  have HK := Lib.hid hk
  clear h' hs hL hk h
  have hmm := @run_makeMap Tryz.prog
  go_enter Tryz.func50, Tryz.ntmps50
  go_wp2
  have HB0 : Hid (Below w.heap.size w ((w.alloc (.cells #[.string m.1, .slice A m.2.length c] 31)).alloc (.map #[] 0))) := Lib.hid (((Below.refl _ _).alloc (Nat.le_refl _) _).alloc (by simp) _)
  have HM0 : Hid (mapAt ((w.alloc (.cells #[.string m.1, .slice A m.2.length c] 31)).alloc (.map #[] 0)) (w.heap.size + 1) 0 (.map [])) := Lib.hid (by simpa using World.ownsMap_made (w.alloc (.cells #[.string m.1, .slice A m.2.length c] 31)) Tryz.prog 3 (plainElem (H := Unit) Tryz.prog 9))
  generalize hW0 : (w.alloc (.cells #[.string m.1, .slice A m.2.length c] 31)).alloc (.map #[] 0) = W0 at HB0 HM0 ⊢
  have hs0 : w.heap.size + 2 ≤ W0.heap.size := by rw [← hW0]; simp
  clear hW0 hmm
  go_loopw [10] (fun iv wr => ∃ (i : Nat) (D : DataW Unit), i ≤ m.2.length ∧ iv = .int .i64 i ∧ Hid (mapAt wr (w.heap.size + 1) i D) ∧ Hid (mapIs D (m.2.take i)) ∧ Hid (Below w.heap.size w wr) ∧ w.heap.size + 2 ≤ wr.heap.size) (fun iv _ => m.2.length - (intOf iv).toNat)
  case atStart => exact ⟨0, _, Nat.zero_le _, rfl, HM0, Lib.hid mapIs.start, HB0, hs0⟩
  case round =>
    obtain ⟨i, D, hi', rfl, HM, HI, HB, hz⟩ := hrel
    by_cases hin : i < m.2.length
    · obtain ⟨x, hx⟩ : ∃ x, m.2[i]? = some x := ⟨_, List.getElem?_eq_getElem hin⟩
      obtain ⟨b, off, rfl, hbl, c0, c1⟩ := HR.out i x hx
      have hmem := List.mem_of_getElem? hx
      have HXS := Lib.hid (HS.out x hmem)
      have HXK := Lib.hid (HK.out x hmem)
      have HI2 := Lib.hid (HI.out.snoc (asc_new HL.out hx))
      have HX := Lib.hid (take_next hx)
      have c0 := (HB.out.cell (p := ⟨b, off + i * 2, none⟩) (show b < w.heap.size by omega)).trans c0
      have c1 := (HB.out.cell (p := ⟨b, off + i * 2 + 1, none⟩) (show b < w.heap.size by omega)).trans c1
      have g1 : (i : Int) < (m.2.length : Int) := by omega
      have g2 : 0 ≤ (i : Int) := by omega
      clear hx hmem
      go_wp2_with (at_mapUpdate; refine wpList_mapUpdate_own _ rfl _ _ _ 70 rfl 3 9 lawI Tryz.underlying70 _ (w.heap.size + 1) i D rfl (HM.out.alloc _) (by unfold maxLen; omega) _ _ _ rfl rfl (Maps.keyOf_int_mk Tryz.underlying3 HXK.out) _ [] (plainElem_string Tryz.underlying9 HXS.out) ?_)
      intro w1 hown1 hg1
      have hz1 : wr.heap.size + 1 ≤ w1.heap.size := by have := hg1.size; simpa using this
      have HB1 : Hid (Below w.heap.size w w1) := Lib.hid ((HB.out.alloc (by omega) _).grown hg1 (by simp; omega) (fun j hj => by cases hj; omega))
      have HO1 := Lib.hid hown1
      clear hown1 hg1
      go_wp2
      go_roundw
      case rel => exact ⟨i + 1, _, by omega, by go_num, HO1, Lib.hid (by rw [HX.out]; exact HI2.out), HB1, by omega⟩
      case measure => simp [intOf] <;> omega
    · obtain rfl : i = m.2.length := by omega
      have HII : Hid (mapIs D m.2) := Lib.hid (by have := HI.out; rwa [List.take_length] at this)
      go_wp2
      go_ret
      exact ⟨D, rfl, HM.out, HII.out, HB.out⟩
set_option maxRecDepth 100000 in
set_option maxHeartbeats 8000000 in
theorem implWithField_any (hi : Nat) (v : Value) (m : MsgD) (no : Int) (s : ByteArray) (w : World) (hm : m.1.size ≤ maxLen) (hn : m.2.length ≤ 1048576) (hs : ∀ x ∈ m.2, x.2.size ≤ maxLen) (hss : s.size ≤ maxLen) (h : FieldsR.rd hi w [v] m.2) (hh : hi ≤ w.heap.size) :
    Calls Tryz.prog 23 #[.agg #[.string m.1, v], .int .i64 no, .string s] w (msgRes (withOk m no s) (withMsg m no s) w) := by
  obtain ⟨A, c, rfl, hc, h'⟩ := fields_rd h
  have HR := Lib.hid h
  have HS := Lib.hid hs
  have HOK := Lib.hid (fun (W : World) (hW : Below w.heap.size w W) => implMsgOk_any hi (.slice A m.2.length c) m W hm hn hs (Rep.below (R := FieldsR) h hW hh) (Nat.le_trans hh hW.size))
  have HFO := Lib.hid (fun (W : World) => implFieldOk_any no s W hss)
  have HSS := Lib.hid hss
  clear h' hs h hss
  have HB0 : Hid (∀ o1 o2, Below w.heap.size w ((w.alloc o1).alloc o2)) := Lib.hid fun o1 o2 => ((Below.refl _ _).alloc (Nat.le_refl _) o1).alloc (by simp) o2
  cases hok : msgOk m
  · have HM : Hid (withOk m no s = false ∧ withMsg m no s = (⟨#[]⟩, [])) := Lib.hid (by simp [withOk, withMsg, hok])
    rw [HM.out.1, HM.out.2]
    rw [hok] at HOK
    clear hok
    go_enter Tryz.func23, Tryz.ntmps23
    go_wp2_with fail
    refine (HOK.out _ (HB0.out _ _)).mono ?_
    rintro e w1 ⟨rfl, hb⟩
    obtain ⟨hcc, hff⟩ := bcell hb
    have hz : w.heap.size + 1 + 1 ≤ w1.heap.size := by have := hb.size; simpa using this
    have HB : Hid (Below w.heap.size w w1) := Lib.hid ((HB0.out _ _).trans (hb.mono (by simp; omega)))
    clear hb
    go_wp2
    refine bodyPost_ret (v := .tuple #[.agg #[.string ⟨#[]⟩, .slice none 0 0], .bool false]) (by simp [results, Tryz.results23, go_sem, hcc]) rfl ⟨_, rfl, mine_none _ _ _, ?_⟩
    exact (HB.out.setCell (p := ⟨_, _, none⟩) (show _ ≤ w.heap.size + 1 by omega) _).setCell (p := ⟨_, _, none⟩) (show _ ≤ w.heap.size + 1 by omega) _
  cases hfo : fOk no s
  · have HM : Hid (withOk m no s = false ∧ withMsg m no s = (⟨#[]⟩, [])) := Lib.hid (by simp [withOk, withMsg, hfo])
    rw [HM.out.1, HM.out.2]
    rw [hok] at HOK
    rw [hfo] at HFO
    clear hok hfo
    go_enter Tryz.func23, Tryz.ntmps23
    go_wp2_with fail
    refine (HOK.out _ (HB0.out _ _)).mono ?_
    rintro e w1 ⟨rfl, hb⟩
    have hz : w.heap.size + 1 + 1 ≤ w1.heap.size := by have := hb.size; simpa using this
    have HRC : Hid (∀ wr, Below w1.heap.size w1 wr → wr.cell? ⟨w.heap.size + 1, 0, none⟩ = some (.string ⟨#[]⟩) ∧ wr.cell? ⟨w.heap.size + 1, 1, none⟩ = some (.slice none 0 0) ∧ wr.frozen? ⟨w.heap.size + 1, 0, none⟩ = false ∧ wr.frozen? ⟨w.heap.size + 1, 1, none⟩ = false) := Lib.hid fun wr hw =>
      ⟨(hw.cell (p := ⟨_, 0, none⟩) (show w.heap.size + 1 < _ by omega)).trans ((hb.cell (p := ⟨w.heap.size + 1, 0, none⟩) (by simp)).trans (by simp)), (hw.cell (p := ⟨_, 1, none⟩) (show w.heap.size + 1 < _ by omega)).trans ((hb.cell (p := ⟨w.heap.size + 1, 1, none⟩) (by simp)).trans (by simp)), (hw.frozen (p := ⟨_, 0, none⟩) (show w.heap.size + 1 < _ by omega)).trans ((hb.frozen (p := ⟨w.heap.size + 1, 0, none⟩) (by simp)).trans (by simp)), (hw.frozen (p := ⟨_, 1, none⟩) (show w.heap.size + 1 < _ by omega)).trans ((hb.frozen (p := ⟨w.heap.size + 1, 1, none⟩) (by simp)).trans (by simp))⟩
    have HB : Hid (Below w.heap.size w w1) := Lib.hid ((HB0.out _ _).trans (hb.mono (by simp; omega)))
    clear hb
    go_wp2_with fail
    refine (HFO.out _).mono ?_
    rintro e w2 ⟨rfl, hb2⟩
    obtain ⟨r0, r1, f0, f1⟩ := HRC.out w2 hb2
    have HB2 : Hid (Below w.heap.size w w2) := Lib.hid (HB.out.trans (hb2.mono (by omega)))
    clear hb2
    go_wp2
    refine bodyPost_ret (v := .tuple #[.agg #[.string ⟨#[]⟩, .slice none 0 0], .bool false]) (by simp [results, Tryz.results23, go_sem, r0, r1]) rfl ⟨_, rfl, mine_none _ _ _, ?_⟩
    exact (HB2.out.setCell (p := ⟨_, _, none⟩) (show _ ≤ w.heap.size + 1 by omega) _).setCell (p := ⟨_, _, none⟩) (show _ ≤ w.heap.size + 1 by omega) _
  have HM : Hid (withOk m no s = true ∧ withMsg m no s = (m.1, withF no s m.2)) := Lib.hid (by simp [withOk, withMsg, hok, hfo])
  rw [HM.out.1, HM.out.2]
  have hmo := hok
  unfold msgOk at hmo
  rw [Bool.and_eq_true] at hmo
  obtain ⟨hfall, hasc⟩ := listOk_all hmo.2
  have HASC : Hid (asc m.2) := Lib.hid hasc
  have hwf : ∀ x : FieldD, fOk x.1 x.2 = true → (Lit.int .i64 x.1).wf = true := fun x hx => by
    have := fOk_range hx
    exact WalkArith.wf_i64 (by omega)
  have HWF : Hid (∀ x ∈ m.2, (Lit.int .i64 x.1).wf = true) := Lib.hid fun x hx => hwf x (hfall x hx)
  have HNW : Hid ((Lit.int .i64 no).wf = true) := Lib.hid (hwf (no, s) hfo)
  rw [hok] at HOK
  rw [hfo] at HFO
  have HTX := Lib.hid (fun (W : World) (hW : Below w.heap.size w W) => textsOf_any hi (.slice A m.2.length c) m W hn HS.out HASC.out HWF.out (Rep.below (R := FieldsR) HR.out hW hh) (Nat.le_trans hh hW.size))
  clear hok hfo hmo hfall hasc hwf
  go_enter Tryz.func23, Tryz.ntmps23
  go_wp2_with fail
  refine (HOK.out _ (HB0.out _ _)).mono ?_
  rintro e w1 ⟨rfl, hb⟩
  have hz : w.heap.size + 1 + 1 ≤ w1.heap.size := by have := hb.size; simpa using this
  have HRC : Hid (∀ wr, Below (w.heap.size + 2) w1 wr → wr.cell? ⟨w.heap.size + 1, 0, none⟩ = some (.string ⟨#[]⟩) ∧ wr.cell? ⟨w.heap.size + 1, 1, none⟩ = some (.slice none 0 0) ∧ wr.frozen? ⟨w.heap.size + 1, 0, none⟩ = false ∧ wr.frozen? ⟨w.heap.size + 1, 1, none⟩ = false ∧ wr.cell? ⟨w.heap.size, 0, none⟩ = some (.string m.1) ∧ wr.cell? ⟨w.heap.size, 1, none⟩ = some (.slice A m.2.length c)) := Lib.hid fun wr hw =>
    ⟨(hw.cell (p := ⟨_, 0, none⟩) (show w.heap.size + 1 < _ by omega)).trans ((hb.cell (p := ⟨w.heap.size + 1, 0, none⟩) (by simp)).trans (by simp)), (hw.cell (p := ⟨_, 1, none⟩) (show w.heap.size + 1 < _ by omega)).trans ((hb.cell (p := ⟨w.heap.size + 1, 1, none⟩) (by simp)).trans (by simp)), (hw.frozen (p := ⟨_, 0, none⟩) (show w.heap.size + 1 < _ by omega)).trans ((hb.frozen (p := ⟨w.heap.size + 1, 0, none⟩) (by simp)).trans (by simp)), (hw.frozen (p := ⟨_, 1, none⟩) (show w.heap.size + 1 < _ by omega)).trans ((hb.frozen (p := ⟨w.heap.size + 1, 1, none⟩) (by simp)).trans (by simp)),
     (hw.cell (p := ⟨_, 0, none⟩) (show w.heap.size < _ by omega)).trans ((hb.cell (p := ⟨w.heap.size, 0, none⟩) (by simp; omega)).trans (by simp)), (hw.cell (p := ⟨_, 1, none⟩) (show w.heap.size < _ by omega)).trans ((hb.cell (p := ⟨w.heap.size, 1, none⟩) (by simp; omega)).trans (by simp))⟩
  have HB : Hid (Below w.heap.size w w1) := Lib.hid ((HB0.out _ _).trans (hb.mono (by simp; omega)))
  clear hb
  go_wp2_with fail
  refine (HFO.out _).mono ?_
  rintro e w2 ⟨rfl, hb2⟩
  have hz2 : w1.heap.size ≤ w2.heap.size := hb2.size
  have HB2 : Hid (Below (w.heap.size + 2) w1 w2) := Lib.hid (hb2.mono (by omega))
  clear hb2
  obtain ⟨r0, r1, f0, f1, x0, x1⟩ := HRC.out w2 HB2.out
  go_wp2_with fail
  refine (HTX.out w2 (HB.out.trans (HB2.out.mono (by omega)))).mono ?_
  rintro e w3 ⟨D, rfl, hown, hD, hb3⟩
  have hz3 : w2.heap.size ≤ w3.heap.size := hb3.size
  have HB3 : Hid (Below (w.heap.size + 2) w1 w3) := Lib.hid (HB2.out.trans (hb3.mono (by omega)))
  have HO3 := Lib.hid hown
  have HD3 := Lib.hid hD
  have hmb := hown.lt
  clear hown hD hb3 r0 r1 f0 f1 x0 x1
  obtain ⟨M, hM⟩ : ∃ M, M = w2.heap.size + 1 := ⟨_, rfl⟩
  rw [← hM] at HO3 hmb ⊢
  have hMl : w.heap.size + 2 ≤ M := by omega
  clear hM
  go_wp2_with (at_mapUpdate; refine wpList_mapUpdate_own _ rfl _ _ _ 70 rfl 3 9 lawI Tryz.underlying70 _ M m.2.length D rfl HO3.out (by unfold maxLen; omega) _ _ _ rfl rfl (Maps.keyOf_int_mk Tryz.underlying3 HNW.out) _ [] (plainElem_string Tryz.underlying9 HSS.out) ?_)
  intro w4 hown4 hg4
  have hz4 : w3.heap.size ≤ w4.heap.size := hg4.size
  have HB4 : Hid (Below (w.heap.size + 2) w1 w4) := Lib.hid (HB3.out.grown hg4 (by omega) (fun j hj => by cases hj; exact hMl))
  have HO4 := Lib.hid hown4
  have HD4 := Lib.hid (HD3.out.put no s (withF_mem HASC.out no s))
  have HUP := Lib.hid (withF_up HASC.out no s)
  have HWK : Hid (∀ x ∈ withF no s m.2, (Lit.int .i64 x.1).wf = true) := Lib.hid fun x hx => by
    rcases (withF_mem HASC.out no s x).1 hx with rfl | hx
    · exact HNW.out
    · exact HWF.out x hx.1
  have hwl : (withF no s m.2).length ≤ 2 * m.2.length + 1 := by
    have := wst_len no s m.2 m.2.length
    unfold withF
    split
    · omega
    · rw [List.length_append]; simp; omega
  clear hown4 hg4
  obtain ⟨r0, r1, f0, f1, x0, x1⟩ := HRC.out w4 HB4.out
  go_wp2
  have HFS : Hid (∀ W, W.heap = w4.heap → Calls Tryz.prog 51 #[.map (some M)] W fun e w' => ∃ u, e = .returned u ∧ FieldsR.mine W.heap.size w'.heap.size w' [u] (withF no s m.2) ∧ Below W.heap.size W w') := Lib.hid fun W hW =>
    implFieldsOf_any M _ _ _ W (by obtain ⟨es, cl, h1, rest⟩ := HO4.out; exact ⟨es, cl, by rw [hW]; exact h1, rest⟩) HD4.out HUP.out (by omega) (by omega) HWK.out
  have zD : w4.drew.heap.size = w4.heap.size := rfl
  go_region_held3 (fun V => V.cell? ⟨w.heap.size, 0, none⟩ = some (.string m.1)) (go_keep) ((go_at_call 51; refine (HFS.out w4.drew rfl).mono ?_; rintro e w5 ⟨u5, rfl, hu5, hb5⟩; obtain ⟨A5, c5, rfl, -⟩ := Rep.slice_form hu5.rd; have hb5 : Below w4.heap.size w4.drew w5 := hb5; have q0 := (hb5.cell (p := ⟨w.heap.size, 0, none⟩) (show w.heap.size < _ by omega)).trans x0; have q1 := (hb5.cell (p := ⟨w.heap.size + 1, 0, none⟩) (show w.heap.size + 1 < _ by omega)).trans r0; have q2 := (hb5.cell (p := ⟨w.heap.size + 1, 1, none⟩) (show w.heap.size + 1 < _ by omega)).trans r1; have q3 := (hb5.frozen (p := ⟨w.heap.size + 1, 0, none⟩) (show w.heap.size + 1 < _ by omega)).trans f0; have q4 := (hb5.frozen (p := ⟨w.heap.size + 1, 1, none⟩) (show w.heap.size + 1 < _ by omega)).trans f1))
  have hz5 : w4.heap.size ≤ w5.heap.size := hb5.size
  have HB5 : Hid (Below w.heap.size w w5) := Lib.hid (HB.out.trans (((HB4.out.trans (below_drew w4 _)).trans (hb5.mono (by omega))).mono (by omega)))
  have HU5 : Hid (FieldsR.mine w4.heap.size w5.heap.size w5 [.slice A5 (withF no s m.2).length c5] (withF no s m.2)) := Lib.hid hu5
  clear hb5 hu5
  go_wp2
  refine bodyPost_ret (v := .tuple #[.agg #[.string m.1, .slice A5 (withF no s m.2).length c5], .bool true]) (by simp [results, Tryz.results23, go_sem, q1, q2]) rfl ⟨_, rfl, ?_, ?_⟩
  · have ht := ((Turned.refl (w.heap.size + 1) (w.heap.size + 2) w5).set (b := w.heap.size + 1) 0 (.string m.1) (by omega) (by omega)).set (b := w.heap.size + 1) 1 (.slice A5 (withF no s m.2).length c5) (by omega) (by omega)
    exact (HU5.out.turned ht (.inr (by omega)) (Nat.le_refl _)).mono (by omega) ht.size
  · exact (HB5.out.setCell (p := ⟨_, _, none⟩) (show _ ≤ w.heap.size + 1 by omega) _).setCell (p := ⟨_, _, none⟩) (show _ ≤ w.heap.size + 1 by omega) _
end Go.Proofs.YtkkbhlaakhkjnaaGreatDoor
/- Parse of the reference; no conditions. -/
set_option linter.unusedVariables false
namespace Go.Proofs.YtkkbhlaakhkjnaaGreatDoor
open Go.ChangeShapes Go.WideShapes Go.ChangeAt Go.RowKit

/-- the result's cell of a message, behind what makes memory -/
structure cellMsg (b : Nat) (w : World) : Prop where
  c0 : w.cell? ⟨b, 0, none⟩ = some (.string ⟨#[]⟩)
  c1 : w.cell? ⟨b, 1, none⟩ = some (.slice none 0 0)
  f0 : w.frozen? ⟨b, 0, none⟩ = false
  f1 : w.frozen? ⟨b, 1, none⟩ = false
set_option maxRecDepth 100000 in
theorem cellMsg.new (w : World) : cellMsg w.heap.size (w.alloc (.cells #[.string ⟨#[]⟩, .slice none 0 0] 31)) := ⟨by simp, by simp, by simp, by simp⟩
set_option maxRecDepth 100000 in
theorem cellMsg.keep {b : Nat} {w w' : World} (h : cellMsg b w) (hk : w'.heap[b]? = w.heap[b]?) : cellMsg b w' := ⟨(cell_keep hk).trans h.c0, (cell_keep hk).trans h.c1, (frozen_keep hk).trans h.f0, (frozen_keep hk).trans h.f1⟩
set_option maxRecDepth 100000 in
theorem cellMsg.below {b B : Nat} {w w' : World} (h : cellMsg b w) (hb : Below B w w') (hB : b < B) : cellMsg b w' := h.keep (hb.block b hB)

set_option maxRecDepth 100000 in
set_option maxHeartbeats 16000000 in
theorem specParse_any (hi : Nat) (v : Value) (l : List Int) (w : World) (hn : l.length ≤ 1048576) (hl : isBytes l) (h : rd .u8 hi w v l) (hhi : hi ≤ w.heap.size) :
    Calls Tryz.prog 18 #[v] w (codeRes (parseRes l) w) := by
  obtain ⟨A, c, rfl, hc⟩ := h.form
  have H := Lib.hid h
  have HL := Lib.hid hl
  have HG1 := Lib.hid (fun (W : World) (hW : Below w.heap.size w W) => specGetBcd_any hi _ l 0 4 W (by omega) (by decide) hl (h.below hW hhi) (Nat.le_trans hhi hW.size))
  have HG2 := Lib.hid (fun (W : World) (hW : Below w.heap.size w W) => specNos_any hi _ l W (by omega) hl (h.below hW hhi) (Nat.le_trans hhi hW.size))
  clear h
  have HB0 : Hid (∀ o, Below w.heap.size w (w.alloc o)) := Lib.hid fun o => (Below.refl _ _).alloc (Nat.le_refl _) o
  cases hg : gOk l 0 4
  · have HK : Hid (parseRes l = ((⟨#[]⟩, []), 1)) := Lib.hid (by simp [parseRes, hg])
    have HE := Lib.hid (gRes_no hg)
    clear hg
    go_enter Tryz.func18, Tryz.ntmps18
    go_wp2_with fail
    refine (HG1.out _ (HB0.out _)).mono ?_
    rw [HE.out]
    rintro e w1 ⟨rfl, hb⟩
    obtain ⟨r0, r1, f0, f1⟩ := (cellMsg.new w).below hb (by simp)
    have HB1 : Hid (Below w.heap.size w w1) := Lib.hid ((HB0.out _).trans (hb.mono (by simp)))
    clear hb
    go_wp2
    refine bodyPost_ret (v := .tuple #[.agg #[.string ⟨#[]⟩, .slice none 0 0], .int .i64 1]) (by simp [results, Tryz.results18, go_sem, r0, r1]) rfl ?_
    rw [HK.out]
    exact ⟨_, rfl, mine_none _ _ _, (HB1.out.setCell (p := ⟨_, _, none⟩) (Nat.le_refl _) _).setCell (p := ⟨_, _, none⟩) (Nat.le_refl _) _⟩
  have HE : Hid (gRes l 0 4 = .returned (.tuple #[.string ⟨(gTxt l 0 4).toArray⟩, .int .i64 (gEnd l 0 4), .bool true])) := Lib.hid (by unfold gRes; rw [hg])
  have HGK := Lib.hid hg
  clear hg
  cases ho : nosOk l
  · have HK : Hid (parseRes l = ((⟨#[]⟩, []), 2)) := Lib.hid (by simp [parseRes, HGK.out, ho])
    have HO := Lib.hid ho
    clear ho
    go_enter Tryz.func18, Tryz.ntmps18
    go_wp2_with fail
    refine (HG1.out _ (HB0.out _)).mono ?_
    rw [HE.out]
    rintro e w1 ⟨rfl, hb⟩
    have HC1 := Lib.hid ((cellMsg.new w).below hb (by simp))
    have HB1 : Hid (Below w.heap.size w w1) := Lib.hid ((HB0.out _).trans (hb.mono (by simp)))
    have hz1 : w.heap.size + 1 ≤ w1.heap.size := by have := hb.size; simpa using this
    clear hb
    go_wp2_with fail
    refine (HG2.out _ HB1.out).mono ?_
    rintro e w2 ⟨v2, rfl, hv2, hb2⟩
    rw [HO.out]
    obtain ⟨A2, c2, rfl, hc2⟩ := hv2.form
    obtain ⟨r0, r1, f0, f1⟩ := HC1.out.below hb2 (by omega)
    have HB2 : Hid (Below w.heap.size w w2) := Lib.hid (HB1.out.trans (hb2.mono (by omega)))
    clear hb2 hv2
    go_wp2
    refine bodyPost_ret (v := .tuple #[.agg #[.string ⟨#[]⟩, .slice none 0 0], .int .i64 2]) (by simp [results, Tryz.results18, go_sem, r0, r1]) rfl ?_
    rw [HK.out]
    exact ⟨_, rfl, mine_none _ _ _, (HB2.out.setCell (p := ⟨_, _, none⟩) (Nat.le_refl _) _).setCell (p := ⟨_, _, none⟩) (Nat.le_refl _) _⟩
  have HP : Hid (∀ r, pst l (nosL l) (nosE l) (nosL l).length = r → parseRes l = (match r with | none => ((⟨#[]⟩, []), 3) | some (e, L) => if e = l.length then ((⟨(gTxt l 0 4).toArray⟩, L), 0) else ((⟨#[]⟩, []), 4))) := Lib.hid (fun r hr => by unfold parseRes; rw [HGK.out, ho, hr]; rfl)
  have HO := Lib.hid ho
  have hel := nosE_le l
  have hnl := nosL_len l
  clear ho
  generalize (⟨(gTxt l 0 4).toArray⟩ : ByteArray) = mti at HE HP
  go_enter Tryz.func18, Tryz.ntmps18
  go_wp2_with fail
  refine (HG1.out _ (HB0.out _)).mono ?_
  rw [HE.out]
  rintro e w1 ⟨rfl, hb⟩
  have HC1 := Lib.hid ((cellMsg.new w).below hb (by simp))
  have HB1 : Hid (Below w.heap.size w w1) := Lib.hid ((HB0.out _).trans (hb.mono (by simp)))
  have hz1 : w.heap.size + 1 ≤ w1.heap.size := by have := hb.size; simpa using this
  clear hb
  go_wp2_with fail
  refine (HG2.out _ HB1.out).mono ?_
  rintro e w2 ⟨v2, rfl, hv2, hb2⟩
  rw [HO.out]
  generalize nosL l = X at hv2 hnl HP
  generalize nosE l = e0 at hel HP ⊢
  obtain ⟨A2, c2, rfl, hc2⟩ := hv2.form
  have HC2 := Lib.hid (HC1.out.below hb2 (by omega))
  have HB2 : Hid (Below w.heap.size w w2) := Lib.hid (HB1.out.trans (hb2.mono (by omega)))
  have hz2 : w1.heap.size ≤ w2.heap.size := hb2.size
  have HV := Lib.hid hv2.rd
  clear hv2 hb2 HC1 HG1 HG2
  go_wp2
  go_loopw [8, 37] (fun av iv wr => ∃ (i : Nat) (a : Int) (A3 : Option Addr) (c3 : Nat) (L : List FieldD), i ≤ X.length ∧ iv = .int .i64 i ∧ av = .int .i64 a ∧ a ≤ l.length ∧ Hid (pst l X e0 i = some (a, L)) ∧ Hid (growMsg w2.heap.size mti w2 wr (.slice A3 L.length c3) L) ∧ w2.heap.size < wr.heap.size) (fun _ iv _ => X.length - (intOf iv).toNat)
  case atStart => exact ⟨0, e0, none, 0, [], Nat.zero_le _, rfl, rfl, hel, Lib.hid rfl, Lib.hid (growMsg.start _ _), by simp⟩
  case round =>
    obtain ⟨i, a, A3, c3, L, hi', rfl, rfl, hal, HS, HG, hz⟩ := hrel
    have hll : L.length ≤ i := pst_len i a L HS.out
    have HCr := Lib.hid (HC2.out.below HG.out.below (by omega))
    have HBr : Hid (Below w.heap.size w wr) := Lib.hid (HB2.out.trans (HG.out.below.mono (by omega)))
    by_cases hin : i < X.length
    · obtain ⟨x, hx⟩ : ∃ x, X[i]? = some x := ⟨_, List.getElem?_eq_getElem hin⟩
      obtain ⟨b, off, hA, hbl, d0⟩ := (HV.out.below HG.out.below (Nat.le_refl _)).at hx
      subst hA
      have HN := Lib.hid (pst_next l X e0 i x hx)
      have g1 : (i : Int) < (X.length : Int) := by omega
      have g2 : 0 ≤ (i : Int) := by omega
      have HF := Lib.hid (specGetField_any hi _ l a x wr hn (by omega) HL.out (H.out.below HBr.out hhi) (Nat.le_trans hhi HBr.out.size))
      clear hx
      cases hgf : gfOk l a x
      · have HK : Hid (parseRes l = ((⟨#[]⟩, []), 3)) := Lib.hid (by
          rw [HP.out none (pst_none (i := i + 1) (by omega) (by rw [HN.out, HS.out]; simp [pstep, hgf]))])
        have HR := Lib.hid (get_no hgf)
        clear hgf
        go_wp2_with fail
        refine HF.out.mono ?_
        rw [HR.out]
        rintro e w3 ⟨rfl, hb3⟩
        obtain ⟨r0, r1, f0, f1⟩ := HCr.out.below hb3 (by omega)
        have HB3 : Hid (Below w.heap.size w w3) := Lib.hid (HBr.out.trans (hb3.mono (by omega)))
        clear hb3
        go_wp2
        refine bodyPost_ret (v := .tuple #[.agg #[.string ⟨#[]⟩, .slice none 0 0], .int .i64 3]) (by simp [results, Tryz.results18, go_sem, r0, r1]) rfl ?_
        rw [HK.out]
        exact ⟨_, rfl, mine_none _ _ _, (HB3.out.setCell (p := ⟨_, _, none⟩) (Nat.le_refl _) _).setCell (p := ⟨_, _, none⟩) (Nat.le_refl _) _⟩
      · have hge := gfEnd_le hgf
        have HS1 : Hid (pst l X e0 (i + 1) = some (gfEnd l a x, L ++ [(x, gfTxt l a x)])) := Lib.hid (by rw [HN.out, HS.out]; simp [pstep, hgf])
        have HR := Lib.hid (get_yes hgf)
        clear hgf
        generalize gfEnd l a x = e1 at hge HS1 HR
        generalize gfTxt l a x = t1 at HS1 HR
        go_wp2_with fail
        refine HF.out.mono ?_
        rw [HR.out]
        rintro e w3 ⟨rfl, hb3⟩
        have hz3 : wr.heap.size ≤ w3.heap.size := hb3.size
        have HG3 : Hid (growMsg w2.heap.size mti w2 w3 (.slice A3 L.length c3) L) := Lib.hid (HG.out.keepBelow hb3)
        have hcell := HG3.out.cell1
        have hfree := HG3.out.free 1
        clear hb3
        go_wp2_with (at_builtin; refine app_elem fCells 2 (fun _ => rfl) (by decide) fCells_one 29 55 #[.int .i64 0, .string ⟨#[]⟩] 24 Tryz.underlying29 infoField rfl _ _ rfl (by rfl) (w2.heap.size + 1) _ _ L (x, t1) _ _ (by rfl) (by rfl) (by rfl) (by simp) HG3.out.own (by unfold maxLen; omega) (by omega) (by first | omega | (simp; omega)) ?_)
        intro A4 c4 w4 hown4 hc4 hg4 _
        obtain ⟨q4, k4⟩ := HG3.out.app_cell hg4
        have HG4 := Lib.hid (HG3.out.app hg4 hown4)
        have hz4 : w3.heap.size + 1 ≤ w4.heap.size := by have := hg4.size; simpa using this
        clear hown4 hg4
        go_wp2
        go_roundw
        case rel => exact ⟨i + 1, e1, A4, c4, L ++ [(x, t1)], by omega, by go_num, rfl, by omega, HS1, Lib.hid (by simpa using HG4.out), by simp [World.setCell]; omega⟩
        case measure => simp [intOf] <;> omega
    · obtain rfl : i = X.length := by omega
      obtain ⟨r0, r1, f0, f1⟩ := HCr.out
      by_cases hae : a = l.length
      · have HK : Hid (parseRes l = ((mti, L), 0)) := Lib.hid (by rw [HP.out _ HS.out]; simp [hae])
        subst hae
        have e0' := HG.out.cell0
        have e1' := HG.out.cell1
        have hne : w.heap.size ≠ w2.heap.size := by omega
        go_wp2
        refine bodyPost_ret (v := .tuple #[.agg #[.string mti, .slice A3 L.length c3], .int .i64 0]) (by simp [results, Tryz.results18, go_sem, r0, r1]) rfl ?_
        have HZ := HG.out.ret (w2 := w) (r := w.heap.size) (by omega) (Nat.le_refl _) HBr.out (.string mti) (.slice A3 L.length c3)
        rw [HK.out]
        exact ⟨_, rfl, HZ.1, HZ.2⟩
      · have HK : Hid (parseRes l = ((⟨#[]⟩, []), 4)) := Lib.hid (by rw [HP.out _ HS.out]; simp [hae])
        have hne' : (a != (l.length : Int)) = true := by simpa using hae
        clear hae
        go_wp2
        refine bodyPost_ret (v := .tuple #[.agg #[.string ⟨#[]⟩, .slice none 0 0], .int .i64 4]) (by simp [results, Tryz.results18, go_sem, r0, r1]) rfl ?_
        rw [HK.out]
        exact ⟨_, rfl, mine_none _ _ _, (HBr.out.setCell (p := ⟨_, _, none⟩) (Nat.le_refl _) _).setCell (p := ⟨_, _, none⟩) (Nat.le_refl _) _⟩
end Go.Proofs.YtkkbhlaakhkjnaaGreatDoor
/- The other way round: what GetBcd, GetLen, GetBits and GetField find is what PutBcd, PutLen, PutBits and PutField make of it. Plain facts; no conditions. -/
set_option linter.unusedVariables false
namespace Go.Proofs.YtkkbhlaakhkjnaaGreatDoor
open Go.ChangeShapes Go.WideShapes Go.ChangeAt Go.RowKit

set_option maxRecDepth 100000 in
theorem hexv_dec : ∀ h < 10, hexv (byteOf (48 + ((h : Nat) : Int))) = h ∧ isDig (byteOf (48 + ((h : Nat) : Int))) = true := by decide
set_option maxRecDepth 100000 in
theorem hexv_of {h : Int} (h0 : 0 ≤ h) (h1 : h ≤ 9) : hexv (byteOf (48 + h)) = h := by
  have := (hexv_dec h.toNat (by omega)).1
  rwa [Int.toNat_of_nonneg h0] at this
set_option maxRecDepth 100000 in
theorem small_at {p : List Int} (h : small p = true) (i : Nat) (hi : i < 2 * p.length) : halfAt p i ≤ 9 := by
  unfold small at h
  rw [List.all_eq_true] at h
  simpa using h i (by simpa using hi)
set_option maxRecDepth 100000 in
/-- the digits of packed bytes, packed again -/
theorem pairs_dec {p : List Int} (hb : isBytes p) (hs : small p = true) : pairs (hv ⟨(decN p (2 * p.length)).toArray⟩) p.length = p := by
  refine List.ext_getElem (by rw [pairs_len]) fun k h1 h2 => ?_
  have hk : k < p.length := h2
  have e : (pairs (hv ⟨(decN p (2 * p.length)).toArray⟩) p.length)[k] = (pairs (hv ⟨(decN p (2 * p.length)).toArray⟩) p.length).getD k 0 := by
    rw [List.getD_eq_getElem?_getD, List.getElem?_eq_getElem h1]; rfl
  rw [e, pairs_get _ _ _ hk]
  have hd : ∀ i, i < 2 * p.length → (hv ⟨(decN p (2 * p.length)).toArray⟩).getD i 0 = halfAt p i := fun i hi => by
    have hbd := half_bd hb i
    have h9 := small_at hs i hi
    unfold hv decN
    rw [List.getD_eq_getElem?_getD]
    simp only [List.map_map, List.getElem?_map]
    rw [List.getElem?_range hi]
    simp only [Option.map_some, Option.getD_some, Function.comp]
    exact hexv_of hbd.1 h9
  rw [hd _ (by omega), hd _ (by omega), half_even, half_odd]
  have : p.getD k 0 = p[k] := by rw [List.getD_eq_getElem?_getD, List.getElem?_eq_getElem hk]; rfl
  rw [this]
  have hz := hb p[k] (List.getElem_mem hk)
  omega
set_option maxRecDepth 100000 in
/-- PutBcd of what GetBcd finds -/
theorem bcd_of {l : List Int} {a n : Int} (hl : isBytes l) (h : gOk l a n = true) : bcdOk ⟨(gTxt l a n).toArray⟩ = true ∧ bcd ⟨(gTxt l a n).toArray⟩ = gPart l a n := by
  obtain ⟨hi, hs, hz⟩ := gOk_in h
  have hb := gIn_bd hi
  have hp := gPart_len hi
  have hpb := gPart_bytes hl a n
  obtain ⟨ht, hd⟩ := gTxt_ok hl h
  have hsz : (⟨(gTxt l a n).toArray⟩ : ByteArray).size = (gTxt l a n).length := rfl
  have hok : bcdOk ⟨(gTxt l a n).toArray⟩ = true := (bcdOk_iff _).2 ⟨hd, by omega⟩
  refine ⟨hok, ?_⟩
  have hpad : padS ⟨(gTxt l a n).toArray⟩ = ⟨(decN (gPart l a n) (2 * (gPart l a n).length)).toArray⟩ := by
    unfold padS
    by_cases ho : n % 2 = 1
    · rw [if_pos (by omega)]
      obtain ⟨c, r, hcr, hc⟩ := dec_first hpb (by rw [hp]; omega)
      have h0 : halfAt (gPart l a n) 0 = 0 := by rcases hz with hz | hz
                                                 · omega
                                                 · exact hz
      have hc48 : c = 48 := by
        have : c.toNat = 48 := by omega
        exact UInt8.toNat_inj.1 (by rw [this]; rfl)
      have hg : gTxt l a n = r := by unfold gTxt; rw [if_pos h, if_pos ho, hcr]; rfl
      rw [hg, hcr, hc48]
      apply ByteArray.ext
      simp
    · rw [if_neg (by omega)]
      have hg : gTxt l a n = decN (gPart l a n) (2 * (gPart l a n).length) := by unfold gTxt; rw [if_pos h, if_neg ho]
      rw [hg]
  rw [bcd_yes hok, hpad]
  have hs2 : (⟨(decN (gPart l a n) (2 * (gPart l a n).length)).toArray⟩ : ByteArray).size = 2 * (gPart l a n).length := by
    show (decN (gPart l a n) (2 * (gPart l a n).length)).length = _
    rw [decN_len]
  rw [hs2, show 2 * (gPart l a n).length / 2 = (gPart l a n).length by omega]
  exact pairs_dec hpb hs
set_option maxRecDepth 100000 in
theorem wide2 : ∀ x < 10, ∀ y < 10, wideOf (narVal ⟨#[UInt8.ofNat (48 + x), UInt8.ofNat (48 + y)]⟩) 2 = [UInt8.ofNat (48 + x), UInt8.ofNat (48 + y)] := by decide +kernel
set_option maxRecDepth 100000 in
theorem wide3 : ∀ x < 10, ∀ y < 10, ∀ z < 10, wideOf (narVal ⟨#[UInt8.ofNat (48 + x), UInt8.ofNat (48 + y), UInt8.ofNat (48 + z)]⟩) 3 = [UInt8.ofNat (48 + x), UInt8.ofNat (48 + y), UInt8.ofNat (48 + z)] := by decide +kernel
set_option maxRecDepth 100000 in
theorem dig_form {c : UInt8} (h : isDig c = true) : ∃ x, x < 10 ∧ c = UInt8.ofNat (48 + x) := by
  have := (isDig_iff c).1 h
  refine ⟨c.toNat - 48, by omega, ?_⟩
  rw [show 48 + (c.toNat - 48) = c.toNat by omega, UInt8.ofNat_toNat]
set_option maxRecDepth 100000 in
theorem wide_of {t : List UInt8} {d : Int} (hd : d = 2 ∨ d = 3) (hl : (t.length : Int) = d) (ht : t.all isDig = true) : wideOf (narVal ⟨t.toArray⟩) d = t := by
  rw [List.all_eq_true] at ht
  rcases hd with rfl | rfl
  · match t, hl with
    | [a, b], _ =>
      obtain ⟨x, hx, rfl⟩ := dig_form (ht a (by simp))
      obtain ⟨y, hy, rfl⟩ := dig_form (ht b (by simp))
      exact wide2 x hx y hy
  · match t, hl with
    | [a, b, c], _ =>
      obtain ⟨x, hx, rfl⟩ := dig_form (ht a (by simp))
      obtain ⟨y, hy, rfl⟩ := dig_form (ht b (by simp))
      obtain ⟨z, hz, rfl⟩ := dig_form (ht c (by simp))
      exact wide3 x hx y hy z hz
set_option maxRecDepth 100000 in
/-- PutLen of what GetLen finds -/
theorem len_of {l : List Int} {a d : Int} (hl : isBytes l) (hd : d = 2 ∨ d = 3) (h : lenGot l a d = true) : putLen (lenVal l a d) d = gPart l a d ∧ lenEnd l a d = a + (gPart l a d).length := by
  have hld : lenDig d = true := by rcases hd with rfl | rfl <;> rfl
  have hg : gOk l a d = true := by unfold lenGot at h; simpa [hld] using h
  obtain ⟨ht, hdg⟩ := gTxt_ok hl hg
  obtain ⟨hok, hb⟩ := bcd_of hl hg
  have hall : (gTxt l a d).all isDig = true := by
    unfold digs at hdg
    simp only [Bool.and_eq_true] at hdg
    exact hdg.2
  constructor
  · unfold putLen lenVal
    rw [if_pos hld, if_pos hld, wide_of hd ht hall, hb]
  · unfold lenEnd gEnd
    rw [if_pos hld, if_pos hg, gPart_len (gOk_in hg).1]
    have := gIn_bd (gOk_in hg).1
    omega
/-- the bytes from a to e -/
def seg (l : List Int) (a e : Int) : List Int := (l.drop a.toNat).take (e - a).toNat
set_option maxRecDepth 100000 in
theorem seg_app (l : List Int) {a e f : Int} (h0 : 0 ≤ a) (h1 : a ≤ e) (h2 : e ≤ f) : seg l a e ++ seg l e f = seg l a f := by
  unfold seg
  have e1 : (f - a).toNat = (e - a).toNat + (f - e).toNat := by omega
  have e2 : e.toNat = a.toNat + (e - a).toNat := by omega
  rw [e1, List.take_add, List.drop_drop, e2]
set_option maxRecDepth 100000 in
theorem gPart_seg (l : List Int) {a n : Int} (h : gIn l a n = true) : gPart l a n = seg l a (a + (n + 1) / 2) := by
  have := gIn_bd h
  unfold gPart seg
  rw [show (a + (n + 1) / 2 - a).toNat = ((n + 1) / 2).toNat by omega]
set_option maxRecDepth 100000 in
theorem bytes_back {p : List Int} (h : isBytes p) : bytesL ⟨(p.map byteOf).toArray⟩ = p := by
  unfold bytesL
  show ((p.map byteOf).map fun c => (c.toNat : Int)) = p
  rw [List.map_map]
  conv => rhs; rw [← List.map_id p]
  refine List.map_congr_left fun z hz => ?_
  have := h z hz
  unfold byteOf
  simp only [Function.comp, id]
  rw [UInt8.toNat_ofNat']
  omega
set_option maxRecDepth 100000 in
theorem tPart_of {l : List Int} {a n : Int} (hl : isBytes l) (h : inR l a n = true) : bytesL ⟨(tPart l a n).toArray⟩ = seg l a (a + n) ∧ ((tPart l a n).length : Int) = n := by
  have hb := inR_yes h
  refine ⟨?_, by rw [tPart_len h]; omega⟩
  unfold tPart seg
  rw [bytes_back (fun z hz => hl z (List.mem_of_mem_drop (List.mem_of_mem_take hz))), show (a + n - a).toNat = n.toNat by omega]
set_option maxRecDepth 100000 in
/-- PutField of what GetField finds -/
theorem field_of {l : List Int} {a no : Int} (hl : isBytes l) (h : gfOk l a no = true) : fOk no (gfTxt l a no) = true ∧ 0 ≤ a ∧ a ≤ gfEnd l a no ∧ putFL no (gfTxt l a no) = seg l a (gfEnd l a no) := by
  have h' := h
  unfold gfOk getOk at h
  simp only [Bool.and_eq_true, decide_eq_true_eq] at h
  obtain ⟨hk, hr, ho⟩ := h
  have hfo : fOk no (gfTxt l a no) = true := ho
  refine ⟨hfo, ?_⟩
  have hput : putFL no (gfTxt l a no) = putBody (fKind no) (gfTxt l a no) := by unfold putFL; rw [if_pos hfo]
  rw [hput]
  have hkc := kind_cases no
  unfold gfTxt gfEnd
  generalize fKind no = kd at *
  generalize fSize no = sz at *
  rcases hkc with rfl | rfl | rfl | rfl | rfl | rfl
  · exact absurd rfl hk
  · have hr' : gOk l a sz = true := hr
    have hb := gIn_bd (gOk_in hr').1
    have e : rawEnd 1 l a sz = a + (sz + 1) / 2 := by show gEnd l a sz = _; unfold gEnd; rw [if_pos hr']
    refine ⟨by omega, by rw [e]; omega, ?_⟩
    rw [e, ← gPart_seg l (gOk_in hr').1]
    exact (bcd_of hl hr').2
  · have hr' : inR l a sz = true := hr
    have hb := inR_yes hr'
    have e : rawEnd 2 l a sz = a + sz := rfl
    refine ⟨by omega, by rw [e]; omega, ?_⟩
    rw [e]
    exact (tPart_of hl hr').1
  · rw [(raw3 l a sz).1] at hr
    simp only [Bool.and_eq_true] at hr
    obtain ⟨h1, h2⟩ := hr
    obtain ⟨l1, l2⟩ := len_of hl (.inl rfl) h1
    have hg : gOk l a 2 = true := by unfold lenGot at h1; simpa using (Bool.and_eq_true _ _ ▸ h1 : _ ∧ _).2
    have hb := gIn_bd (gOk_in hg).1
    have hb2 := gIn_bd (gOk_in h2).1
    have hgl := gPart_len (gOk_in hg).1
    have he : lenEnd l a 2 = a + 1 := by rw [l2, hgl]; omega
    obtain ⟨t1, -⟩ := gTxt_ok hl h2
    rw [(raw3 l a sz).2.1, (raw3 l a sz).2.2]
    have e2 : gEnd l (lenEnd l a 2) (lenVal l a 2) = lenEnd l a 2 + (lenVal l a 2 + 1) / 2 := by unfold gEnd; rw [if_pos h2]
    refine ⟨by omega, by rw [e2]; omega, ?_⟩
    have hs : ((⟨(gTxt l (lenEnd l a 2) (lenVal l a 2)).toArray⟩ : ByteArray).size : Int) = lenVal l a 2 := t1
    show putLen _ 2 ++ bcd _ = _
    rw [hs, l1, (bcd_of hl h2).2, e2, gPart_seg l (gOk_in hg).1, gPart_seg l (gOk_in h2).1, show a + ((2 : Int) + 1) / 2 = lenEnd l a 2 by rw [he]; omega]
    exact seg_app l (by omega) (by omega) (by omega)
  · rw [(raw4 l a sz).1] at hr
    simp only [Bool.and_eq_true] at hr
    obtain ⟨h1, h2⟩ := hr
    obtain ⟨l1, l2⟩ := len_of hl (.inl rfl) h1
    have hg : gOk l a 2 = true := by unfold lenGot at h1; simpa using (Bool.and_eq_true _ _ ▸ h1 : _ ∧ _).2
    have hb := gIn_bd (gOk_in hg).1
    have hb2 := inR_yes h2
    have hgl := gPart_len (gOk_in hg).1
    have he : lenEnd l a 2 = a + 1 := by rw [l2, hgl]; omega
    obtain ⟨t0, t1⟩ := tPart_of hl h2
    rw [(raw4 l a sz).2.1, (raw4 l a sz).2.2]
    refine ⟨by omega, by omega, ?_⟩
    have hs : ((⟨(tPart l (lenEnd l a 2) (lenVal l a 2)).toArray⟩ : ByteArray).size : Int) = lenVal l a 2 := t1
    show putLen _ 2 ++ bytesL _ = _
    rw [hs, l1, t0, gPart_seg l (gOk_in hg).1, show a + ((2 : Int) + 1) / 2 = lenEnd l a 2 by rw [he]; omega]
    exact seg_app l (by omega) (by omega) (by omega)
  · rw [(raw5 l a sz).1] at hr
    simp only [Bool.and_eq_true] at hr
    obtain ⟨h1, h2⟩ := hr
    obtain ⟨l1, l2⟩ := len_of hl (.inr rfl) h1
    have hg : gOk l a 3 = true := by unfold lenGot at h1; simpa using (Bool.and_eq_true _ _ ▸ h1 : _ ∧ _).2
    have hb := gIn_bd (gOk_in hg).1
    have hb2 := inR_yes h2
    have hgl := gPart_len (gOk_in hg).1
    have he : lenEnd l a 3 = a + 2 := by rw [l2, hgl]; omega
    obtain ⟨t0, t1⟩ := tPart_of hl h2
    rw [(raw5 l a sz).2.1, (raw5 l a sz).2.2]
    refine ⟨by omega, by omega, ?_⟩
    have hs : ((⟨(tPart l (lenEnd l a 3) (lenVal l a 3)).toArray⟩ : ByteArray).size : Int) = lenVal l a 3 := t1
    show putLen _ 3 ++ bytesL _ = _
    rw [hs, l1, t0, gPart_seg l (gOk_in hg).1, show a + ((3 : Int) + 1) / 2 = lenEnd l a 3 by rw [he]; omega]
    exact seg_app l (by omega) (by omega) (by omega)
def bitV (x : Nat) (c : Nat) : Nat := if decide (((x : Nat) : Int) / 2 ^ (7 - c) % 2 = 1) = true then 2 ^ (7 - c) else 0
set_option maxRecDepth 100000 in
theorem byte_sum : ∀ x < 256, x = bitV x 0 + bitV x 1 + bitV x 2 + bitV x 3 + bitV x 4 + bitV x 5 + bitV x 6 + bitV x 7 := by decide +kernel
set_option maxRecDepth 100000 in
theorem byte_ext {x y : Nat} (hx : x < 256) (hy : y < 256) (h : ∀ c, c < 8 → decide (((x : Nat) : Int) / 2 ^ (7 - c) % 2 = 1) = decide (((y : Nat) : Int) / 2 ^ (7 - c) % 2 = 1)) : x = y := by
  have hb : ∀ c, c < 8 → bitV x c = bitV y c := fun c hc => by unfold bitV; rw [h c hc]
  rw [byte_sum x hx, byte_sum y hy, hb 0 (by omega), hb 1 (by omega), hb 2 (by omega), hb 3 (by omega), hb 4 (by omega), hb 5 (by omega), hb 6 (by omega), hb 7 (by omega)]
set_option maxRecDepth 100000 in
theorem bits_ext {p q : List Int} (hp : okB p) (hq : okB q) (h : ∀ i, i < 64 → bitAt p i = bitAt q i) : p = q := by
  refine List.ext_getElem (by rw [hp.1, hq.1]) fun k h1 h2 => ?_
  have hk : k < 8 := by have := hp.1; omega
  have ep : p[k] = p.getD k 0 := by rw [List.getD_eq_getElem?_getD, List.getElem?_eq_getElem h1]; rfl
  have eq : q[k] = q.getD k 0 := by rw [List.getD_eq_getElem?_getD, List.getElem?_eq_getElem h2]; rfl
  have bp := hp.2 k
  have bq := hq.2 k
  obtain ⟨x, hx⟩ : ∃ x : Nat, p.getD k 0 = x := ⟨(p.getD k 0).toNat, by omega⟩
  obtain ⟨y, hy⟩ : ∃ y : Nat, q.getD k 0 = y := ⟨(q.getD k 0).toNat, by omega⟩
  rw [ep, eq, hx, hy]
  congr 1
  refine byte_ext (by omega) (by omega) fun c hc => ?_
  have := h (8 * k + c) (by omega)
  unfold bitAt at this
  rwa [show (8 * k + c) / 8 = k by omega, show (8 * k + c) % 8 = c by omega, hx, hy] at this
set_option maxRecDepth 100000 in
theorem getB_bit {p : List Int} (i : Nat) (hi : i < 64) : decide ((i : Int) + 1 ∈ getB p 64) = bitAt p i := by
  unfold getB
  rw [Bool.eq_iff_iff, decide_eq_true_eq, List.mem_map]
  constructor
  · rintro ⟨j, hj, e⟩
    obtain rfl : j = i := by omega
    exact (List.mem_filter.1 hj).2
  · intro h
    exact ⟨i, List.mem_filter.2 ⟨by simpa using hi, h⟩, rfl⟩
set_option maxRecDepth 100000 in
/-- PutBits of what GetBits finds, in whatever order -/
theorem putB_of {p L : List Int} (hp : okB p) (hm : ∀ z, z ∈ L ↔ z ∈ getB p 64) : putB L = p := by
  have hb : ∀ k ∈ L, 1 ≤ k ∧ k ≤ 64 := fun k hk => getB_bd p 64 k ((hm k).1 hk)
  obtain ⟨h1, h2⟩ := putB_bit hb
  refine bits_ext h1 hp fun i hi => ?_
  rw [h2 i hi, ← getB_bit i hi, decide_eq_decide]
  exact hm _
set_option maxRecDepth 100000 in
theorem getB_up (p : List Int) (n : Nat) : (getB p n).Pairwise (· < ·) := by
  unfold getB
  rw [List.pairwise_map]
  exact (List.pairwise_lt_range.filter _).imp fun h => by omega
end Go.Proofs.YtkkbhlaakhkjnaaGreatDoor
/- Bytes that Parse takes are just the encoding of the message that it finds. Plain facts; no conditions. -/
set_option linter.unusedVariables false
namespace Go.Proofs.YtkkbhlaakhkjnaaGreatDoor
open Go.ChangeShapes Go.WideShapes Go.ChangeAt Go.RowKit

set_option maxRecDepth 100000 in
theorem listOk_up {L : List FieldD} (hf : ∀ x ∈ L, fOk x.1 x.2 = true) (hp : L.Pairwise (fun a b => a.1 < b.1)) : listOk L = true := by
  refine listOk_yes fun j hj => ?_
  have hx := List.getElem?_eq_getElem hj
  unfold stepOk
  rw [getD_of hx, hf _ (List.getElem_mem hj)]
  by_cases h0 : j = 0
  · simp [h0]
  · have hy := List.getElem?_eq_getElem (l := L) (i := j - 1) (by omega)
    rw [getD_of hy]
    have := (List.pairwise_iff_getElem.1 hp) (j - 1) j (by omega) hj (by omega)
    simp [this]
set_option maxRecDepth 100000 in
theorem lows_map (L : List FieldD) : lows L = (L.map (·.1)).filter fun z => decide (z ≤ 64) := by
  unfold lows
  rw [List.filter_map]
  rfl
set_option maxRecDepth 100000 in
theorem highs_map (L : List FieldD) : highs L = ((L.map (·.1)).filter fun z => decide (64 < z)).map (· - 64) := by
  unfold highs
  rw [List.filter_map, List.map_map]
  rfl
set_option maxRecDepth 100000 in
theorem part_ok {b : List Int} (hb : isBytes b) {a : Int} (h : bIn b a = true) : okB (bPart b a) ∧ bPart b a = seg b a (a + 8) ∧ 0 ≤ a ∧ a + 8 ≤ b.length := by
  have hh : 0 ≤ a ∧ a + 8 ≤ b.length := by
    unfold bIn at h
    simp only [Bool.and_eq_true, decide_eq_true_eq] at h
    exact h
  have hpb : isBytes (bPart b a) := fun z hz => hb z (List.mem_of_mem_drop (List.mem_of_mem_take hz))
  refine ⟨⟨?_, fun i => hpb.getD i⟩, ?_, hh.1, hh.2⟩
  · unfold bPart
    rw [List.length_take, List.length_drop]
    omega
  · unfold bPart seg
    rw [show (a + 8 - a).toNat = 8 by omega]
set_option maxRecDepth 100000 in
theorem pst_only {b X : List Int} {E0 : Int} (hb : isBytes b) (h0 : 0 ≤ E0) : ∀ i, i ≤ X.length → ∀ e L, pst b X E0 i = some (e, L) → L.map (·.1) = X.take i ∧ (∀ x ∈ L, fOk x.1 x.2 = true) ∧ E0 ≤ e ∧ bodyL L = seg b E0 e := by
  intro i
  induction i with
  | zero =>
    intro _ e L h
    simp only [pst, List.take_zero, List.foldl_nil, Option.some.injEq, Prod.mk.injEq] at h
    obtain ⟨rfl, rfl⟩ := h
    exact ⟨rfl, (fun x hx => absurd hx (List.not_mem_nil)), Int.le_refl _, by simp [bodyL, seg]⟩
  | succ i ih =>
    intro hi e L h
    have hx := List.getElem?_eq_getElem (l := X) (i := i) (by omega)
    generalize X[i] = x at hx
    rw [pst_next b X E0 i x hx] at h
    unfold pstep at h
    obtain ⟨⟨e', L'⟩, h1, h2⟩ := Option.bind_eq_some_iff.1 h
    obtain ⟨g1, g2, g3, g4⟩ := ih (by omega) e' L' h1
    split at h2
    · next hg =>
      simp only [Option.some.injEq, Prod.mk.injEq] at h2
      obtain ⟨rfl, rfl⟩ := h2
      obtain ⟨f1, f2, f3, f4⟩ := field_of hb hg
      refine ⟨by rw [List.map_append, g1, take_snocI hx]; rfl, fun y hy => ?_, Int.le_trans g3 f3, ?_⟩
      · rcases List.mem_append.1 hy with hy | hy
        · exact g2 y hy
        · rw [List.mem_singleton.1 hy]; exact f1
      · rw [bodyL_snoc, g4]
        show seg b E0 e' ++ putFL x (gfTxt b e' x) = _
        rw [f4]
        exact seg_app b h0 g3 f3
    · cases h2
set_option maxRecDepth 100000 in
theorem nos_only {b : List Int} (hb : isBytes b) (h : nosOk b = true) {L : List FieldD} (hL : L.map (·.1) = nosL b) : (nosL b).Pairwise (· < ·) ∧ bitsL L = seg b 2 (nosE b) ∧ 2 ≤ nosE b := by
  have hL' : nosL b = nosRaw b := by unfold nosL; rw [if_pos h]
  have hE' : nosE b = nosEnd b := by unfold nosE; rw [if_pos h]
  unfold nosOk at h
  simp only [Bool.and_eq_true] at h
  obtain ⟨⟨hi, hm⟩, -⟩ := h
  obtain ⟨p1, p2, -, p3⟩ := part_ok hb hi
  have hlow : bGet b 2 = getB (bPart b 2) 64 := by unfold bGet; rw [if_pos hi]
  have hend : bEnd b 2 = 10 := by unfold bEnd; rw [if_pos hi]; rfl
  have hbd := getB_bd (bPart b 2) 64
  have hup := getB_up (bPart b 2) 64
  have lup : (lowOnes (getB (bPart b 2) 64)).Pairwise (· < ·) := hup.filter _
  have lbd : ∀ z ∈ lowOnes (getB (bPart b 2) 64), 1 ≤ z ∧ z ≤ 64 := fun z hz => hbd z (List.mem_filter.1 hz).1
  rw [hL'] at hL ⊢
  rw [hE']
  cases hmo : moreB (bGet b 2)
  · have hr : nosRaw b = lowOnes (getB (bPart b 2) 64) := by unfold nosRaw; rw [hmo, if_neg (by simp), hlow]
    have hn : nosEnd b = 10 := by unfold nosEnd; rw [hmo, if_neg (by simp), hend]
    rw [hr] at hL ⊢
    rw [hn]
    have h1 : lows L = lowOnes (getB (bPart b 2) 64) := by
      rw [lows_map, hL, List.filter_eq_self]
      intro z hz
      simpa using (lbd z hz).2
    have h2 : highs L = [] := by
      rw [highs_map, hL, List.map_eq_nil_iff, List.filter_eq_nil_iff]
      intro z hz
      have := lbd z hz
      simp; omega
    refine ⟨lup, ?_, by omega⟩
    unfold bitsL
    rw [if_pos h2, h1, putB_of p1, p2]
    · rfl
    · intro z
      unfold lowOnes
      rw [List.mem_filter]
      constructor
      · exact fun h => h.1
      · intro hz
        refine ⟨hz, ?_⟩
        have h1' : ¬ (1 : Int) ∈ bGet b 2 := by unfold moreB at hmo; simpa using hmo
        rw [hlow] at h1'
        have : z ≠ 1 := fun e => h1' (e ▸ hz)
        simpa using this
  · rw [hmo] at hm
    simp only [Bool.not_true, Bool.false_or, Bool.and_eq_true, decide_eq_true_eq] at hm
    rw [hend] at hm
    obtain ⟨hi2, hpos⟩ := hm
    obtain ⟨q1, q2, -, q3⟩ := part_ok hb hi2
    have hhigh : bGet b 10 = getB (bPart b 10) 64 := by unfold bGet; rw [if_pos hi2]
    have hend2 : bEnd b 10 = 18 := by unfold bEnd; rw [if_pos hi2]; rfl
    rw [hhigh] at hpos
    have hhb := getB_bd (bPart b 10) 64
    have hhu := getB_up (bPart b 10) 64
    have hr : nosRaw b = lowOnes (getB (bPart b 2) 64) ++ (getB (bPart b 10) 64).map (· + 64) := by unfold nosRaw; rw [hmo, if_pos rfl, hlow, hend, hhigh]
    have hn : nosEnd b = 18 := by unfold nosEnd; rw [hmo, if_pos rfl, hend, hend2]
    rw [hr] at hL ⊢
    rw [hn]
    have h1 : lows L = lowOnes (getB (bPart b 2) 64) := by
      rw [lows_map, hL, List.filter_append, List.filter_eq_self.2 (fun z hz => by simpa using (lbd z hz).2), List.filter_eq_nil_iff.2 (fun z hz => by
        obtain ⟨y, hy, rfl⟩ := List.mem_map.1 hz
        have := hhb y hy
        simp; omega), List.append_nil]
    have h2 : highs L = getB (bPart b 10) 64 := by
      rw [highs_map, hL, List.filter_append, List.filter_eq_nil_iff.2 (fun z hz => by
        have := lbd z hz
        simp; omega), List.filter_eq_self.2 (fun z hz => by
        obtain ⟨y, hy, rfl⟩ := List.mem_map.1 hz
        have := hhb y hy
        simp; omega), List.nil_append, List.map_map]
      conv => rhs; rw [← List.map_id (getB (bPart b 10) 64)]
      refine List.map_congr_left fun y _ => ?_
      simp
    have hne : ¬ getB (bPart b 10) 64 = [] := List.length_pos_iff.1 hpos
    refine ⟨?_, ?_, by omega⟩
    · rw [List.pairwise_append]
      refine ⟨lup, ?_, fun x hx y hy => ?_⟩
      · rw [List.pairwise_map]
        exact hhu.imp fun h => by omega
      · obtain ⟨z, hz, rfl⟩ := List.mem_map.1 hy
        have := lbd x hx
        have := hhb z hz
        omega
    · unfold bitsL
      rw [h2, if_neg hne, h1, putB_of p1, putB_of q1 (fun z => Iff.rfl), p2, q2]
      · exact seg_app b (by omega) (by omega) (by omega)
      · intro z
        unfold lowOnes
        rw [List.mem_append, List.mem_filter, List.mem_singleton]
        have h1' : (1 : Int) ∈ bGet b 2 := by unfold moreB at hmo; simpa using hmo
        rw [hlow] at h1'
        constructor
        · rintro (h | rfl)
          · exact h.1
          · exact h1'
        · intro hz
          by_cases e : z = 1
          · exact .inr e
          · exact .inl ⟨hz, by simpa using e⟩
set_option maxRecDepth 100000 in
theorem seg_all (b : List Int) : seg b 0 b.length = b := by
  unfold seg
  simp
set_option maxRecDepth 100000 in
/-- Encode of what Parse finds -/
theorem parse_only {b : List Int} (hb : isBytes b) {m : MsgD} (h : parseRes b = (m, 0)) : msgOk m = true ∧ encL m = b := by
  unfold parseRes at h
  split at h
  · simp at h
  · next hg =>
    split at h
    · simp at h
    · next ho =>
      have hg' : gOk b 0 4 = true := by simpa using hg
      have ho' : nosOk b = true := by simpa using ho
      split at h
      · simp at h
      · next e L hp =>
        split at h
        · next he =>
          simp only [Prod.mk.injEq, and_true] at h
          subst h
          have hE0 := (nos_only hb ho' (L := (nosL b).map fun z => (z, ⟨#[]⟩)) (by rw [List.map_map]; exact List.map_id' _)).2.2
          obtain ⟨g1, g2, g3, g4⟩ := pst_only hb (show 0 ≤ nosE b by omega) _ (Nat.le_refl _) e L hp
          rw [List.take_length] at g1
          obtain ⟨n1, n2, n3⟩ := nos_only hb ho' g1
          have hpw : L.Pairwise (fun a b => a.1 < b.1) := by
            rw [← g1, List.pairwise_map] at n1
            exact n1
          have hlo := listOk_up g2 hpw
          obtain ⟨t1, t2⟩ := gTxt_ok hb hg'
          obtain ⟨-, t4⟩ := bcd_of hb hg'
          have hmt : mtiOk ⟨(gTxt b 0 4).toArray⟩ = true := by
            unfold mtiOk
            rw [t2]
            have : (⟨(gTxt b 0 4).toArray⟩ : ByteArray).size = 4 := by show (gTxt b 0 4).length = 4; omega
            rw [this]
            rfl
          have hok : msgOk (⟨(gTxt b 0 4).toArray⟩, L) = true := by unfold msgOk; rw [hmt, hlo]; rfl
          refine ⟨hok, ?_⟩
          unfold encL
          rw [if_pos hok]
          show bcd ⟨(gTxt b 0 4).toArray⟩ ++ bitsL L ++ bodyL L = b
          rw [t4, n2, g4, gPart_seg b (gOk_in hg').1, he]
          have hle : nosE b ≤ b.length := by rw [← he]; exact g3
          rw [show (0 : Int) + (4 + 1) / 2 = 2 by decide, seg_app b (by omega) (by omega) n3, seg_app b (by omega) (by omega) hle, seg_all]
        · simp at h
set_option maxRecDepth 100000 in
theorem parse_code (b : List Int) : (parseRes b).2 = 0 ∨ (1 ≤ (parseRes b).2 ∧ (parseRes b).2 ≤ 4 ∧ (parseRes b).1 = (⟨#[]⟩, [])) := by
  unfold parseRes
  split
  · right; exact ⟨by decide, by decide, rfl⟩
  · split
    · right; exact ⟨by decide, by decide, rfl⟩
    · split
      · right; exact ⟨by decide, by decide, rfl⟩
      · split
        · left; rfl
        · right; exact ⟨by decide, by decide, rfl⟩
end Go.Proofs.YtkkbhlaakhkjnaaGreatDoor
/- Numbers in cells of the call's own that begin anywhere in their block; append of one number. No conditions. -/
set_option linter.unusedVariables false
namespace Go.Proofs.YtkkbhlaakhkjnaaGreatDoor
open Go.ChangeShapes Go.WideShapes Go.ChangeAt Go.RowKit

/-- numbers in cells of one's own, from some cell on; the spare cells may be written -/
def offRow (B : Nat) (w : World) (v : Value) (l : List Int) : Prop := ∃ g off cap, v = .slice (some ⟨g, off, none⟩) l.length cap ∧ l.length ≤ cap ∧ cap ≤ maxLen ∧ B ≤ g ∧ g < w.heap.size ∧ (∀ j x, l[j]? = some x → w.cell? ⟨g, off + j, none⟩ = some (.int .i64 x)) ∧ ∀ j, j < cap → (w.cell? ⟨g, off + j, none⟩).isSome = true ∧ w.frozen? ⟨g, off + j, none⟩ = false
set_option maxRecDepth 100000 in
theorem offRow.form {B : Nat} {w : World} {v : Value} {l : List Int} (h : offRow B w v l) : ∃ A c, v = .slice A l.length c ∧ l.length ≤ c := by
  obtain ⟨g, off, cap, hv, h1, -⟩ := h
  exact ⟨_, cap, hv, h1⟩
set_option maxRecDepth 100000 in
theorem offRow.below {B C : Nat} {w w' : World} {v : Value} {l : List Int} (h : offRow B w v l) (hb : Below C w w') (hC : w.heap.size ≤ C) : offRow B w' v l := by
  obtain ⟨g, off, cap, hv, h1, h2, h3, h4, h5, h6⟩ := h
  have hk := hb.block g (by omega)
  exact ⟨g, off, cap, hv, h1, h2, h3, Nat.lt_of_lt_of_le h4 hb.size, fun j x hx => (cell_keep hk).trans (h5 j x hx), fun j hj => ⟨by rw [cell_keep hk]; exact (h6 j hj).1, by rw [frozen_keep hk]; exact (h6 j hj).2⟩⟩
set_option maxRecDepth 100000 in
theorem offRow.rd {B : Nat} {w : World} {v : Value} {l : List Int} (h : offRow B w v l) : Proofs.YtkkbhlaakhkjnaaGreatDoor.rd .i64 w.heap.size w v l := by
  obtain ⟨g, off, cap, hv, h1, h2, h3, h4, h5, h6⟩ := h
  refine ⟨_, cap, hv, h1, fun j hj => ⟨g, off, rfl, h4, ?_⟩⟩
  rw [h5 j _ (List.getElem?_eq_getElem hj), List.getD_eq_getElem?_getD, List.getElem?_eq_getElem hj]; rfl
set_option maxRecDepth 100000 in
theorem row_cells {w : World} {g cap : Nat} {cur : Array Value} {e : TypeId} (hg : w.heap[g]? = some (.cells cur e (0, 0))) (hs : cur.size = cap * 1) (j : Nat) (hj : j < cap) : (w.cell? ⟨g, j, none⟩).isSome = true ∧ w.frozen? ⟨g, j, none⟩ = false := by
  refine ⟨?_, by unfold World.frozen?; rw [hg]; simp⟩
  rw [cell_of_row _ _ j cur e (0, 0) hg, Array.getElem?_eq_getElem (by omega)]; rfl
set_option maxRecDepth 100000 in
theorem offRow_of_ow {B : Nat} {w : World} {v : Value} {l : List Int} (h : ow 3 .i64 B w v l) (hpos : 0 < l.length) : offRow B w v l := by
  have hh : w.ownsRow B 3 1 v l.length (l.map (Value.int .i64)) := h
  rcases h.2 with ⟨_, h0⟩ | ⟨g, cap, cur, rfl, hB, hg, h1, h2, h3, h4⟩
  · omega
  · refine ⟨g, 0, cap, rfl, h1, h2, hB, (Array.getElem?_eq_some_iff.1 hg).1, fun j x hx => ?_, fun j hj => ?_⟩
    · rw [Nat.zero_add, hh.cellAt j (by rw [Nat.mul_one]; exact (List.getElem?_eq_some_iff.1 hx).1), List.getElem?_map, hx]; rfl
    · rw [Nat.zero_add]; exact row_cells hg h3 j hj
set_option maxRecDepth 100000 in
/-- all but the first -/
theorem offRow_tail {B c : Nat} {w : World} {A : Option Addr} {x : Int} {r : List Int} (h : ow 3 .i64 B w (.slice A (x :: r).length c) (x :: r)) : ∃ g, A = some ⟨g, 0, none⟩ ∧ offRow B w (.slice (some ⟨g, 1, none⟩) r.length (c - 1)) r := by
  have hh : w.ownsRow B 3 1 (.slice A (x :: r).length c) (x :: r).length ((x :: r).map (Value.int .i64)) := h
  rcases h.2 with ⟨_, h0⟩ | ⟨g, cap, cur, hv, hB, hg, h1, h2, h3, h4⟩
  · simp at h0
  · simp only [Value.slice.injEq] at hv
    obtain ⟨rfl, -, rfl⟩ := hv
    simp only [List.length_cons] at h1
    refine ⟨g, rfl, g, 1, c - 1, rfl, by omega, by omega, hB, (Array.getElem?_eq_some_iff.1 hg).1, fun j y hy => ?_, fun j hj => ?_⟩
    · have hj := (List.getElem?_eq_some_iff.1 hy).1
      rw [Nat.add_comm 1 j, hh.cellAt (j + 1) (by simp; omega), List.getElem?_map]
      simp [hy]
    · rw [Nat.add_comm 1 j]; exact row_cells hg h3 (j + 1) (by omega)
set_option maxRecDepth 100000 in
/-- append of one number -/
theorem app_off {ops : Array Oper} {rest : List Oper} {o : Oper} {a : Act} {Q : Exit → Act → World → Prop} (s x : Operand) (hgd : o.guard = none) (ho : o.op = .call { callee := .builtin .append, args := #[s, x], argTypes := #[53, 53] })
    (B : Nat) (W : World) (v : Value) (l : List Int) (y : Int) (n : Nat) (hs : a.eval s = v) (hx : a.eval x = .slice (some ⟨n, 0, none⟩) 1 1) (hn : n = W.heap.size)
    (hrow : offRow B W v l) (h63 : l.length + 1 ≤ maxLen) (hbytes : (l.length + 1) * 8 ≤ 140737488355328) (hB : B ≤ W.heap.size)
    (h : ∀ A c w', offRow B w' (.slice A (l.length + 1) c) (l ++ [y]) → l.length + 1 ≤ c → W.grownBy w' v.ownBlock → ((Value.slice A (l.length + 1) c).ownBlock = v.ownBlock ∨ ∀ b, (Value.slice A (l.length + 1) c).ownBlock = some b → W.heap.size ≤ b) → wpList Tryz.prog ops Q rest (a.put o.dst (.slice A (l.length + 1) c)) w') : wpList Tryz.prog ops Q (o :: rest) a (W.alloc (.cells #[.int .i64 y] 3)) := by
  subst hn
  obtain ⟨i, hi, hxx⟩ := Option.map_eq_some_iff.1 infoInt
  simp only [Prod.mk.injEq] at hxx
  obtain ⟨hz, hsize, hby⟩ := hxx
  obtain ⟨z, hzz, hzc⟩ := Option.map_eq_some_iff.1 hz
  have hrow' := hrow.below ((Below.refl W.heap.size W).alloc (Nat.le_refl _) (.cells #[.int .i64 y] 3)) (Nat.le_refl _)
  obtain ⟨g, off, cap, rfl, h1, h2, h3, h4, h5, h6⟩ := hrow'
  refine wpList_append_arg _ hgd s x 53 ho 3 i z 1 8 Tryz.underlying53 hi hzz hsize hby (by rw [hzc]; rfl) (by decide) g off l.length cap (l.map (Value.int .i64)) hs (by simp) (fun j u hu => ?_) ⟨W.heap.size, 0, none⟩ 1 1 [.int .i64 y] hx rfl (cell_one_new _ _ _) (by simp [Value.oneCell']) (fun hr j hj => ?_) h63 hbytes (fun hr => ?_) (fun hr v' w' hown hg => ?_)
  · rw [List.getElem?_map] at hu
    obtain ⟨x, hx, rfl⟩ := Option.map_eq_some_iff.1 hu
    exact h5 j x hx
  · have hj0 : j = 0 := by simpa using hj
    subst hj0
    have := h6 l.length (by omega)
    simpa [Nat.mul_one] using this
  · have hc := h6 l.length (by omega)
    obtain ⟨u, hu⟩ := Option.isSome_iff_exists.1 hc.1
    refine h (some ⟨g, off, none⟩) cap _ ⟨g, off, cap, by rw [List.length_append]; rfl, by simp; omega, h2, h3, by simpa [World.setCells, World.setCell] using h4, fun j z hz => ?_, fun j hj => ?_⟩ (by omega) ?_ (.inl rfl)
    · show ((W.alloc _).setCell ⟨g, off + l.length * 1, none⟩ (.int .i64 y)).cell? _ = _
      rw [Nat.mul_one]
      by_cases e : j = l.length
      · subst e
        obtain rfl : y = z := by simpa using hz
        exact World.cell?_setCell_same _ _ _ hu
      · have hj := (List.getElem?_eq_some_iff.1 hz).1
        rw [List.length_append, List.length_singleton] at hj
        rw [List.getElem?_append_left (by omega)] at hz
        exact (World.cell?_setCell_other _ _ _ _ (fun he => by have := congrArg Addr.off he; simp at this; omega)).trans (h5 j z hz)
    · show (((W.alloc _).setCell ⟨g, off + l.length * 1, none⟩ (.int .i64 y)).cell? _).isSome = true ∧ _
      rw [Nat.mul_one]
      refine ⟨?_, by simpa [World.setCells] using (h6 j hj).2⟩
      by_cases e : j = l.length
      · subst e; rw [World.cell?_setCell_same _ _ _ hu]; rfl
      · rw [World.cell?_setCell_other _ _ _ _ (fun he => by have := congrArg Addr.off he; simp at this; omega)]; exact (h6 j hj).1
    · exact ⟨rfl, rfl, rfl, by simp [World.setCells, World.setCell], fun k hk hne => (Below.heap_setCell _ _ _ _ (show k ≠ g from fun e => hne (by rw [e]; rfl))).trans (Below.heap_alloc W _ k hk)⟩
  · have hw : ow 3 .i64 B w' v' (l ++ [y]) := by
      unfold ow
      rw [List.length_append, List.map_append]
      exact World.ownsRow.mono hown (by simp; omega)
    have hnew : ∀ b, v'.ownBlock = some b → W.heap.size ≤ b := fun b hb => by have := (World.ownsRow.lt hown b hb).1; simp at this; omega
    have hr' := offRow_of_ow hw (by simp)
    obtain ⟨A, c, hv, hc⟩ := hr'.form
    rw [List.length_append] at hv hc
    subst hv
    exact h A c w' hr' hc ⟨hg.os, hg.tape, hg.output, by have := hg.size; simp at this; omega, fun k hk _ => (hg.block k (by simp; omega) (by simp)).trans (Below.heap_alloc W _ k hk)⟩ (.inr hnew)
set_option maxRecDepth 100000 in
/-- an empty row may be told to lie anywhere in its block -/
theorem offRow.at0 {B g o n : Nat} {w : World} {l : List Int} (h : offRow B w (.slice (some ⟨g, o, none⟩) n 0) l) : offRow B w (.slice (some ⟨g, 0, none⟩) n 0) l := by
  obtain ⟨g', off, cap, hv, h1, h2, h3, h4, h5, h6⟩ := h
  simp only [Value.slice.injEq, Option.some.injEq, Addr.mk.injEq, and_true] at hv
  obtain ⟨⟨rfl, rfl⟩, rfl, rfl⟩ := hv
  exact ⟨g, 0, 0, rfl, h1, h2, h3, h4, fun j x hx => absurd (List.getElem?_eq_some_iff.1 hx).1 (by omega), fun j hj => absurd hj (by omega)⟩
set_option maxRecDepth 100000 in
theorem nums.at {K : IntKind} {lo hi : Nat} {w : World} {A : Option Addr} {n c : Nat} {l : List Int} (h : nums K lo hi w (.slice A n c) l) {j : Nat} {x : Int} (hx : l[j]? = some x) : ∃ b off : Nat, A = some ⟨b, off, none⟩ ∧ lo ≤ b ∧ b < hi ∧ w.cell? ⟨b, off + j, none⟩ = some (.int K x) := by
  obtain ⟨A', c', hv, hc, hj⟩ := h
  obtain ⟨b, off, e, h1, hb, hcell, -⟩ := hj j (List.getElem?_eq_some_iff.1 hx).1
  simp only [Value.slice.injEq] at hv
  rw [List.getD_eq_getElem?_getD, hx] at hcell
  exact ⟨b, off, by rw [hv.1]; exact e, h1, hb, hcell⟩
end Go.Proofs.YtkkbhlaakhkjnaaGreatDoor
/- Parse of the program: it gives up by a panic that it takes back; no conditions on the bytes but their number. -/
set_option linter.unusedVariables false
namespace Go.Proofs.YtkkbhlaakhkjnaaGreatDoor
open Go.ChangeShapes Go.WideShapes Go.ChangeAt Go.RowKit
open Go.Maps (Keyed IsMap)

set_option maxRecDepth 100000 in
theorem need_yes (c : Int) (w : World) : Calls Tryz.prog 81 #[.bool true, .int .i64 c] w fun e w' => e = .returned (.tuple #[]) ∧ w = w' := by
  go_enter Tryz.func81, Tryz.ntmps81
  go_wp2
  go_end0
  exact ⟨rfl, rfl⟩
/-- the panic by which the program gives up -/
def fault (c : Int) : Ending := .panicked [{ v := .iface 67 (.int .i64 c), recovered := false }]
set_option maxRecDepth 100000 in
theorem need_no (c : Int) (w : World) : Calls Tryz.prog 81 #[.bool false, .int .i64 c] w fun e w' => e = .panicked [{ v := .iface 67 (.int .i64 c), recovered := false }] ∧ w = w' := by
  go_enter Tryz.func81, Tryz.ntmps81
  go_wp2
  exact ⟨rfl, rfl, rfl⟩
/-- the numbers and where they end, or the panic -/
def bmRes (l : List Int) (w : World) (e : Ending) (w' : World) : Prop := Below w.heap.size w w' ∧ if nosOk l = true then ∃ v, e = .returned (.tuple #[v, .int .i64 (nosE l)]) ∧ rd .i64 w'.heap.size w' v (nosL l) else e = fault 2
set_option maxRecDepth 100000 in
theorem bmRes_no {l : List Int} {w w' : World} (h : nosOk l = false) (hb : Below w.heap.size w w') : bmRes l w (fault 2) w' := ⟨hb, by rw [if_neg (by rw [h]; decide)]⟩
set_option maxRecDepth 100000 in
theorem bmRes_yes {l : List Int} {w w' : World} {v : Value} {E : Int} (h : nosOk l = true) (hE : nosE l = E) (hv : rd .i64 w'.heap.size w' v (nosL l)) (hb : Below w.heap.size w w') : bmRes l w (.returned (.tuple #[v, .int .i64 E])) w' := ⟨hb, by rw [if_pos h]; exact ⟨v, by rw [hE], hv⟩⟩
set_option maxRecDepth 100000 in
/-- the head of an ascending list from 1 on tells whether 1 is there -/
theorem head_more {x : Int} {r : List Int} (h : (x :: r).Pairwise (· < ·)) (h1 : ∀ z ∈ x :: r, 1 ≤ z) : (x = 1 → moreB (x :: r) = true ∧ lowOnes (x :: r) = r) ∧ (x ≠ 1 → moreB (x :: r) = false ∧ lowOnes (x :: r) = x :: r) := by
  obtain ⟨hx, hr⟩ := List.pairwise_cons.1 h
  have h2 := h1 x (List.mem_cons_self ..)
  have hr1 : ∀ z ∈ r, z ≠ 1 := fun z hz => by have := hx z hz; omega
  have hf : lowOnes r = r := by
    unfold lowOnes
    rw [List.filter_eq_self]
    intro z hz; simpa using hr1 z hz
  constructor
  · rintro rfl
    refine ⟨by simp [moreB], ?_⟩
    show List.filter _ (1 :: r) = r
    rw [List.filter_cons_of_neg (by simp)]; exact hf
  · intro hne
    constructor
    · unfold moreB
      rw [decide_eq_false_iff_not, List.mem_cons]
      rintro (e | e)
      · exact hne e.symm
      · exact hr1 1 e rfl
    · show List.filter _ (x :: r) = x :: r
      rw [List.filter_cons_of_pos (by simpa using hne)]; exact congrArg _ hf
set_option maxRecDepth 100000 in
theorem bGet_up (l : List Int) (a : Int) : (bGet l a).Pairwise (· < ·) := by
  unfold bGet
  split
  · exact getB_up _ _
  · exact List.Pairwise.nil
set_option maxRecDepth 100000 in
set_option maxHeartbeats 8000000 in
theorem parseBitmaps_any (hi : Nat) (v : Value) (l : List Int) (w : World) (hn : l.length ≤ 1073741824) (hl : isBytes l) (h : rd .u8 hi w v l) (hhi : hi ≤ w.heap.size) :
    Calls Tryz.prog 82 #[v, .int .i64 2] w (bmRes l w) := by
  have H := Lib.hid h
  have HG1 := Lib.hid (implGetBits_own hi v l 2 w hn (by decide) hl h hhi)
  have HG2 := Lib.hid (fun (W : World) (hW : Below w.heap.size w W) => implGetBits_any hi v l (bEnd l 2) W hn (by unfold bEnd; split <;> omega) hl (h.below hW hhi) (Nat.le_trans hhi hW.size))
  clear h
  cases hi1 : bIn l 2
  · have HK : Hid (nosOk l = false) := Lib.hid (by simp [nosOk, hi1])
    have HI := Lib.hid hi1
    clear hi1
    go_enter Tryz.func82, Tryz.ntmps82
    go_wp2_with fail
    refine HG1.out.mono ?_
    rintro e w1 ⟨v1, rfl, hv1, hb1⟩
    rw [HI.out]
    have HB1 := Lib.hid hb1
    clear hb1 hv1
    go_wp2_with fail
    refine (need_no 2 _).mono ?_
    rintro e w2 ⟨rfl, rfl⟩
    go_wp2
    exact ⟨rfl, bmRes_no HK.out HB1.out⟩
  have HI := Lib.hid hi1
  have hup := bGet_up l 2
  have hbd := bGet_bd l 2
  have hg64 := bGet_len64 l 2
  have HM : Hid (moreB (bGet l 2) = true → nosRaw l = lowOnes (bGet l 2) ++ (bGet l (bEnd l 2)).map (· + 64) ∧ nosEnd l = bEnd l (bEnd l 2) ∧ nosOk l = ((bIn l (bEnd l 2) && decide (0 < (bGet l (bEnd l 2)).length)) && knownB (nosRaw l))) := Lib.hid (fun h => by simp [nosRaw, nosEnd, nosOk, h, hi1])
  have HN : Hid (moreB (bGet l 2) = false → nosRaw l = lowOnes (bGet l 2) ∧ nosEnd l = bEnd l 2 ∧ nosOk l = knownB (nosRaw l)) := Lib.hid (fun h => by simp [nosRaw, nosEnd, nosOk, h, hi1])
  have HLE : Hid (nosOk l = true → nosL l = nosRaw l ∧ nosE l = nosEnd l) := Lib.hid (fun h => by simp [nosL, nosE, h])
  clear hi1
  go_enter Tryz.func82, Tryz.ntmps82
  go_wp2_with fail
  refine HG1.out.mono ?_
  rintro e w1 ⟨v1, rfl, hv1, hb1⟩
  rw [HI.out]
  obtain ⟨A1, c1, rfl, hc1⟩ := hv1.nums.form
  have HV1 := Lib.hid hv1
  have HB1 := Lib.hid hb1
  have hz1 : w.heap.size ≤ w1.heap.size := hb1.size
  clear hb1 hv1
  go_wp2_with fail
  refine (need_yes 2 _).mono ?_
  rintro e w2 ⟨rfl, rfl⟩
  by_cases hm : moreB (bGet l 2) = true
  · -- there is a second bitmap
    obtain ⟨r, hr, hlow⟩ : ∃ r, bGet l 2 = 1 :: r ∧ lowOnes (bGet l 2) = r := by
      cases hg : bGet l 2 with
      | nil => rw [hg] at hm; simp [moreB] at hm
      | cons x r =>
        rw [hg] at hup hbd hm
        have hh := head_more hup (fun z hz => (hbd z hz).1)
        by_cases hx : x = 1
        · subst hx; exact ⟨r, rfl, (hh.1 rfl).2⟩
        · rw [(hh.2 hx).1] at hm; cases hm
    have HMM := Lib.hid (HM.out hm)
    rw [hr] at HV1 hc1 hg64 ⊢
    have hle : r.length + 1 ≤ 64 := hg64
    clear hm hup hbd HM HN
    obtain ⟨g, hA1, hrow⟩ := offRow_tail HV1.out
    subst hA1
    have HROW1 := Lib.hid hrow
    obtain ⟨g', off', hA, hgl, d0⟩ := HV1.out.nums.rd.at (j := 0) (x := 1) rfl
    simp only [Option.some.injEq, Addr.mk.injEq, and_true] at hA
    obtain ⟨rfl, rfl⟩ := hA
    clear hrow
    have gpos : (0 : Int) < (((1 : Int) :: r).length : Int) := by simp <;> omega
    have HG2' := Lib.hid (HG2.out _ HB1.out)
    go_wp2_with fail
    refine HG2'.out.mono ?_
    rintro e w2 ⟨v2, rfl, hv2, hb2⟩
    obtain ⟨A2, c2, rfl, hc2⟩ := hv2.form
    cases hi2 : bIn l (bEnd l 2)
    · have HK : Hid (nosOk l = false) := Lib.hid (by rw [HMM.out.2.2, hi2]; rfl)
      have HB2 := Lib.hid (HB1.out.trans (hb2.mono hz1))
      clear hb2 hv2 hi2
      go_wp2_with fail
      refine (need_no 2 _).mono ?_
      rintro e w3 ⟨rfl, rfl⟩
      go_wp2
      exact ⟨rfl, bmRes_no HK.out HB2.out⟩
    by_cases h0 : 0 < (bGet l (bEnd l 2)).length
    · have HG0 : Hid (decide (0 < (bGet l (bEnd l 2)).length) = true) := Lib.hid (by rw [decide_eq_true_eq]; exact h0)
      have HB2 := Lib.hid (HB1.out.trans (hb2.mono hz1))
      have hz2 : w1.heap.size ≤ w2.heap.size := hb2.size
      have HV2 := Lib.hid (HV1.out.below hb2 (Nat.le_refl _))
      have HU2 := Lib.hid hv2
      have HBK := Lib.hid hb2
      have hsb := bGet_bd l (bEnd l 2)
      have HOK : Hid (nosOk l = knownB (nosRaw l)) := Lib.hid (by rw [HMM.out.2.2, hi2]; simp [h0])
      have hg264 := bGet_len64 l (bEnd l 2)
      have HRW := Lib.hid HMM.out.1
      have HEN := Lib.hid HMM.out.2.1
      rw [hlow] at HRW
      clear hb2 hv2 hi2 h0 hlow HMM
      have HSB := Lib.hid hsb
      have hgB : w.heap.size ≤ g := by have := (World.ownsRow.lt HV1.out g rfl).1; exact this
      clear hsb
      generalize bGet l (bEnd l 2) = S at HG0 HU2 HSB hg264 HRW ⊢
      go_wp2_with fail
      rw [HG0.out]
      refine (need_yes 2 _).mono ?_
      rintro e w3 ⟨rfl, rfl⟩
      by_cases hc1' : c1 = 1
      · subst hc1'
        have HROW2 : Hid (offRow w.heap.size w2 (.slice (some ⟨g, 0, none⟩) r.length 0) r) := Lib.hid (by have h := HROW1.out; exact (h.below HBK.out (Nat.le_refl _)).at0)
        clear HV2
        go_wp2
        go_loopw [6, 52] (fun rv iv wr => ∃ (i : Nat) (A5 : Option Addr) (c5 : Nat) (M : List Int), i ≤ S.length ∧ iv = .int .i64 i ∧ rv = .slice A5 M.length c5 ∧ Hid (M = r ++ (S.take i).map (· + 64)) ∧ M.length ≤ r.length + i ∧ Hid (offRow w.heap.size wr (.slice A5 M.length c5) M) ∧ Hid (w2.grownBy wr (some g)) ∧ Hid (∀ b, (Value.slice A5 M.length c5).ownBlock = some b → b = g ∨ w2.heap.size ≤ b) ∧ w2.heap.size ≤ wr.heap.size) (fun _ iv _ => S.length - (intOf iv).toNat)
        case atStart => exact ⟨0, _, _, r, Nat.zero_le _, rfl, rfl, Lib.hid (by simp), Nat.le_refl _, HROW2, Lib.hid ⟨rfl, rfl, rfl, Nat.le_refl _, fun _ _ _ => rfl⟩, Lib.hid (fun b hb => Or.inl (by simpa [Value.ownBlock] using hb.symm)), Nat.le_refl _⟩
        case round =>
          obtain ⟨i, A5, c5, M, hi5, rfl, rfl, HM5, hMl, HR5, HG5, HOB, hz5⟩ := hrel
          by_cases hin : i < S.length
          · obtain ⟨x, hx⟩ : ∃ x, S[i]? = some x := ⟨_, List.getElem?_eq_getElem hin⟩
            obtain ⟨b, off, hA, hbl0, hbl, d0⟩ := HU2.out.at hx
            subst hA
            have HX := Lib.hid (take_snocI hx)
            obtain ⟨hx1, hx2⟩ := HSB.out x (List.mem_of_getElem? hx)
            have d0 := (cell_keep (o := off + i) (HG5.out.block b hbl (fun e => by simp at e; omega))).trans d0
            have g1 : (i : Int) < (S.length : Int) := by omega
            have g2 : 0 ≤ (i : Int) := by omega
            clear hx
            go_wp2_with (at_builtin; refine app_off _ _ rfl (by rfl) w.heap.size _ _ M (x + 64) _ (by rfl) (by rfl) (by simp) HR5.out (by unfold maxLen; omega) (by omega) (by omega) ?_)
            intro A7 c7 w7 hrow7 hc7 hg7 hlies7
            have hz7 : wr.heap.size ≤ w7.heap.size := hg7.size
            have HR7 := Lib.hid hrow7
            have HG7 : Hid (w2.grownBy w7 (some g)) := Lib.hid (HG5.out.andThen hg7 (fun j hj => by rcases HOB.out j hj with h | h; exact Or.inr (by rw [h]); exact Or.inl h))
            have HOB7 : Hid (∀ b, (Value.slice A7 (M.length + 1) c7).ownBlock = some b → b = g ∨ w2.heap.size ≤ b) := Lib.hid (fun b hb => by
              rcases hlies7 with h | h
              · exact HOB.out b (by rw [← h]; exact hb)
              · exact Or.inr (by have := h b hb; omega))
            clear hrow7 hg7 hlies7
            go_wp2
            go_roundw
            case rel => exact ⟨i + 1, A7, c7, M ++ [x + 64], by omega, by go_num, by rw [List.length_append]; rfl, Lib.hid (by rw [HX.out, HM5.out, List.map_append, List.append_assoc]; rfl), by simp; omega, Lib.hid (by rw [List.length_append]; exact HR7.out), HG7, Lib.hid (by rw [List.length_append]; exact HOB7.out), by omega⟩
            case measure => simp [intOf] <;> omega
          · obtain rfl : i = S.length := by omega
            obtain ⟨wX, hwX⟩ : ∃ wX, wX = wr := ⟨_, rfl⟩
            subst hwX
            have hMX : M = nosRaw l := by rw [HM5.out, List.take_length, HRW.out]
            have HVX := Lib.hid HR5.out.rd
            have HBX : Hid (Below w.heap.size w wX) := Lib.hid (HB2.out.grown HG5.out (by omega) (fun j hj => by cases hj; exact hgB))
            have hzX : w.heap.size ≤ wX.heap.size := by omega
            have HRAW : Hid (nosOk l = true → nosE l = bEnd l (bEnd l 2) ∧ nosL l = M) := Lib.hid (fun h => ⟨by rw [(HLE.out h).2, HEN.out], by rw [(HLE.out h).1, hMX]⟩)
            have HOKX : Hid (nosOk l = knownB M) := Lib.hid (by rw [HOK.out, hMX])
            clear hMX HM5 HR5 HG5 HOB HOK HRW HEN HLE
            have HOK := HOKX
            generalize bEnd l (bEnd l 2) = E at HRAW ⊢
            go_wp2
            go_loopw [64] (fun iv wr => ∃ i : Nat, i ≤ M.length ∧ iv = .int .i64 i ∧ Hid (∀ j x, j < i → M[j]? = some x → fKind x ≠ 0) ∧ Hid (Below wX.heap.size wX wr) ∧ wX.heap.size ≤ wr.heap.size) (fun iv _ => M.length - (intOf iv).toNat)
            case atStart => exact ⟨0, Nat.zero_le _, rfl, Lib.hid (fun j x hj => absurd hj (by omega)), Lib.hid (Below.refl _ _), Nat.le_refl _⟩
            case round =>
              obtain ⟨i, hi', rfl, HG, HB9, hz9⟩ := hrel
              have HBW : Hid (Below w.heap.size w wr) := Lib.hid (HBX.out.trans (HB9.out.mono hzX))
              by_cases hin : i < M.length
              · obtain ⟨x, hx⟩ : ∃ x, M[i]? = some x := ⟨_, List.getElem?_eq_getElem hin⟩
                obtain ⟨b, off, hA, hbl, d0⟩ := HVX.out.at hx
                first | subst hA | (simp only [Option.some.injEq, Addr.mk.injEq, and_true] at hA; obtain ⟨rfl, rfl⟩ := hA)
                have d0 := (HB9.out.cell (p := ⟨_, _, none⟩) hbl).trans d0
                have HX := Lib.hid hx
                have g1 : (i : Int) < (M.length : Int) := by omega
                have g2 : 0 ≤ (i : Int) := by omega
                have HFK := Lib.hid (implFieldKind_any x)
                clear hx
                by_cases hk : fKind x = 0
                · have HK : Hid (nosOk l = false) := Lib.hid (by rw [HOK.out]; exact known_no HX.out hk)
                  rw [hk] at HFK
                  clear hk
                  go_wp2_with fail
                  refine (HFK.out _).mono ?_
                  rintro e w10 ⟨rfl, hb10⟩
                  have HB10 : Hid (Below w.heap.size w w10) := Lib.hid (HBW.out.trans (hb10.mono (by omega)))
                  clear hb10
                  go_wp2_with fail
                  refine (need_no 2 _).mono ?_
                  rintro e w11 ⟨rfl, rfl⟩
                  go_wp2
                  exact ⟨rfl, bmRes_no HK.out HB10.out⟩
                · have hk' : (fKind x != 0) = true := by simpa using hk
                  have HKX := Lib.hid hk
                  clear hk
                  go_wp2_with fail
                  refine (HFK.out _).mono ?_
                  rintro e w10 ⟨rfl, hb10⟩
                  have HB10 : Hid (Below wX.heap.size wX w10) := Lib.hid (HB9.out.trans (hb10.mono (by omega)))
                  have hz10 : wr.heap.size ≤ w10.heap.size := hb10.size
                  clear hb10
                  go_wp2_with fail
                  refine (need_yes 2 _).mono ?_
                  rintro e w11 ⟨rfl, rfl⟩
                  go_wp2
                  go_roundw
                  case rel => exact ⟨i + 1, by omega, by go_num, Lib.hid (fun j y hj hy => by
                    by_cases e : j = i
                    · subst e; rw [HX.out] at hy; cases hy; exact HKX.out
                    · exact HG.out j y (by omega) hy), HB10, by omega⟩
                  case measure => simp [intOf] <;> omega
              · obtain rfl : i = M.length := by omega
                have HK : Hid (nosOk l = true) := Lib.hid (by rw [HOK.out]; exact known_yes HG.out)
                have HNL := Lib.hid (HRAW.out HK.out)
                go_wp2
                go_ret2
                have hr := HVX.out.below HB9.out (Nat.le_refl _)
                refine bmRes_yes HK.out ?_ ?_ HBW.out
                · exact HNL.out.1
                · show rd .i64 wr.heap.size wr (.slice A5 M.length c5) (nosL l)
                  rw [HNL.out.2]; exact hr.mono hz9
      · have hc2' : 1 < c1 := by omega
        have HROW2 : Hid (offRow w.heap.size w2 (.slice (some ⟨g, 1, none⟩) r.length (c1 - 1)) r) := Lib.hid (HROW1.out.below HBK.out (Nat.le_refl _))
        clear HV2
        go_wp2
        go_loopw [6, 52] (fun rv iv wr => ∃ (i : Nat) (A5 : Option Addr) (c5 : Nat) (M : List Int), i ≤ S.length ∧ iv = .int .i64 i ∧ rv = .slice A5 M.length c5 ∧ Hid (M = r ++ (S.take i).map (· + 64)) ∧ M.length ≤ r.length + i ∧ Hid (offRow w.heap.size wr (.slice A5 M.length c5) M) ∧ Hid (w2.grownBy wr (some g)) ∧ Hid (∀ b, (Value.slice A5 M.length c5).ownBlock = some b → b = g ∨ w2.heap.size ≤ b) ∧ w2.heap.size ≤ wr.heap.size) (fun _ iv _ => S.length - (intOf iv).toNat)
        case atStart => exact ⟨0, _, _, r, Nat.zero_le _, rfl, rfl, Lib.hid (by simp), Nat.le_refl _, HROW2, Lib.hid ⟨rfl, rfl, rfl, Nat.le_refl _, fun _ _ _ => rfl⟩, Lib.hid (fun b hb => Or.inl (by simpa [Value.ownBlock] using hb.symm)), Nat.le_refl _⟩
        case round =>
          obtain ⟨i, A5, c5, M, hi5, rfl, rfl, HM5, hMl, HR5, HG5, HOB, hz5⟩ := hrel
          by_cases hin : i < S.length
          · obtain ⟨x, hx⟩ : ∃ x, S[i]? = some x := ⟨_, List.getElem?_eq_getElem hin⟩
            obtain ⟨b, off, hA, hbl0, hbl, d0⟩ := HU2.out.at hx
            subst hA
            have HX := Lib.hid (take_snocI hx)
            obtain ⟨hx1, hx2⟩ := HSB.out x (List.mem_of_getElem? hx)
            have d0 := (cell_keep (o := off + i) (HG5.out.block b hbl (fun e => by simp at e; omega))).trans d0
            have g1 : (i : Int) < (S.length : Int) := by omega
            have g2 : 0 ≤ (i : Int) := by omega
            clear hx
            go_wp2_with (at_builtin; refine app_off _ _ rfl (by rfl) w.heap.size _ _ M (x + 64) _ (by rfl) (by rfl) (by simp) HR5.out (by unfold maxLen; omega) (by omega) (by omega) ?_)
            intro A7 c7 w7 hrow7 hc7 hg7 hlies7
            have hz7 : wr.heap.size ≤ w7.heap.size := hg7.size
            have HR7 := Lib.hid hrow7
            have HG7 : Hid (w2.grownBy w7 (some g)) := Lib.hid (HG5.out.andThen hg7 (fun j hj => by rcases HOB.out j hj with h | h; exact Or.inr (by rw [h]); exact Or.inl h))
            have HOB7 : Hid (∀ b, (Value.slice A7 (M.length + 1) c7).ownBlock = some b → b = g ∨ w2.heap.size ≤ b) := Lib.hid (fun b hb => by
              rcases hlies7 with h | h
              · exact HOB.out b (by rw [← h]; exact hb)
              · exact Or.inr (by have := h b hb; omega))
            clear hrow7 hg7 hlies7
            go_wp2
            go_roundw
            case rel => exact ⟨i + 1, A7, c7, M ++ [x + 64], by omega, by go_num, by rw [List.length_append]; rfl, Lib.hid (by rw [HX.out, HM5.out, List.map_append, List.append_assoc]; rfl), by simp; omega, Lib.hid (by rw [List.length_append]; exact HR7.out), HG7, Lib.hid (by rw [List.length_append]; exact HOB7.out), by omega⟩
            case measure => simp [intOf] <;> omega
          · obtain rfl : i = S.length := by omega
            obtain ⟨wX, hwX⟩ : ∃ wX, wX = wr := ⟨_, rfl⟩
            subst hwX
            have hMX : M = nosRaw l := by rw [HM5.out, List.take_length, HRW.out]
            have HVX := Lib.hid HR5.out.rd
            have HBX : Hid (Below w.heap.size w wX) := Lib.hid (HB2.out.grown HG5.out (by omega) (fun j hj => by cases hj; exact hgB))
            have hzX : w.heap.size ≤ wX.heap.size := by omega
            have HRAW : Hid (nosOk l = true → nosE l = bEnd l (bEnd l 2) ∧ nosL l = M) := Lib.hid (fun h => ⟨by rw [(HLE.out h).2, HEN.out], by rw [(HLE.out h).1, hMX]⟩)
            have HOKX : Hid (nosOk l = knownB M) := Lib.hid (by rw [HOK.out, hMX])
            clear hMX HM5 HR5 HG5 HOB HOK HRW HEN HLE
            have HOK := HOKX
            generalize bEnd l (bEnd l 2) = E at HRAW ⊢
            go_wp2
            go_loopw [64] (fun iv wr => ∃ i : Nat, i ≤ M.length ∧ iv = .int .i64 i ∧ Hid (∀ j x, j < i → M[j]? = some x → fKind x ≠ 0) ∧ Hid (Below wX.heap.size wX wr) ∧ wX.heap.size ≤ wr.heap.size) (fun iv _ => M.length - (intOf iv).toNat)
            case atStart => exact ⟨0, Nat.zero_le _, rfl, Lib.hid (fun j x hj => absurd hj (by omega)), Lib.hid (Below.refl _ _), Nat.le_refl _⟩
            case round =>
              obtain ⟨i, hi', rfl, HG, HB9, hz9⟩ := hrel
              have HBW : Hid (Below w.heap.size w wr) := Lib.hid (HBX.out.trans (HB9.out.mono hzX))
              by_cases hin : i < M.length
              · obtain ⟨x, hx⟩ : ∃ x, M[i]? = some x := ⟨_, List.getElem?_eq_getElem hin⟩
                obtain ⟨b, off, hA, hbl, d0⟩ := HVX.out.at hx
                first | subst hA | (simp only [Option.some.injEq, Addr.mk.injEq, and_true] at hA; obtain ⟨rfl, rfl⟩ := hA)
                have d0 := (HB9.out.cell (p := ⟨_, _, none⟩) hbl).trans d0
                have HX := Lib.hid hx
                have g1 : (i : Int) < (M.length : Int) := by omega
                have g2 : 0 ≤ (i : Int) := by omega
                have HFK := Lib.hid (implFieldKind_any x)
                clear hx
                by_cases hk : fKind x = 0
                · have HK : Hid (nosOk l = false) := Lib.hid (by rw [HOK.out]; exact known_no HX.out hk)
                  rw [hk] at HFK
                  clear hk
                  go_wp2_with fail
                  refine (HFK.out _).mono ?_
                  rintro e w10 ⟨rfl, hb10⟩
                  have HB10 : Hid (Below w.heap.size w w10) := Lib.hid (HBW.out.trans (hb10.mono (by omega)))
                  clear hb10
                  go_wp2_with fail
                  refine (need_no 2 _).mono ?_
                  rintro e w11 ⟨rfl, rfl⟩
                  go_wp2
                  exact ⟨rfl, bmRes_no HK.out HB10.out⟩
                · have hk' : (fKind x != 0) = true := by simpa using hk
                  have HKX := Lib.hid hk
                  clear hk
                  go_wp2_with fail
                  refine (HFK.out _).mono ?_
                  rintro e w10 ⟨rfl, hb10⟩
                  have HB10 : Hid (Below wX.heap.size wX w10) := Lib.hid (HB9.out.trans (hb10.mono (by omega)))
                  have hz10 : wr.heap.size ≤ w10.heap.size := hb10.size
                  clear hb10
                  go_wp2_with fail
                  refine (need_yes 2 _).mono ?_
                  rintro e w11 ⟨rfl, rfl⟩
                  go_wp2
                  go_roundw
                  case rel => exact ⟨i + 1, by omega, by go_num, Lib.hid (fun j y hj hy => by
                    by_cases e : j = i
                    · subst e; rw [HX.out] at hy; cases hy; exact HKX.out
                    · exact HG.out j y (by omega) hy), HB10, by omega⟩
                  case measure => simp [intOf] <;> omega
              · obtain rfl : i = M.length := by omega
                have HK : Hid (nosOk l = true) := Lib.hid (by rw [HOK.out]; exact known_yes HG.out)
                have HNL := Lib.hid (HRAW.out HK.out)
                go_wp2
                go_ret2
                have hr := HVX.out.below HB9.out (Nat.le_refl _)
                refine bmRes_yes HK.out ?_ ?_ HBW.out
                · exact HNL.out.1
                · show rd .i64 wr.heap.size wr (.slice A5 M.length c5) (nosL l)
                  rw [HNL.out.2]; exact hr.mono hz9
    · have HK : Hid (nosOk l = false) := Lib.hid (by rw [HMM.out.2.2, hi2]; simp [h0])
      have hg0 : decide (0 < (bGet l (bEnd l 2)).length) = false := by rw [decide_eq_false_iff_not]; exact h0
      have HB2 := Lib.hid (HB1.out.trans (hb2.mono hz1))
      have HG0 := Lib.hid hg0
      clear hb2 hv2 hi2 h0 hg0
      go_wp2_with fail
      rw [HG0.out]
      refine (need_no 2 _).mono ?_
      rintro e w3 ⟨rfl, rfl⟩
      go_wp2
      exact ⟨rfl, bmRes_no HK.out HB2.out⟩
  · -- there is none
    have hmf : moreB (bGet l 2) = false := by simpa using hm
    have HNN := Lib.hid (HN.out hmf)
    have hlow : lowOnes (bGet l 2) = bGet l 2 := by
      cases hg : bGet l 2 with
      | nil => rfl
      | cons x r =>
        rw [hg] at hup hbd hmf
        have hh := head_more hup (fun z hz => (hbd z hz).1)
        by_cases hx : x = 1
        · rw [(hh.1 hx).1] at hmf; cases hmf
        · exact (hh.2 hx).2
    have HVX := Lib.hid HV1.out.nums.rd
    have HRAW : Hid (nosOk l = true → nosE l = bEnd l 2 ∧ nosL l = bGet l 2) := Lib.hid (fun h => ⟨by rw [(HLE.out h).2, HNN.out.2.1], by rw [(HLE.out h).1, HNN.out.1, hlow]⟩)
    have HOK : Hid (nosOk l = knownB (bGet l 2)) := Lib.hid (by rw [HNN.out.2.2, HNN.out.1, hlow])
    have HHD : Hid (∀ x r, bGet l 2 = x :: r → x ≠ 1) := Lib.hid (fun x r h e => by subst e; rw [h] at hmf; simp [moreB] at hmf)
    obtain ⟨wX, hwX⟩ : ∃ wX, wX = w1 := ⟨_, rfl⟩
    subst hwX
    have HBX := HB1
    have hzX := hz1
    clear hm hmf hup hbd HM HN HNN hlow HLE HV1 HG1 HG2
    generalize bEnd l 2 = E at HRAW ⊢
    generalize bGet l 2 = X at HVX HRAW HOK HHD hc1 hg64 ⊢
    by_cases hpos : 0 < X.length
    · obtain ⟨x, hx⟩ : ∃ x, X[0]? = some x := ⟨_, List.getElem?_eq_getElem hpos⟩
      have hx1 : (x == 1) = false := by
        cases X with
        | nil => simp at hpos
        | cons y r =>
          obtain rfl : y = x := by simpa using hx
          simpa using HHD.out y r rfl
      obtain ⟨g, off, hA, hgl, d0⟩ := HVX.out.at (j := 0) (x := x) hx
      subst hA
      simp only [Nat.add_zero] at d0
      have gpos : (0 : Int) < (X.length : Int) := by omega
      clear hx HHD
      go_wp2
      go_loopw [64] (fun iv wr => ∃ i : Nat, i ≤ X.length ∧ iv = .int .i64 i ∧ Hid (∀ j x, j < i → X[j]? = some x → fKind x ≠ 0) ∧ Hid (Below wX.heap.size wX wr) ∧ wX.heap.size ≤ wr.heap.size) (fun iv _ => X.length - (intOf iv).toNat)
      case atStart => exact ⟨0, Nat.zero_le _, rfl, Lib.hid (fun j x hj => absurd hj (by omega)), Lib.hid (Below.refl _ _), Nat.le_refl _⟩
      case round =>
        obtain ⟨i, hi', rfl, HG, HB9, hz9⟩ := hrel
        have HBW : Hid (Below w.heap.size w wr) := Lib.hid (HBX.out.trans (HB9.out.mono hzX))
        by_cases hin : i < X.length
        · obtain ⟨x, hx⟩ : ∃ x, X[i]? = some x := ⟨_, List.getElem?_eq_getElem hin⟩
          obtain ⟨b, off, hA, hbl, d0⟩ := HVX.out.at hx
          first | subst hA | (simp only [Option.some.injEq, Addr.mk.injEq, and_true] at hA; obtain ⟨rfl, rfl⟩ := hA)
          have d0 := (HB9.out.cell (p := ⟨_, _, none⟩) hbl).trans d0
          have HX := Lib.hid hx
          have g1 : (i : Int) < (X.length : Int) := by omega
          have g2 : 0 ≤ (i : Int) := by omega
          have HFK := Lib.hid (implFieldKind_any x)
          clear hx
          by_cases hk : fKind x = 0
          · have HK : Hid (nosOk l = false) := Lib.hid (by rw [HOK.out]; exact known_no HX.out hk)
            rw [hk] at HFK
            clear hk
            go_wp2_with fail
            refine (HFK.out _).mono ?_
            rintro e w10 ⟨rfl, hb10⟩
            have HB10 : Hid (Below w.heap.size w w10) := Lib.hid (HBW.out.trans (hb10.mono (by omega)))
            clear hb10
            go_wp2_with fail
            refine (need_no 2 _).mono ?_
            rintro e w11 ⟨rfl, rfl⟩
            go_wp2
            exact ⟨rfl, bmRes_no HK.out HB10.out⟩
          · have hk' : (fKind x != 0) = true := by simpa using hk
            have HKX := Lib.hid hk
            clear hk
            go_wp2_with fail
            refine (HFK.out _).mono ?_
            rintro e w10 ⟨rfl, hb10⟩
            have HB10 : Hid (Below wX.heap.size wX w10) := Lib.hid (HB9.out.trans (hb10.mono (by omega)))
            have hz10 : wr.heap.size ≤ w10.heap.size := hb10.size
            clear hb10
            go_wp2_with fail
            refine (need_yes 2 _).mono ?_
            rintro e w11 ⟨rfl, rfl⟩
            go_wp2
            go_roundw
            case rel => exact ⟨i + 1, by omega, by go_num, Lib.hid (fun j y hj hy => by
              by_cases e : j = i
              · subst e; rw [HX.out] at hy; cases hy; exact HKX.out
              · exact HG.out j y (by omega) hy), HB10, by omega⟩
            case measure => simp [intOf] <;> omega
        · obtain rfl : i = X.length := by omega
          have HK : Hid (nosOk l = true) := Lib.hid (by rw [HOK.out]; exact known_yes HG.out)
          have HNL := Lib.hid (HRAW.out HK.out)
          go_wp2
          go_ret2
          have hr := HVX.out.below HB9.out (Nat.le_refl _)
          refine bmRes_yes HK.out ?_ ?_ HBW.out
          · exact HNL.out.1
          · show rd .i64 wr.heap.size wr (.slice (some ⟨g, off, none⟩) X.length c1) (nosL l)
            rw [HNL.out.2]; exact hr.mono hz9
    · have hg0 : decide (0 < X.length) = false := by rw [decide_eq_false_iff_not]; exact hpos
      clear HHD
      go_wp2
      go_loopw [64] (fun iv wr => ∃ i : Nat, i ≤ X.length ∧ iv = .int .i64 i ∧ Hid (∀ j x, j < i → X[j]? = some x → fKind x ≠ 0) ∧ Hid (Below wX.heap.size wX wr) ∧ wX.heap.size ≤ wr.heap.size) (fun iv _ => X.length - (intOf iv).toNat)
      case atStart => exact ⟨0, Nat.zero_le _, rfl, Lib.hid (fun j x hj => absurd hj (by omega)), Lib.hid (Below.refl _ _), Nat.le_refl _⟩
      case round =>
        obtain ⟨i, hi', rfl, HG, HB9, hz9⟩ := hrel
        have HBW : Hid (Below w.heap.size w wr) := Lib.hid (HBX.out.trans (HB9.out.mono hzX))
        by_cases hin : i < X.length
        · obtain ⟨x, hx⟩ : ∃ x, X[i]? = some x := ⟨_, List.getElem?_eq_getElem hin⟩
          obtain ⟨b, off, hA, hbl, d0⟩ := HVX.out.at hx
          first | subst hA | (simp only [Option.some.injEq, Addr.mk.injEq, and_true] at hA; obtain ⟨rfl, rfl⟩ := hA)
          have d0 := (HB9.out.cell (p := ⟨_, _, none⟩) hbl).trans d0
          have HX := Lib.hid hx
          have g1 : (i : Int) < (X.length : Int) := by omega
          have g2 : 0 ≤ (i : Int) := by omega
          have HFK := Lib.hid (implFieldKind_any x)
          clear hx
          by_cases hk : fKind x = 0
          · have HK : Hid (nosOk l = false) := Lib.hid (by rw [HOK.out]; exact known_no HX.out hk)
            rw [hk] at HFK
            clear hk
            go_wp2_with fail
            refine (HFK.out _).mono ?_
            rintro e w10 ⟨rfl, hb10⟩
            have HB10 : Hid (Below w.heap.size w w10) := Lib.hid (HBW.out.trans (hb10.mono (by omega)))
            clear hb10
            go_wp2_with fail
            refine (need_no 2 _).mono ?_
            rintro e w11 ⟨rfl, rfl⟩
            go_wp2
            exact ⟨rfl, bmRes_no HK.out HB10.out⟩
          · have hk' : (fKind x != 0) = true := by simpa using hk
            have HKX := Lib.hid hk
            clear hk
            go_wp2_with fail
            refine (HFK.out _).mono ?_
            rintro e w10 ⟨rfl, hb10⟩
            have HB10 : Hid (Below wX.heap.size wX w10) := Lib.hid (HB9.out.trans (hb10.mono (by omega)))
            have hz10 : wr.heap.size ≤ w10.heap.size := hb10.size
            clear hb10
            go_wp2_with fail
            refine (need_yes 2 _).mono ?_
            rintro e w11 ⟨rfl, rfl⟩
            go_wp2
            go_roundw
            case rel => exact ⟨i + 1, by omega, by go_num, Lib.hid (fun j y hj hy => by
              by_cases e : j = i
              · subst e; rw [HX.out] at hy; cases hy; exact HKX.out
              · exact HG.out j y (by omega) hy), HB10, by omega⟩
            case measure => simp [intOf] <;> omega
        · obtain rfl : i = X.length := by omega
          have HK : Hid (nosOk l = true) := Lib.hid (by rw [HOK.out]; exact known_yes HG.out)
          have HNL := Lib.hid (HRAW.out HK.out)
          go_wp2
          go_ret2
          have hr := HVX.out.below HB9.out (Nat.le_refl _)
          refine bmRes_yes HK.out ?_ ?_ HBW.out
          · exact HNL.out.1
          · show rd .i64 wr.heap.size wr (.slice A1 X.length c1) (nosL l)
            rw [HNL.out.2]; exact hr.mono hz9
end Go.Proofs.YtkkbhlaakhkjnaaGreatDoor
