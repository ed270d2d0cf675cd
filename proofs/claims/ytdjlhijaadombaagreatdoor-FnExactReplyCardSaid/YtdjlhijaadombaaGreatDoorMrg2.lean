/- Encode of the reference; no conditions. -/
import Derived.Test.YtdjlhijaadombaaGreatDoorMsgRow
import Derived.Test.YtdjlhijaadombaaGreatDoorMsgS
import Derived.Test.YtdjlhijaadombaaGreatDoorMrg1
import Derived.Test.YtdjlhijaadombaaGreatDoorMsgF
import Derived.Maps.StringElems
import Derived.Test.YtdjlhijaadombaaGreatDoorReplyS
import Derived.Test.YtdjlhijaadombaaGreatDoorMti
import Derived.Test.YtdjlhijaadombaaGreatDoorCodes
import Derived.Test.YtdjlhijaadombaaGreatDoorShelf
import Derived.Sort.OwnSortedInts
import Derived.Maps.RangeWalk
import Derived.Deep.RegionHeld3
import Derived.Carry
import Derived.Deep.Cut
import Derived.Deep.DeepCutAuto
import Derived.Test.YtdjlhijaadombaaGreatDoorBase
import Derived.Test.YtdjlhijaadombaaGreatDoorConv
import Derived.BigQuiet
import Derived.Deep.QuietTactic
import Derived.Deep.RegionWith
import Derived.Lib.ItoaNum
import Derived.Lib.ItoaLen
import Derived.Test.YtdjlhijaadombaaGreatDoorField
import Derived.Test.YtdjlhijaadombaaGreatDoorRep
import Derived.Test.YtdjlhijaadombaaGreatDoorNums
set_option linter.unusedVariables false
namespace Go.Proofs.YtdjlhijaadombaaGreatDoor
open Go.ChangeShapes Go.WideShapes Go.ChangeAt Go.RowKit

set_option maxRecDepth 100000 in
theorem infoInt : (Tryz.prog.info? 3).map (fun i => (i.zero.map (·.cells), i.size, i.bytes)) = some (some #[.int .i64 0], 1, 8) := by kernel_rfl
set_option maxRecDepth 100000 in
theorem fOk_range {no : Int} {s : ByteArray} (h : fOk no s = true) : 2 ≤ no ∧ no ≤ 103 := by
  have hk : fKind no ≠ 0 := fun e => by rw [fOk_no e] at h; cases h
  unfold fKind at hk
  repeat' (split at hk <;> try omega)
def lows (l : List FieldD) : List Int := (l.filter fun x => decide (x.1 ≤ 64)).map (·.1)
def highs (l : List FieldD) : List Int := (l.filter fun x => decide (64 < x.1)).map (·.1 - 64)
set_option maxRecDepth 100000 in
theorem take_snocF {l : List FieldD} {i : Nat} {x : FieldD} (h : l[i]? = some x) : l.take (i + 1) = l.take i ++ [x] := by
  obtain ⟨hi, rfl⟩ := List.getElem?_eq_some_iff.1 h
  rw [List.take_succ_eq_append_getElem hi]
set_option maxRecDepth 100000 in
theorem lows_snoc (l : List FieldD) (x : FieldD) : lows (l ++ [x]) = if x.1 ≤ 64 then lows l ++ [x.1] else lows l := by
  unfold lows
  rw [List.filter_append, List.map_append]
  by_cases h : x.1 ≤ 64 <;> simp [h]
set_option maxRecDepth 100000 in
theorem highs_snoc (l : List FieldD) (x : FieldD) : highs (l ++ [x]) = if 64 < x.1 then highs l ++ [x.1 - 64] else highs l := by
  unfold highs
  rw [List.filter_append, List.map_append]
  by_cases h : 64 < x.1 <;> simp [h]
set_option maxRecDepth 100000 in
theorem lows_len (l : List FieldD) : (lows l).length ≤ l.length := by unfold lows; rw [List.length_map]; exact List.length_filter_le _ _
set_option maxRecDepth 100000 in
theorem highs_len (l : List FieldD) : (highs l).length ≤ l.length := by unfold highs; rw [List.length_map]; exact List.length_filter_le _ _
/-- the bits of a message -/
def bitsL (l : List FieldD) : List Int := if highs l = [] then putB (lows l) else putB (lows l ++ [1]) ++ putB (highs l)
/-- the fields of a message -/
def bodyL (l : List FieldD) : List Int := l.flatMap fun x => putFL x.1 x.2
def encL (m : MsgD) : List Int := if msgOk m = true then bcd m.1 ++ bitsL m.2 ++ bodyL m.2 else []
set_option maxRecDepth 100000 in
theorem bodyL_snoc (l : List FieldD) (x : FieldD) : bodyL (l ++ [x]) = bodyL l ++ putFL x.1 x.2 := by unfold bodyL; rw [List.flatMap_append]; simp
set_option maxRecDepth 100000 in
theorem bodyL_len (l : List FieldD) (h : ∀ x ∈ l, x.2.size ≤ 60) : (bodyL l).length ≤ 1048700 * l.length := by
  induction l with
  | nil => simp [bodyL]
  | cons x l ih =>
    have h1 := ih fun y hy => h y (List.mem_cons_of_mem _ hy)
    have h2 := putFL_len x.1 x.2 (by have := h x (List.mem_cons_self ..); omega)
    unfold bodyL at h1 ⊢
    rw [List.flatMap_cons, List.length_append, List.length_cons]
    omega
set_option maxRecDepth 100000 in
theorem putB_len8 (l : List Int) : (putB l).length = 8 := by unfold putB; rw [fold_len]; simp
set_option maxRecDepth 100000 in
theorem apart_new {v v' : Value} {u : Value} {n : Nat} (h : v'.ownBlock = v.ownBlock ∨ v'.ownBlock = some n) (ha : ∀ g, u.ownBlock = some g → v.ownBlock ≠ some g) (hn : ∀ g, u.ownBlock = some g → g < n) : ∀ g, u.ownBlock = some g → v'.ownBlock ≠ some g := by
  intro g hg e
  rcases h with h | h
  · exact ha g hg (h ▸ e)
  · have hng : n = g := by rw [h] at e; exact Option.some.inj e
    have := hn g hg
    omega
set_option maxRecDepth 100000 in
theorem apart_comm {v u : Value} (h : ∀ g, u.ownBlock = some g → v.ownBlock ≠ some g) : ∀ g, v.ownBlock = some g → u.ownBlock ≠ some g := fun g hg e => h g e hg

end Go.Proofs.YtdjlhijaadombaaGreatDoor
/- The numbers of a message's fields as the reference reads them; no conditions. -/
set_option linter.unusedVariables false
namespace Go.Proofs.YtdjlhijaadombaaGreatDoor
open Go.ChangeShapes Go.WideShapes Go.ChangeAt Go.RowKit

set_option maxRecDepth 100000 in
theorem getB_bd (p : List Int) (n : Nat) : ∀ z ∈ getB p n, 1 ≤ z ∧ z ≤ n := by
  intro z hz
  unfold getB at hz
  obtain ⟨i, hi, rfl⟩ := List.mem_map.1 hz
  have := (List.mem_filter.1 hi).1
  simp at this
  omega
set_option maxRecDepth 100000 in
theorem bGet_bd (l : List Int) (a : Int) : ∀ z ∈ bGet l a, 1 ≤ z ∧ z ≤ 64 := by
  intro z hz
  unfold bGet at hz
  split at hz
  · exact getB_bd _ _ z hz
  · cases hz
set_option maxRecDepth 100000 in
theorem bGet_len64 (l : List Int) (a : Int) : (bGet l a).length ≤ 64 := by
  unfold bGet
  split
  · unfold getB
    rw [List.length_map]
    exact Nat.le_trans (List.length_filter_le _ _) (by simp)
  · simp
def lowOnes (l : List Int) : List Int := l.filter fun z => decide (z ≠ 1)
def moreB (l : List Int) : Bool := decide (1 ∈ l)
def nosRaw (l : List Int) : List Int := if moreB (bGet l 2) = true then lowOnes (bGet l 2) ++ (bGet l (bEnd l 2)).map (· + 64) else lowOnes (bGet l 2)
def nosEnd (l : List Int) : Int := if moreB (bGet l 2) = true then bEnd l (bEnd l 2) else bEnd l 2
def knownB (l : List Int) : Bool := l.all fun k => decide (fKind k ≠ 0)
def nosOk (l : List Int) : Bool := bIn l 2 && (!moreB (bGet l 2) || (bIn l (bEnd l 2) && decide (0 < (bGet l (bEnd l 2)).length))) && knownB (nosRaw l)
def nosL (l : List Int) : List Int := if nosOk l = true then nosRaw l else []
def nosE (l : List Int) : Int := if nosOk l = true then nosEnd l else 0
def nosRes (l : List Int) (w : World) (e : Ending) (w' : World) : Prop := ∃ v, e = .returned (.tuple #[v, .int .i64 (nosE l), .bool (nosOk l)]) ∧ nums .i64 w.heap.size w'.heap.size w' v (nosL l) ∧ Below w.heap.size w w'
set_option maxRecDepth 100000 in
theorem nosRes_no {l : List Int} {w w' : World} (h : nosOk l = false) (hb : Below w.heap.size w w') : nosRes l w (.returned (.tuple #[.slice none 0 0, .int .i64 0, .bool false])) w' := by
  refine ⟨.slice none 0 0, by simp [nosE, h], ?_, hb⟩
  have : nosL l = [] := by simp [nosL, h]
  rw [this]
  exact nums_none _ _ _ _
set_option maxRecDepth 100000 in
theorem take_snocI {l : List Int} {i : Nat} {x : Int} (h : l[i]? = some x) : l.take (i + 1) = l.take i ++ [x] := by
  obtain ⟨hi, rfl⟩ := List.getElem?_eq_some_iff.1 h
  rw [List.take_succ_eq_append_getElem hi]
set_option maxRecDepth 100000 in
theorem low_snoc (l : List Int) (x : Int) : lowOnes (l ++ [x]) = if x = 1 then lowOnes l else lowOnes l ++ [x] := by
  unfold lowOnes
  rw [List.filter_append]
  by_cases h : x = 1 <;> simp [h]
set_option maxRecDepth 100000 in
theorem more_snoc (l : List Int) (x : Int) : moreB (l ++ [x]) = if x = 1 then true else moreB l := by
  unfold moreB
  by_cases h : x = 1
  · simp [h]
  · have h' : ¬ (1 : Int) = x := fun e => h e.symm
    simp [h, h']
set_option maxRecDepth 100000 in
theorem known_no {l : List Int} {j : Nat} {x : Int} (hx : l[j]? = some x) (h : fKind x = 0) : knownB l = false := by
  unfold knownB; rw [List.all_eq_false]; exact ⟨x, List.mem_of_getElem? hx, by simp [h]⟩
set_option maxRecDepth 100000 in
theorem known_yes {l : List Int} (h : ∀ j x, j < l.length → l[j]? = some x → fKind x ≠ 0) : knownB l = true := by
  unfold knownB; rw [List.all_eq_true]; intro x hx
  obtain ⟨j, hj⟩ := List.mem_iff_getElem?.1 hx
  simpa using h j x (List.getElem?_eq_some_iff.1 hj).1 hj
end Go.Proofs.YtdjlhijaadombaaGreatDoor
/- GetField of the reference; no conditions. -/
set_option linter.unusedVariables false
namespace Go.Proofs.YtdjlhijaadombaaGreatDoor
open Go.ChangeShapes Go.WideShapes Go.ChangeAt Go.RowKit

set_option maxRecDepth 100000 in
theorem rawOk_neg {kd : Int} {l : List Int} {a sz : Int} (h : a < 0) : rawOk kd l a sz = false := by
  unfold rawOk
  repeat' split
  · exact gOk_out (gIn_no (.inr (.inr (.inl h))))
  · exact inR_no (.inl h)
  all_goals rw [lenGot_neg h, Bool.false_and]
set_option maxRecDepth 100000 in
theorem getOk_neg {kd : Int} {l : List Int} {a sz : Int} (h : a < 0) : getOk kd l a sz = false := by unfold getOk; rw [rawOk_neg h, Bool.false_and]
set_option maxRecDepth 100000 in
theorem str_size (t : List UInt8) : (⟨t.toArray⟩ : ByteArray).size = t.length := rfl
set_option maxRecDepth 100000 in
theorem getOk1 {l : List Int} {a sz : Int} (hl : isBytes l) : getOk 1 l a sz = gOk l a sz := by
  unfold getOk rawOk rawTxt okBy
  simp only [if_true]
  cases h : gOk l a sz
  · rfl
  · have := gTxt_ok hl h
    rw [this.2, str_size, this.1]
    simp
set_option maxRecDepth 100000 in
theorem getOk2 {l : List Int} {a sz : Int} : getOk 2 l a sz = (inR l a sz && prnS ⟨(tPart l a sz).toArray⟩) := by
  unfold getOk rawOk rawTxt okBy
  simp only [show ((2 : Int) = 1) = False by simp, if_false, if_true]
  cases h : inR l a sz
  · rfl
  · have h1 := tPart_len h
    have h2 := inR_yes h
    rw [str_size, h1]
    have : decide (((sz.toNat : Nat) : Int) = sz) = true := by simp; omega
    rw [this, Bool.true_and]
set_option maxRecDepth 100000 in
theorem getOk3 {l : List Int} {a sz : Int} (hl : isBytes l) : getOk 3 l a sz = (lenGot l a 2 && (decide (1 ≤ lenVal l a 2) && decide (lenVal l a 2 ≤ sz)) && gOk l (lenEnd l a 2) (lenVal l a 2)) := by
  unfold getOk rawOk rawTxt okBy
  simp only [show ((3 : Int) = 1) = False by simp, show ((3 : Int) = 2) = False by simp, if_false, if_true]
  cases hg : lenGot l a 2
  · rfl
  cases h : gOk l (lenEnd l a 2) (lenVal l a 2)
  · simp
  · have h1 := gTxt_ok hl h
    have h2 := gIn_bd (gOk_in h).1
    rw [h1.2, str_size, h1.1]
    simp
    omega
set_option maxRecDepth 100000 in
theorem getOk45 {l : List Int} {a sz : Int} {kd d : Int} (hk : kd = 4 ∧ d = 2 ∨ kd = 5 ∧ d = 3) : getOk kd l a sz = (lenGot l a d && (decide (1 ≤ lenVal l a d) && decide (lenVal l a d ≤ sz)) && (inR l (lenEnd l a d) (lenVal l a d) && prnS ⟨(tPart l (lenEnd l a d) (lenVal l a d)).toArray⟩)) := by
  have key : ∀ (G I p : Bool) (V : Int) (n : Nat), 0 ≤ V → (I = true → n = V.toNat) → (G && I && ((decide (0 < n) && decide ((n : Int) ≤ sz)) && p)) = (G && (decide (1 ≤ V) && decide (V ≤ sz)) && (I && p)) := by
    intro G I p V n hV hI
    cases G
    · rfl
    cases I
    · simp
    · have := hI rfl
      subst this
      have e1 : decide (0 < V.toNat) = decide (1 ≤ V) := by apply decide_eq_decide.2; omega
      have e2 : decide (((V.toNat : Nat) : Int) ≤ sz) = decide (V ≤ sz) := by apply decide_eq_decide.2; omega
      rw [e1, e2]
      cases decide (1 ≤ V) <;> cases decide (V ≤ sz) <;> simp
  rcases hk with ⟨rfl, rfl⟩ | ⟨rfl, rfl⟩
  · unfold getOk rawOk rawTxt okBy
    simp only [show ((4 : Int) = 1) = False by simp, show ((4 : Int) = 2) = False by simp, show ((4 : Int) = 3) = False by simp, if_false, if_true, true_or]
    rw [str_size]
    exact key _ _ _ _ _ (lenVal_bd l a 2).1 (fun h => tPart_len h)
  · unfold getOk rawOk rawTxt okBy
    simp only [show ((5 : Int) = 1) = False by simp, show ((5 : Int) = 2) = False by simp, show ((5 : Int) = 3) = False by simp, show ((5 : Int) = 4) = False by simp, if_false, if_true, or_true]
    rw [str_size]
    exact key _ _ _ _ _ (lenVal_bd l a 3).1 (fun h => tPart_len h)
set_option maxRecDepth 100000 in
/-- the text at x, m bytes long: what string(b[x:x+m]) gives -/
theorem part_str {hi : Nat} {w : World} {b off c x m : Nat} {l : List Int} (h : rd .u8 hi w (.slice (some ⟨b, off, none⟩) l.length c) l) (h0 : 0 < l.length) (hm : x + m ≤ l.length) :
    (convert 56 9 (.slice (some ⟨b, off + x, none⟩) (x + m - x) (c - x))).run Tryz.prog w = .ok (.string ⟨(tPart l (x : Int) (m : Int)).toArray⟩) w := by
  obtain ⟨A, c', he, hc, hj⟩ := h
  injection he with e1 e2 e3
  subst e1
  subst e3
  have hj' : ∀ j, j < l.length → w.cell? ⟨b, off + j, none⟩ = some (.int .u8 (l.getD j 0)) := fun j hjl => by
    obtain ⟨b', off', e, _, hx⟩ := hj j hjl
    simp only [Option.some.injEq, Addr.mk.injEq, and_true] at e
    obtain ⟨rfl, rfl⟩ := e
    exact hx
  obtain ⟨b', off', e, hb, -⟩ := hj 0 h0
  simp only [Option.some.injEq, Addr.mk.injEq, and_true] at e
  obtain ⟨rfl, rfl⟩ := e
  rw [Nat.add_sub_cancel_left]
  exact str_of_rd (rd_part hj' hb hc hm)

end Go.Proofs.YtdjlhijaadombaaGreatDoor
/- What Parse comes to, as plain data; no conditions. -/
set_option linter.unusedVariables false
namespace Go.Proofs.YtdjlhijaadombaaGreatDoor
open Go.ChangeShapes Go.WideShapes Go.ChangeAt Go.RowKit

def gfOk (l : List Int) (a no : Int) : Bool := decide (fKind no ≠ 0) && getOk (fKind no) l a (fSize no)
def gfTxt (l : List Int) (a no : Int) : ByteArray := ⟨(rawTxt (fKind no) l a (fSize no)).toArray⟩
def gfEnd (l : List Int) (a no : Int) : Int := rawEnd (fKind no) l a (fSize no)
set_option maxRecDepth 100000 in
theorem get_yes {l : List Int} {a no : Int} (h : gfOk l a no = true) : getRes l a no = .returned (.tuple #[.string (gfTxt l a no), .int .i64 (gfEnd l a no), .bool true]) := by
  unfold gfOk at h
  simp only [Bool.and_eq_true, decide_eq_true_eq] at h
  unfold getRes
  rw [if_neg h.1, trip_on h.2]
  rfl
set_option maxRecDepth 100000 in
theorem get_no {l : List Int} {a no : Int} (h : gfOk l a no = false) : getRes l a no = .returned (.tuple #[.string ⟨#[]⟩, .int .i64 0, .bool false]) := by
  unfold gfOk at h
  unfold getRes
  by_cases hk : fKind no = 0
  · rw [if_pos hk, trip_of rfl]
  · rw [if_neg hk]
    simp only [hk, ne_eq, not_false_eq_true, decide_true, Bool.true_and] at h
    rw [trip_of h]
set_option maxRecDepth 100000 in
theorem gEnd_le {l : List Int} {a n : Int} (h : gOk l a n = true) : gEnd l a n ≤ l.length := by
  unfold gEnd
  rw [if_pos h]
  exact (gIn_bd (gOk_in h).1).2.2.2
set_option maxRecDepth 100000 in
theorem gfEnd_le {l : List Int} {a no : Int} (h : gfOk l a no = true) : gfEnd l a no ≤ l.length := by
  unfold gfOk getOk at h
  simp only [Bool.and_eq_true, decide_eq_true_eq] at h
  obtain ⟨-, h, -⟩ := h
  unfold gfEnd rawEnd
  unfold rawOk at h
  split at h
  · next h1 => rw [if_pos h1]; exact gEnd_le h
  · next h1 =>
    rw [if_neg h1]
    split at h
    · next h2 => rw [if_pos h2]; exact (inR_yes h).2.2
    · next h2 =>
      rw [if_neg h2]
      split at h
      · next h3 =>
        rw [if_pos h3]
        simp only [Bool.and_eq_true] at h
        exact gEnd_le h.2
      · next h3 =>
        rw [if_neg h3]
        split at h
        · next h4 => rw [if_pos h4]; simp only [Bool.and_eq_true] at h; exact (inR_yes h.2).2.2
        · next h4 => rw [if_neg h4]; simp only [Bool.and_eq_true] at h; exact (inR_yes h.2).2.2
abbrev PSt := Option (Int × List FieldD)
def pstep (l : List Int) (st : PSt) (no : Int) : PSt := st.bind fun p => if gfOk l p.1 no = true then some (gfEnd l p.1 no, p.2 ++ [(no, gfTxt l p.1 no)]) else none
def pst (l nos : List Int) (a : Int) (i : Nat) : PSt := (nos.take i).foldl (pstep l) (some (a, []))
set_option maxRecDepth 100000 in
theorem pst_next (l nos : List Int) (a : Int) (i : Nat) (x : Int) (h : nos[i]? = some x) : pst l nos a (i + 1) = pstep l (pst l nos a i) x := by
  unfold pst
  rw [take_snocI h, List.foldl_append]
  rfl
set_option maxRecDepth 100000 in
theorem fold_none (l : List Int) : ∀ nos : List Int, nos.foldl (pstep l) none = none := by
  intro nos
  induction nos with
  | nil => rfl
  | cons x nos ih => exact ih
set_option maxRecDepth 100000 in
theorem pst_none {l nos : List Int} {a : Int} {i : Nat} (hi : i ≤ nos.length) (h : pst l nos a i = none) : pst l nos a nos.length = none := by
  unfold pst at h ⊢
  rw [List.take_length]
  rw [← List.take_append_drop i nos, List.foldl_append, h]
  exact fold_none l _
set_option maxRecDepth 100000 in
theorem pst_len {l nos : List Int} {a : Int} : ∀ (i : Nat) (e : Int) (L : List FieldD), pst l nos a i = some (e, L) → L.length ≤ i := by
  intro i
  induction i with
  | zero => intro e L h; simp [pst] at h; simp [← h.2]
  | succ i ih =>
    intro e L h
    by_cases hi : i < nos.length
    · rw [pst_next l nos a i _ (List.getElem?_eq_getElem hi)] at h
      unfold pstep at h
      obtain ⟨⟨e', L'⟩, h1, h2⟩ := Option.bind_eq_some_iff.1 h
      have := ih e' L' h1
      split at h2
      · simp only [Option.some.injEq, Prod.mk.injEq] at h2
        rw [← h2.2]; simp; omega
      · cases h2
    · have : pst l nos a (i + 1) = pst l nos a i := by
        unfold pst; rw [List.take_of_length_le (by omega), List.take_of_length_le (by omega)]
      rw [this] at h
      have := ih e L h
      omega
/-- the message and the code -/
def parseRes (l : List Int) : MsgD × Int :=
  if gOk l 0 4 = false then ((⟨#[]⟩, []), 1) else if nosOk l = false then ((⟨#[]⟩, []), 2) else
  match pst l (nosL l) (nosE l) (nosL l).length with
  | none => ((⟨#[]⟩, []), 3)
  | some (e, L) => if e = l.length then ((⟨(gTxt l 0 4).toArray⟩, L), 0) else ((⟨#[]⟩, []), 4)
/-- a message and a code -/
def codeRes (r : MsgD × Int) (w : World) (e : Ending) (w' : World) : Prop := ∃ u, e = .returned (.tuple #[.agg #[.string r.1.1, u], .int .i64 r.2]) ∧ FieldsR.mine w.heap.size w'.heap.size w' [u] r.1.2 ∧ Below w.heap.size w w'
set_option maxRecDepth 100000 in
theorem nosE_le (l : List Int) : nosE l ≤ l.length := by
  have hb : ∀ a, bEnd l a ≤ l.length := fun a => by
    unfold bEnd bIn
    split
    · next h => simp only [Bool.and_eq_true, decide_eq_true_eq] at h; omega
    · omega
  unfold nosE nosEnd
  split
  · split <;> exact hb _
  · omega
set_option maxRecDepth 100000 in
theorem nosL_len (l : List Int) : (nosL l).length ≤ 128 := by
  unfold nosL nosRaw
  split
  · split
    · have h1 : (lowOnes (bGet l 2)).length ≤ 64 := Nat.le_trans (List.length_filter_le _ _) (bGet_len64 l 2)
      have h2 := bGet_len64 l (bEnd l 2)
      rw [List.length_append, List.length_map]; omega
    · have h1 : (lowOnes (bGet l 2)).length ≤ 64 := Nat.le_trans (List.length_filter_le _ _) (bGet_len64 l 2)
      omega
  · simp
end Go.Proofs.YtdjlhijaadombaaGreatDoor
/- The bits that PutBits sets are those that GetBits reads. Plain facts; no conditions. -/
set_option linter.unusedVariables false
namespace Go.Proofs.YtdjlhijaadombaaGreatDoor
open Go.ChangeShapes Go.WideShapes Go.ChangeAt Go.RowKit

set_option maxRecDepth 100000 in
theorem or_byte : ∀ x < 256, ∀ a < 8, (∀ c < 8, (decide (bits BinOp.or IntKind.u8 ((x : Nat) : Int) (128 / 2 ^ (a : Nat)) / 2 ^ (7 - c) % 2 = 1) = (decide (((x : Nat) : Int) / 2 ^ (7 - c) % 2 = 1) || decide (c = a)))) ∧ 0 ≤ bits BinOp.or IntKind.u8 ((x : Nat) : Int) (128 / 2 ^ (a : Nat)) ∧ bits BinOp.or IntKind.u8 ((x : Nat) : Int) (128 / 2 ^ (a : Nat)) ≤ 255 := by decide +kernel
def okB (p : List Int) : Prop := p.length = 8 ∧ ∀ i, 0 ≤ p.getD i 0 ∧ p.getD i 0 ≤ 255
set_option maxRecDepth 100000 in
theorem getD_set (p : List Int) (i j : Nat) (x : Int) (h : i < p.length) : (p.set i x).getD j 0 = if j = i then x else p.getD j 0 := by
  rw [List.getD_eq_getElem?_getD, List.getD_eq_getElem?_getD, List.getElem?_set]
  by_cases e : i = j
  · subst e; simp [h]
  · rw [if_neg e, if_neg (fun h => e h.symm)]
set_option maxRecDepth 100000 in
theorem setB_bit {p : List Int} (hp : okB p) {k : Int} (h1 : 1 ≤ k) (h2 : k ≤ 64) : okB (setB p k) ∧ ∀ i, i < 64 → bitAt (setB p k) i = (bitAt p i || decide ((i : Int) = k - 1)) := by
  obtain ⟨n, rfl⟩ : ∃ n : Nat, k = n + 1 := ⟨(k - 1).toNat, by omega⟩
  have e1 : ((n : Int) + 1 - 1) / 8 = (n / 8 : Nat) := by omega
  have e2 : ((n : Int) + 1 - 1) % 8 = (n % 8 : Nat) := by omega
  have hn : n < 64 := by omega
  have hset : setB p (n + 1) = p.set (n / 8) (bits BinOp.or IntKind.u8 (p.getD (n / 8) 0) (128 / 2 ^ (n % 8))) := by
    unfold setB wt
    rw [if_pos ⟨h1, h2⟩, e1, e2]
    rfl
  have hb := hp.2 (n / 8)
  obtain ⟨x, hx⟩ : ∃ x : Nat, p.getD (n / 8) 0 = x := ⟨(p.getD (n / 8) 0).toNat, by omega⟩
  obtain ⟨hc, hl, hu⟩ := or_byte x (by omega) (n % 8) (by omega)
  have hlen : n / 8 < p.length := by rw [hp.1]; omega
  refine ⟨⟨by rw [hset, List.length_set]; exact hp.1, fun i => ?_⟩, fun i hi => ?_⟩
  · rw [hset, getD_set _ _ _ _ hlen, hx]
    split
    · exact ⟨hl, hu⟩
    · exact hp.2 i
  · unfold bitAt
    rw [hset, getD_set _ _ _ _ hlen, hx]
    by_cases e : i / 8 = n / 8
    · rw [if_pos e, hc (i % 8) (by omega), e, hx]
      congr 1
      rw [decide_eq_decide]
      omega
    · rw [if_neg e]
      have : decide ((i : Int) = (n : Int) + 1 - 1) = false := by rw [decide_eq_false_iff_not]; omega
      rw [this, Bool.or_false]
set_option maxRecDepth 100000 in
theorem fold_bit (L : List Int) : ∀ p : List Int, okB p → (∀ k ∈ L, 1 ≤ k ∧ k ≤ 64) → okB (L.foldl setB p) ∧ ∀ i, i < 64 → bitAt (L.foldl setB p) i = (bitAt p i || decide ((i : Int) + 1 ∈ L)) := by
  induction L with
  | nil => intro p hp _; exact ⟨hp, fun i _ => by simp⟩
  | cons k L ih =>
    intro p hp hk
    have h1 := hk k (List.mem_cons_self ..)
    obtain ⟨g1, g2⟩ := setB_bit hp h1.1 h1.2
    obtain ⟨g3, g4⟩ := ih (setB p k) g1 (fun z hz => hk z (List.mem_cons_of_mem _ hz))
    refine ⟨g3, fun i hi => ?_⟩
    rw [List.foldl_cons, g4 i hi, g2 i hi, Bool.or_assoc]
    congr 1
    rw [← Bool.decide_or, decide_eq_decide, List.mem_cons]
    constructor
    · rintro (h | h)
      · exact .inl (by omega)
      · exact .inr h
    · rintro (h | h)
      · exact .inl (by omega)
      · exact .inr h
set_option maxRecDepth 100000 in
theorem zero_bit : okB (List.replicate 8 0) ∧ ∀ i, i < 64 → bitAt (List.replicate 8 0) i = false := by
  constructor
  · refine ⟨rfl, fun i => ?_⟩
    rw [List.getD_eq_getElem?_getD, List.getElem?_replicate]
    split <;> simp
  · decide +kernel
set_option maxRecDepth 100000 in
theorem putB_bit {L : List Int} (h : ∀ k ∈ L, 1 ≤ k ∧ k ≤ 64) : okB (putB L) ∧ ∀ i, i < 64 → bitAt (putB L) i = decide ((i : Int) + 1 ∈ L) := by
  obtain ⟨g1, g2⟩ := fold_bit L _ zero_bit.1 h
  exact ⟨g1, fun i hi => by show bitAt (L.foldl setB _) i = _; rw [g2 i hi, zero_bit.2 i hi, Bool.false_or]⟩
set_option maxRecDepth 100000 in
/-- ascending numbers are their own bitmap's -/
theorem up_filter : ∀ (n : Nat) (L : List Int), L.Pairwise (· < ·) → (∀ k ∈ L, 1 ≤ k ∧ k ≤ n) → ((List.range n).filter fun i : Nat => decide ((i : Int) + 1 ∈ L)).map (fun i : Nat => (i : Int) + 1) = L := by
  intro n
  induction n with
  | zero =>
    intro L _ hk
    cases L with
    | nil => rfl
    | cons k L => have := hk k (List.mem_cons_self ..); omega
  | succ n ih =>
    intro L hp hk
    rw [List.range_succ, List.filter_append, List.map_append]
    by_cases hm : (n : Int) + 1 ∈ L
    · obtain ⟨L', hL⟩ : ∃ L', L = L' ++ [(n : Int) + 1] := by
        have hne : L ≠ [] := fun e => by subst e; cases hm
        refine ⟨L.dropLast, ?_⟩
        have hlast := List.dropLast_concat_getLast hne
        have hle := hk _ (List.getLast_mem hne)
        by_cases e : L.getLast hne = (n : Int) + 1
        · rw [← e]; exact hlast.symm
        · exfalso
          rw [← hlast] at hm hp
          rw [List.pairwise_append] at hp
          rcases List.mem_append.1 hm with h | h
          · have := hp.2.2 _ h _ (List.mem_singleton.2 rfl)
            omega
          · exact e (List.mem_singleton.1 h).symm
      subst hL
      rw [List.pairwise_append] at hp
      have hlt : ∀ k ∈ L', k < (n : Int) + 1 := fun k hk' => hp.2.2 k hk' _ (List.mem_singleton.2 rfl)
      have e1 : (List.range n).filter (fun i : Nat => decide ((i : Int) + 1 ∈ L' ++ [(n : Int) + 1])) = (List.range n).filter (fun i : Nat => decide ((i : Int) + 1 ∈ L')) := by
        refine List.filter_congr fun i hi => ?_
        have hi' : i < n := by simpa using hi
        rw [decide_eq_decide, List.mem_append, List.mem_singleton]
        constructor
        · rintro (h | h)
          · exact h
          · omega
        · exact .inl
      rw [e1, ih L' hp.1 (fun k hk' => by have := hk k (List.mem_append_left _ hk'); have := hlt k hk'; omega)]
      simp
    · have e1 : [n].filter (fun i : Nat => decide ((i : Int) + 1 ∈ L)) = [] := by simp [hm]
      rw [e1, ih L hp (fun k hk' => by
        have h1 := hk k hk'
        have h2 : k ≠ (n : Int) + 1 := fun e => hm (e ▸ hk')
        omega)]
      simp
set_option maxRecDepth 100000 in
theorem getB_putB {L : List Int} (h : ∀ k ∈ L, 1 ≤ k ∧ k ≤ 64) (U : List Int) (hU : U.Pairwise (· < ·)) (hm : ∀ z, z ∈ L ↔ z ∈ U) : getB (putB L) 64 = U := by
  have hb := putB_bit h
  unfold getB
  have e : (List.range 64).filter (bitAt (putB L)) = (List.range 64).filter (fun i : Nat => decide ((i : Int) + 1 ∈ U)) := by
    refine List.filter_congr fun i hi => ?_
    rw [hb.2 i (by simpa using hi), decide_eq_decide]
    exact hm _
  rw [e]
  exact up_filter 64 U hU (fun k hk => h k ((hm k).2 hk))
end Go.Proofs.YtdjlhijaadombaaGreatDoor
/- A message is got back from its encoding. Plain facts; no conditions. -/
set_option linter.unusedVariables false
namespace Go.Proofs.YtdjlhijaadombaaGreatDoor
open Go.ChangeShapes Go.WideShapes Go.ChangeAt Go.RowKit

set_option maxRecDepth 100000 in
theorem listOk_all {L : List FieldD} (h : listOk L = true) : (∀ x ∈ L, fOk x.1 x.2 = true) ∧ L.Pairwise (fun a b => a.1 < b.1) := by
  have hs : ∀ j (hj : j < L.length), fOk (L[j]).1 (L[j]).2 = true ∧ (∀ hj' : j + 1 < L.length, (L[j]).1 < (L[j + 1]).1) := by
    intro j hj
    have h1 := listOk_at h j hj
    unfold stepOk at h1
    rw [getD_of (List.getElem?_eq_getElem hj)] at h1
    simp only [Bool.and_eq_true] at h1
    refine ⟨h1.1, fun hj' => ?_⟩
    have h2 := listOk_at h (j + 1) hj'
    unfold stepOk at h2
    rw [getD_of (List.getElem?_eq_getElem hj'), show j + 1 - 1 = j by omega, getD_of (List.getElem?_eq_getElem hj)] at h2
    simp only [Bool.and_eq_true] at h2
    simpa using h2.2
  constructor
  · intro x hx
    obtain ⟨j, hj, rfl⟩ := List.mem_iff_getElem.1 hx
    exact (hs j hj).1
  · rw [List.pairwise_iff_getElem]
    intro i j hi hj hij
    obtain ⟨d, rfl⟩ : ∃ d, j = i + d + 1 := ⟨j - i - 1, by omega⟩
    clear hij
    induction d with
    | zero => exact (hs i hi).2 hj
    | succ d ih =>
      have h1 := ih (by omega)
      have h2 := (hs (i + d + 1) (by omega)).2 hj
      exact Int.lt_trans h1 h2
set_option maxRecDepth 100000 in
theorem split_64 : ∀ (L : List FieldD), L.Pairwise (fun a b => a.1 < b.1) → L.map (·.1) = lows L ++ (highs L).map (· + 64) := by
  intro L
  induction L with
  | nil => intro _; rfl
  | cons x L ih =>
    intro hp
    rw [List.pairwise_cons] at hp
    by_cases h : x.1 ≤ 64
    · have e1 : lows (x :: L) = x.1 :: lows L := by unfold lows; simp [h]
      have e2 : highs (x :: L) = highs L := by unfold highs; rw [List.filter_cons_of_neg (by simpa using h)]
      rw [e1, e2, List.map_cons, ih hp.2]; rfl
    · have hall : ∀ y ∈ L, 64 < y.1 := fun y hy => by have := hp.1 y hy; omega
      have e1 : lows (x :: L) = [] := by
        unfold lows
        rw [List.map_eq_nil_iff, List.filter_eq_nil_iff]
        intro y hy
        rcases List.mem_cons.1 hy with rfl | hy
        · simpa using h
        · have := hall y hy; simp; omega
      have e2 : highs (x :: L) = (x :: L).map (·.1 - 64) := by
        unfold highs
        rw [List.filter_eq_self.2 fun y hy => by
          rcases List.mem_cons.1 hy with rfl | hy
          · simp; omega
          · have := hall y hy; simpa using this]
      rw [e1, e2, List.map_map, List.nil_append]
      refine List.map_congr_left fun y _ => ?_
      simp
set_option maxRecDepth 100000 in
theorem lows_up {L : List FieldD} (hp : L.Pairwise (fun a b => a.1 < b.1)) : (lows L).Pairwise (· < ·) := by
  unfold lows
  rw [List.pairwise_map]
  exact hp.filter _
set_option maxRecDepth 100000 in
theorem highs_up {L : List FieldD} (hp : L.Pairwise (fun a b => a.1 < b.1)) : (highs L).Pairwise (· < ·) := by
  unfold highs
  rw [List.pairwise_map]
  exact (hp.filter _).imp fun h => by omega
set_option maxRecDepth 100000 in
theorem lows_bd {L : List FieldD} (h : ∀ x ∈ L, fOk x.1 x.2 = true) : ∀ k ∈ lows L, 2 ≤ k ∧ k ≤ 64 := by
  intro k hk
  unfold lows at hk
  obtain ⟨x, hx, rfl⟩ := List.mem_map.1 hk
  obtain ⟨h1, h2⟩ := List.mem_filter.1 hx
  have := fOk_range (h x h1)
  have h3 : x.1 ≤ 64 := by simpa using h2
  omega
set_option maxRecDepth 100000 in
theorem highs_bd {L : List FieldD} (h : ∀ x ∈ L, fOk x.1 x.2 = true) : ∀ k ∈ highs L, 1 ≤ k ∧ k ≤ 64 := by
  intro k hk
  unfold highs at hk
  obtain ⟨x, hx, rfl⟩ := List.mem_map.1 hk
  obtain ⟨h1, h2⟩ := List.mem_filter.1 hx
  have := fOk_range (h x h1)
  have h3 : 64 < x.1 := by simpa using h2
  omega
set_option maxRecDepth 100000 in
theorem bits_at (P B Q : List Int) (hB : B.length = 8) (a : Int) (ha : a = P.length) : bIn (P ++ B ++ Q) a = true ∧ bPart (P ++ B ++ Q) a = B ∧ bGet (P ++ B ++ Q) a = getB B 64 ∧ bEnd (P ++ B ++ Q) a = P.length + 8 := by
  subst ha
  have h1 : bIn (P ++ B ++ Q) P.length = true := by
    unfold bIn
    simp only [Bool.and_eq_true, decide_eq_true_eq, List.length_append]
    omega
  have h2 : bPart (P ++ B ++ Q) P.length = B := by
    unfold bPart
    rw [show ((P.length : Int)).toNat = P.length by omega]
    have := mid_part P B Q
    rwa [hB] at this
  exact ⟨h1, h2, by unfold bGet; rw [if_pos h1, h2], by unfold bEnd; rw [if_pos h1]⟩
set_option maxRecDepth 100000 in
theorem nos_back {L : List FieldD} (h : listOk L = true) (P Q : List Int) (hP : P.length = 2) :
    nosOk (P ++ bitsL L ++ Q) = true ∧ nosL (P ++ bitsL L ++ Q) = L.map (·.1) ∧ nosE (P ++ bitsL L ++ Q) = P.length + (bitsL L).length := by
  obtain ⟨hf, hp⟩ := listOk_all h
  have hlb := lows_bd hf
  have hlu := lows_up hp
  have hhb := highs_bd hf
  have hhu := highs_up hp
  have hsp := split_64 L hp
  have hk : knownB (L.map (·.1)) = true := by
    unfold knownB
    rw [List.all_eq_true]
    intro k hk
    obtain ⟨x, hx, rfl⟩ := List.mem_map.1 hk
    have : fKind x.1 ≠ 0 := fun e => by have := hf x hx; rw [fOk_no e] at this; cases this
    simpa using this
  have key : nosRaw (P ++ bitsL L ++ Q) = L.map (·.1) ∧ nosEnd (P ++ bitsL L ++ Q) = P.length + (bitsL L).length ∧ (bIn (P ++ bitsL L ++ Q) 2 && (!moreB (bGet (P ++ bitsL L ++ Q) 2) || (bIn (P ++ bitsL L ++ Q) (bEnd (P ++ bitsL L ++ Q) 2) && decide (0 < (bGet (P ++ bitsL L ++ Q) (bEnd (P ++ bitsL L ++ Q) 2)).length)))) = true := by
    by_cases hh : highs L = []
    · have hb : bitsL L = putB (lows L) := by unfold bitsL; rw [if_pos hh]
      have hg : getB (putB (lows L)) 64 = lows L := getB_putB (fun k hk => by have := hlb k hk; omega) _ hlu (fun z => Iff.rfl)
      obtain ⟨b1, b2, b3, b4⟩ := bits_at P (putB (lows L)) Q (putB_len8 _) 2 (by omega)
      rw [hg] at b3
      rw [hb]
      have hm : moreB (lows L) = false := by
        unfold moreB
        rw [decide_eq_false_iff_not]
        intro h1
        have := hlb 1 h1
        omega
      have ho : lowOnes (lows L) = lows L := by
        unfold lowOnes
        rw [List.filter_eq_self]
        intro z hz
        have := hlb z hz
        simp; omega
      refine ⟨?_, ?_, ?_⟩
      · unfold nosRaw
        rw [b3, hm, if_neg (by simp), ho, hsp, hh]
        simp
      · unfold nosEnd
        rw [b3, hm, if_neg (by simp), b4, putB_len8]
        rfl
      · rw [b3, hm, b1]; rfl
    · have hb : bitsL L = putB (lows L ++ [1]) ++ putB (highs L) := by unfold bitsL; rw [if_neg hh]
      have hbd1 : ∀ k ∈ lows L ++ [1], 1 ≤ k ∧ k ≤ 64 := fun k hk => by
        rcases List.mem_append.1 hk with hk | hk
        · have := hlb k hk; omega
        · rw [List.mem_singleton.1 hk]; omega
      have hg1 : getB (putB (lows L ++ [1])) 64 = 1 :: lows L := getB_putB hbd1 _ (List.pairwise_cons.2 ⟨fun z hz => by have := hlb z hz; omega, hlu⟩) (fun z => by simp [or_comm])
      have hg2 : getB (putB (highs L)) 64 = highs L := getB_putB hhb _ hhu (fun z => Iff.rfl)
      obtain ⟨b1, b2, b3, b4⟩ := bits_at P (putB (lows L ++ [1])) (putB (highs L) ++ Q) (putB_len8 _) 2 (by omega)
      obtain ⟨c1, c2, c3, c4⟩ := bits_at (P ++ putB (lows L ++ [1])) (putB (highs L)) Q (putB_len8 _) 10 (by rw [List.length_append, putB_len8]; omega)
      have e : P ++ (putB (lows L ++ [1]) ++ putB (highs L)) ++ Q = P ++ putB (lows L ++ [1]) ++ (putB (highs L) ++ Q) := by simp
      have e' : P ++ putB (lows L ++ [1]) ++ putB (highs L) ++ Q = P ++ putB (lows L ++ [1]) ++ (putB (highs L) ++ Q) := by simp
      rw [e'] at c1 c2 c3 c4
      rw [hg1] at b3
      rw [hg2] at c3
      rw [hb, e]
      have b4' : bEnd (P ++ putB (lows L ++ [1]) ++ (putB (highs L) ++ Q)) 2 = 10 := by rw [b4]; omega
      have hm : moreB (1 :: lows L) = true := by unfold moreB; simp
      have ho : lowOnes (1 :: lows L) = lows L := by
        unfold lowOnes
        rw [List.filter_cons_of_neg (by simp), List.filter_eq_self]
        intro z hz
        have := hlb z hz
        simp; omega
      have hpos : 0 < (highs L).length := List.length_pos_iff.2 hh
      refine ⟨?_, ?_, ?_⟩
      · unfold nosRaw
        rw [b3, hm, if_pos rfl, ho, b4', c3, hsp]
      · unfold nosEnd
        rw [b3, hm, if_pos rfl, b4', c4, List.length_append, List.length_append, putB_len8, putB_len8]
        omega
      · rw [b3, hm, b1, b4', c1, c3]
        simp [hpos]
  have hok : nosOk (P ++ bitsL L ++ Q) = true := by
    unfold nosOk
    rw [key.2.2, key.1, hk]
    rfl
  exact ⟨hok, by unfold nosL; rw [if_pos hok, key.1], by unfold nosE; rw [if_pos hok, key.2.1]⟩
set_option maxRecDepth 100000 in
theorem gf_back {no : Int} {s : ByteArray} (h : fOk no s = true) (P Q : List Int) (a : Int) (ha : a = P.length) : gfOk (P ++ putFL no s ++ Q) a no = true ∧ gfTxt (P ++ putFL no s ++ Q) a no = s ∧ gfEnd (P ++ putFL no s ++ Q) a no = P.length + (putFL no s).length := by
  subst ha
  have hb := field_back h P Q
  cases hg : gfOk (P ++ putFL no s ++ Q) P.length no
  · rw [get_no hg] at hb
    simp at hb
  · rw [get_yes hg] at hb
    simp only [Ending.returned.injEq, Value.tuple.injEq] at hb
    injection hb with hb
    simp only [List.cons.injEq, Value.string.injEq, Value.int.injEq, true_and, and_true] at hb
    exact ⟨rfl, hb.1, hb.2⟩
set_option maxRecDepth 100000 in
theorem pst_back {L : List FieldD} (h : ∀ x ∈ L, fOk x.1 x.2 = true) (H R : List Int) : ∀ i, i ≤ L.length → pst (H ++ bodyL L ++ R) (L.map (·.1)) H.length i = some ((H.length : Int) + ((bodyL (L.take i)).length : Int), L.take i) := by
  intro i
  induction i with
  | zero => intro _; simp [pst, bodyL]
  | succ i ih =>
    intro hi
    have hx := List.getElem?_eq_getElem (l := L) (i := i) (by omega)
    generalize L[i] = x at hx
    rw [pst_next _ _ _ i x.1 (by rw [List.getElem?_map, hx]; rfl), ih (by omega)]
    have hsplit : L = L.take i ++ x :: L.drop (i + 1) := by
      obtain ⟨hi', rfl⟩ := List.getElem?_eq_some_iff.1 hx
      rw [List.getElem_cons_drop, List.take_append_drop]
    have hbody : H ++ bodyL L ++ R = (H ++ bodyL (L.take i)) ++ putFL x.1 x.2 ++ (bodyL (L.drop (i + 1)) ++ R) := by
      conv => lhs; rw [hsplit]
      unfold bodyL
      rw [List.flatMap_append, List.flatMap_cons]
      simp
    obtain ⟨g1, g2, g3⟩ := gf_back (h x (List.mem_of_getElem? hx)) (H ++ bodyL (L.take i)) (bodyL (L.drop (i + 1)) ++ R) (H.length + (bodyL (L.take i)).length) (by simp)
    rw [← hbody] at g1 g2 g3
    unfold pstep
    simp only [Option.bind_some]
    rw [g1, if_pos rfl, g2, g3, take_snocF hx, bodyL_snoc]
    simp
    omega
set_option maxRecDepth 100000 in
/-- Parse of Encode, with bytes behind it -/
theorem parse_with {m : MsgD} (h : msgOk m = true) (R : List Int) : parseRes (encL m ++ R) = if R = [] then (m, 0) else ((⟨#[]⟩, []), 4) := by
  have hm : mtiOk m.1 = true ∧ listOk m.2 = true := by simpa [msgOk] using h
  have h4 : digs m.1 = true ∧ m.1.size = 4 := by simpa [mtiOk] using hm.1
  have hbo : bcdOk m.1 = true := by simp [bcdOk, h4]
  have hlen : (bcd m.1).length = 2 := by rw [bcd_size hbo, h4.2]
  have he : encL m ++ R = bcd m.1 ++ bitsL m.2 ++ (bodyL m.2 ++ R) := by unfold encL; rw [if_pos h]; simp
  obtain ⟨n1, n2, n3⟩ := nos_back hm.2 (bcd m.1) (bodyL m.2 ++ R) hlen
  obtain ⟨g1, g2, -⟩ := bcd_back hbo [] (bitsL m.2 ++ (bodyL m.2 ++ R))
  rw [h4.2] at g1 g2
  simp only [List.nil_append, List.length_nil] at g1 g2
  rw [← List.append_assoc (bcd m.1)] at g1 g2
  have hp := pst_back (listOk_all hm.2).1 (bcd m.1 ++ bitsL m.2) R m.2.length (Nat.le_refl _)
  rw [List.take_length, List.append_assoc _ (bodyL m.2) R] at hp
  unfold parseRes
  rw [he]
  rw [if_neg (by rw [show ((0 : Nat) : Int) = 0 from rfl, show ((4 : Nat) : Int) = 4 from rfl] at g1; rw [g1]; simp), if_neg (by rw [n1]; simp), n2, n3]
  rw [List.length_map]
  have hc : ((bcd m.1).length : Int) + (bitsL m.2).length = ((bcd m.1 ++ bitsL m.2).length : Int) := by simp
  rw [hc, hp]
  simp only []
  by_cases hR : R = []
  · rw [if_pos hR, if_pos (by rw [hR]; simp only [List.length_append, List.length_nil]; omega)]
    rw [show ((0 : Nat) : Int) = 0 from rfl, show ((4 : Nat) : Int) = 4 from rfl] at g2
    rw [g2, back_str]
  · have := List.length_pos_iff.2 hR
    rw [if_neg hR, if_neg (by simp only [List.length_append]; omega)]
set_option maxRecDepth 100000 in
theorem parse_back {m : MsgD} (h : msgOk m = true) : parseRes (encL m) = (m, 0) := by
  have := parse_with h []
  rwa [List.append_nil, if_pos rfl] at this
end Go.Proofs.YtdjlhijaadombaaGreatDoor
/- WithField's list, of an ascending list: what is below, the new one, what is above. Plain facts; no conditions. -/
set_option linter.unusedVariables false
namespace Go.Proofs.YtdjlhijaadombaaGreatDoor
open Go.ChangeShapes Go.WideShapes Go.ChangeAt Go.RowKit

def asc (l : List FieldD) : Prop := l.Pairwise (fun a b => a.1 < b.1)
def below (no : Int) (l : List FieldD) : List FieldD := l.filter fun x => decide (x.1 < no)
def above (no : Int) (l : List FieldD) : List FieldD := l.filter fun x => decide (no < x.1)
set_option maxRecDepth 100000 in
theorem wfold_true (no : Int) (s : ByteArray) : ∀ (l : List FieldD) (a : List FieldD), l.foldl (wstep no s) (a, true) = (a ++ l.filter (fun x => decide (x.1 ≠ no)), true) := by
  intro l
  induction l with
  | nil => intro a; simp
  | cons x l ih =>
    intro a
    rw [List.foldl_cons]
    have h : wstep no s (a, true) x = if x.1 = no then (a, true) else (a ++ [x], true) := by
      unfold wstep; simp
    rw [h]
    by_cases hx : x.1 = no
    · rw [if_pos hx, ih, List.filter_cons_of_neg (by simp [hx])]
    · rw [if_neg hx, ih, List.filter_cons_of_pos (by simp [hx])]; simp
set_option maxRecDepth 100000 in
theorem all_above {no : Int} {l : List FieldD} (h : ∀ x ∈ l, no < x.1) : below no l = [] ∧ above no l = l ∧ l.filter (fun x => decide (x.1 ≠ no)) = l := by
  refine ⟨List.filter_eq_nil_iff.2 fun x hx => ?_, List.filter_eq_self.2 fun x hx => ?_, List.filter_eq_self.2 fun x hx => ?_⟩
  all_goals have h1 := h x hx
  · simp only [decide_eq_true_eq]; omega
  · simp only [decide_eq_true_eq]; omega
  · simp only [decide_eq_true_eq]; omega
set_option maxRecDepth 100000 in
theorem wfold_false (no : Int) (s : ByteArray) : ∀ (l : List FieldD), asc l → ∀ (a : List FieldD),
    (if (l.foldl (wstep no s) (a, false)).2 = true then (l.foldl (wstep no s) (a, false)).1 else (l.foldl (wstep no s) (a, false)).1 ++ [(no, s)]) = a ++ (below no l ++ (no, s) :: above no l) := by
  intro l
  induction l with
  | nil => intro _ a; simp [below, above]
  | cons x l ih =>
    intro hp a
    obtain ⟨hx, hl⟩ := List.pairwise_cons.1 hp
    rw [List.foldl_cons]
    rcases Int.lt_trichotomy x.1 no with h | h | h
    · have hw : wstep no s (a, false) x = (a ++ [x], false) := by
        unfold wstep
        rw [show decide (no ≤ x.1) = false by simp only [decide_eq_false_iff_not]; omega]
        simp only [Bool.not_false, Bool.and_false, Bool.false_eq_true, if_false]
        rw [if_neg (by omega)]
      rw [hw, ih hl]
      have hb : below no (x :: l) = x :: below no l := List.filter_cons_of_pos (by simpa using h)
      have ha : above no (x :: l) = above no l := List.filter_cons_of_neg (by simp only [decide_eq_true_eq]; omega)
      rw [hb, ha]; simp
    · have hw : wstep no s (a, false) x = (a ++ [(no, s)], true) := by
        unfold wstep
        rw [show decide (no ≤ x.1) = true by simp only [decide_eq_true_eq]; omega]
        simp only [Bool.not_false, Bool.and_true, if_true]
        rw [if_pos h]
      have hg := all_above (no := no) (l := l) (fun y hy => by have := hx y hy; omega)
      rw [hw, wfold_true, hg.2.2]
      have hb : below no (x :: l) = [] := by
        show List.filter _ (x :: l) = []
        rw [List.filter_cons_of_neg (by simp only [decide_eq_true_eq]; omega)]; exact hg.1
      have ha : above no (x :: l) = l := by
        show List.filter _ (x :: l) = l
        rw [List.filter_cons_of_neg (by simp only [decide_eq_true_eq]; omega)]; exact hg.2.1
      rw [hb, ha]; simp
    · have hw : wstep no s (a, false) x = (a ++ [(no, s)] ++ [x], true) := by
        unfold wstep
        rw [show decide (no ≤ x.1) = true by simp only [decide_eq_true_eq]; omega]
        simp only [Bool.not_false, Bool.and_true, if_true]
        rw [if_neg (by omega)]
      have hg := all_above (no := no) (l := l) (fun y hy => by have := hx y hy; omega)
      rw [hw, wfold_true, hg.2.2]
      have hb : below no (x :: l) = [] := by
        show List.filter _ (x :: l) = []
        rw [List.filter_cons_of_neg (by simp only [decide_eq_true_eq]; omega)]; exact hg.1
      have ha : above no (x :: l) = x :: l := by
        show List.filter _ (x :: l) = x :: l
        rw [List.filter_cons_of_pos (by simpa using h)]; exact congrArg _ hg.2.1
      rw [hb, ha]; simp
set_option maxRecDepth 100000 in
theorem withF_asc {l : List FieldD} (h : asc l) (no : Int) (s : ByteArray) : withF no s l = below no l ++ (no, s) :: above no l := by
  have h1 := wfold_false no s l h []
  unfold withF wst
  rw [List.take_length]
  simpa using h1
set_option maxRecDepth 100000 in
theorem mem_below {no : Int} {l : List FieldD} {x : FieldD} : x ∈ below no l ↔ x ∈ l ∧ x.1 < no := by simp [below]
set_option maxRecDepth 100000 in
theorem mem_above {no : Int} {l : List FieldD} {x : FieldD} : x ∈ above no l ↔ x ∈ l ∧ no < x.1 := by simp [above]
set_option maxRecDepth 100000 in
theorem withF_up {l : List FieldD} (h : asc l) (no : Int) (s : ByteArray) : asc (withF no s l) := by
  rw [withF_asc h]
  unfold asc
  rw [List.pairwise_append]
  refine ⟨h.filter _, List.pairwise_cons.2 ⟨fun x hx => (mem_above.1 hx).2, h.filter _⟩, fun x hx y hy => ?_⟩
  have h1 := (mem_below.1 hx).2
  rcases List.mem_cons.1 hy with rfl | hy
  · exact h1
  · exact Int.lt_trans h1 (mem_above.1 hy).2
set_option maxRecDepth 100000 in
theorem withF_mem {l : List FieldD} (h : asc l) (no : Int) (s : ByteArray) (x : FieldD) : x ∈ withF no s l ↔ x = (no, s) ∨ (x ∈ l ∧ x.1 ≠ no) := by
  rw [withF_asc h, List.mem_append, List.mem_cons, mem_below, mem_above]
  constructor
  · rintro (h | h | h)
    · exact Or.inr ⟨h.1, by omega⟩
    · exact Or.inl h
    · exact Or.inr ⟨h.1, by omega⟩
  · rintro (h | h)
    · exact Or.inr (Or.inl h)
    · rcases Int.lt_trichotomy x.1 no with g | g | g
      · exact Or.inl ⟨h.1, g⟩
      · exact absurd g h.2
      · exact Or.inr (Or.inr ⟨h.1, g⟩)
set_option maxRecDepth 100000 in
theorem listOk_of {L : List FieldD} (hf : ∀ x ∈ L, fOk x.1 x.2 = true) (hp : asc L) : listOk L = true := by
  apply listOk_yes
  intro j hj
  unfold stepOk
  rw [getD_of (List.getElem?_eq_getElem hj)]
  rw [hf _ (List.getElem_mem hj)]
  cases j with
  | zero => simp
  | succ j =>
    rw [show j + 1 - 1 = j by omega, getD_of (List.getElem?_eq_getElem (by omega : j < L.length))]
    have := List.pairwise_iff_getElem.1 hp j (j + 1) (by omega) hj (by omega)
    simpa using this
set_option maxRecDepth 100000 in
theorem withMsg_ok {m : MsgD} {no : Int} {s : ByteArray} (h : withOk m no s = true) : msgOk (withMsg m no s) = true := by
  have h0 := h
  unfold withOk at h
  rw [Bool.and_eq_true] at h
  have hm := h.1
  unfold msgOk at hm
  rw [Bool.and_eq_true] at hm
  obtain ⟨hf, hp⟩ := listOk_all hm.2
  unfold withMsg
  rw [if_pos h0]
  unfold msgOk
  rw [Bool.and_eq_true]
  refine ⟨hm.1, listOk_of (fun x hx => ?_) (withF_up hp no s)⟩
  rcases (withF_mem hp no s x).1 hx with rfl | hx
  · exact h.2
  · exact hf x hx.1
end Go.Proofs.YtdjlhijaadombaaGreatDoor
/- A reply's list of fields: it ascends; what lies in it; when the reply is valid. Plain facts; no conditions. -/
set_option linter.unusedVariables false
namespace Go.Proofs.YtdjlhijaadombaaGreatDoor
open Go.ChangeShapes Go.WideShapes Go.ChangeAt Go.RowKit

set_option maxRecDepth 100000 in
/-- two ascending lists with the same fields are one -/
theorem asc_ext : ∀ {l l' : List FieldD}, asc l → asc l' → (∀ x, x ∈ l ↔ x ∈ l') → l = l' := by
  intro l
  induction l with
  | nil =>
    intro l' _ _ h
    cases l' with
    | nil => rfl
    | cons y l' => exact absurd ((h y).2 (List.mem_cons_self ..)) (by simp)
  | cons x l ih =>
    intro l' h1 h2 h
    cases l' with
    | nil => exact absurd ((h x).1 (List.mem_cons_self ..)) (by simp)
    | cons y l' =>
      obtain ⟨hx, hl⟩ := List.pairwise_cons.1 h1
      obtain ⟨hy, hl'⟩ := List.pairwise_cons.1 h2
      have hxy : x = y := by
        rcases List.mem_cons.1 ((h x).1 (List.mem_cons_self ..)) with e | hm
        · exact e
        · rcases List.mem_cons.1 ((h y).2 (List.mem_cons_self ..)) with e | hm'
          · exact e.symm
          · have a := hy x hm
            have b := hx y hm'
            omega
      subst hxy
      rw [ih hl hl' fun z => ?_]
      constructor
      · intro hz
        rcases List.mem_cons.1 ((h z).1 (List.mem_cons_of_mem _ hz)) with rfl | hm
        · exact absurd (hx z hz) (by omega)
        · exact hm
      · intro hz
        rcases List.mem_cons.1 ((h z).2 (List.mem_cons_of_mem _ hz)) with rfl | hm
        · exact absurd (hy z hz) (by omega)
        · exact hm
set_option maxRecDepth 100000 in
theorem rpL_mem {F : Int → ByteArray × Bool} {l : List Int} {x : FieldD} : x ∈ rpL F l ↔ x.1 ∈ l ∧ F x.1 = (x.2, true) := by
  unfold rpL
  rw [List.mem_filterMap]
  constructor
  · rintro ⟨no, hno, h⟩
    by_cases hf : (F no).2 = true
    · rw [if_pos hf, Option.some.injEq] at h
      subst h
      exact ⟨hno, Prod.ext rfl hf⟩
    · rw [if_neg hf] at h; cases h
  · rintro ⟨hno, h⟩
    refine ⟨x.1, hno, ?_⟩
    rw [h]
    simp
set_option maxRecDepth 100000 in
theorem rpL_asc {F : Int → ByteArray × Bool} : ∀ {l : List Int}, l.Pairwise (· < ·) → asc (rpL F l) := by
  intro l
  induction l with
  | nil => intro _; exact List.Pairwise.nil
  | cons no l ih =>
    intro h
    obtain ⟨hx, hl⟩ := List.pairwise_cons.1 h
    have hr : rpL F (no :: l) = if (F no).2 = true then (no, (F no).1) :: rpL F l else rpL F l := by
      unfold rpL
      rw [List.filterMap_cons]
      by_cases hf : (F no).2 = true
      · rw [if_pos hf, if_pos hf]
      · rw [if_neg hf, if_neg hf]
    rw [hr]
    split
    · exact List.pairwise_cons.2 ⟨fun y hy => hx _ (rpL_mem.1 hy).1, ih hl⟩
    · exact ih hl
set_option maxRecDepth 100000 in
theorem rpNos_up : rpNos.Pairwise (· < ·) := by decide
set_option maxRecDepth 100000 in
theorem rp_asc (F : Int → ByteArray × Bool) : asc (rpL F rpNos) := rpL_asc rpNos_up
set_option maxRecDepth 100000 in
theorem rpGood_iff {F : Int → ByteArray × Bool} {l : List Int} : rpGood F l = true ↔ ∀ x ∈ rpL F l, fOk x.1 x.2 = true := by
  unfold rpGood
  rw [List.all_eq_true]
  constructor
  · intro h x hx
    obtain ⟨h1, h2⟩ := rpL_mem.1 hx
    have := h _ h1
    rw [h2] at this
    simpa using this
  · intro h no hno
    cases hf : (F no).2
    · rfl
    · have := h (no, (F no).1) (rpL_mem.2 ⟨hno, Prod.ext rfl hf⟩)
      simpa using this
set_option maxRecDepth 100000 in
/-- the type of a reply is a type -/
theorem replyMti_ok {s : ByteArray} (h : replyMti s ≠ ⟨#[]⟩) : mtiOk (replyMti s) = true := by
  unfold replyMti at h
  split at h
  · next hd =>
    obtain ⟨a, b, c, d, rfl⟩ := four hd.2
    by_cases ho : c.toNat % 2 = 1
    · exact absurd (if_pos ho) h
    · have hr : replyMti ⟨#[a, b, c, d]⟩ = ⟨#[a, b, c + 1, d]⟩ := by
        unfold replyMti
        rw [if_pos hd]
        exact if_neg ho
      have g0 := digs_get hd.1 0 (by rw [hd.2]; decide)
      have g1 := digs_get hd.1 1 (by rw [hd.2]; decide)
      have g2 := digs_get hd.1 2 (by rw [hd.2]; decide)
      have g3 := digs_get hd.1 3 (by rw [hd.2]; decide)
      rw [hr]
      have e0 : (48 ≤ a.toNat ∧ a.toNat ≤ 57) := g0
      have e1 : (48 ≤ b.toNat ∧ b.toNat ≤ 57) := g1
      have e2 : (48 ≤ c.toNat ∧ c.toNat ≤ 57) := g2
      have e3 : (48 ≤ d.toNat ∧ d.toNat ≤ 57) := g3
      have ec : (c + 1).toNat = c.toNat + 1 := by
        rw [UInt8.toNat_add]
        have : (1 : UInt8).toNat = 1 := rfl
        omega
      have hall : digs ⟨#[a, b, c + 1, d]⟩ = true := by
        unfold digs
        simp only [Bool.and_eq_true, decide_eq_true_eq, List.all_eq_true]
        refine ⟨show 0 < 4 by decide, ?_⟩
        intro z hz
        have hz' : z = a ∨ z = b ∨ z = c + 1 ∨ z = d := by simpa using hz
        rw [isDig_iff]
        rcases hz' with rfl | rfl | rfl | rfl <;> omega
      unfold mtiOk
      rw [hall]
      rfl
  · exact absurd rfl h
set_option maxRecDepth 100000 in
/-- a reply is valid just if its fields are -/
theorem reply_valid {s : ByteArray} (F : Int → ByteArray × Bool) (h : replyMti s ≠ ⟨#[]⟩) : msgOk (replyMti s, rpL F rpNos) = rpGood F rpNos := by
  have hm := replyMti_ok h
  rw [Bool.eq_iff_iff]
  unfold msgOk
  rw [Bool.and_eq_true, rpGood_iff]
  constructor
  · rintro ⟨-, h2⟩
    exact (listOk_all h2).1
  · intro h2
    exact ⟨hm, listOk_of h2 (rp_asc F)⟩
end Go.Proofs.YtdjlhijaadombaaGreatDoor
/- What is found in a message's list after WithField and WithoutField. Plain facts; no conditions. -/
set_option linter.unusedVariables false
namespace Go.Proofs.YtdjlhijaadombaaGreatDoor
open Go.ChangeShapes Go.WideShapes Go.ChangeAt Go.RowKit

set_option maxRecDepth 100000 in
theorem asc_one {l : List FieldD} (h : asc l) {x y : FieldD} (hx : x ∈ l) (hy : y ∈ l) (he : x.1 = y.1) : x = y := by
  obtain ⟨i, hi, rfl⟩ := List.mem_iff_getElem.1 hx
  obtain ⟨j, hj, rfl⟩ := List.mem_iff_getElem.1 hy
  have hp := List.pairwise_iff_getElem.1 h
  rcases Nat.lt_trichotomy i j with g | g | g
  · have := hp i j hi hj g; omega
  · subst g; rfl
  · have := hp j i hj hi g; omega
set_option maxRecDepth 100000 in
theorem fld_of {l : List FieldD} (h : asc l) {x : FieldD} (hx : x ∈ l) : fldHas l x.1 = true ∧ fldTxt l x.1 = x.2 := by
  constructor
  · unfold fldHas; rw [List.any_eq_true]; exact ⟨x, hx, by simp⟩
  · unfold fldTxt
    cases hf : l.find? (fun y => decide (y.1 = x.1)) with
    | none => exact absurd (List.find?_eq_none.1 hf x hx) (by simp)
    | some y =>
      have h1 := List.mem_of_find?_eq_some hf
      have h2 := List.find?_some hf
      rw [asc_one h h1 hx (by simpa using h2)]; rfl
set_option maxRecDepth 100000 in
theorem fld_no {l : List FieldD} {n : Int} (h : ∀ x ∈ l, x.1 ≠ n) : fldHas l n = false ∧ fldTxt l n = ⟨#[]⟩ :=
  find_none fun j y hj hy => h y (List.mem_of_getElem? hy)
set_option maxRecDepth 100000 in
theorem fld_same {l l' : List FieldD} (h : asc l) (h' : asc l') {n : Int} (he : ∀ x, x.1 = n → (x ∈ l ↔ x ∈ l')) : fldHas l n = fldHas l' n ∧ fldTxt l n = fldTxt l' n := by
  by_cases hx : ∃ x ∈ l, x.1 = n
  · obtain ⟨x, hx, rfl⟩ := hx
    have h1 := fld_of h hx
    have h2 := fld_of h' ((he x rfl).1 hx)
    rw [h1.1, h1.2, h2.1, h2.2]; exact ⟨rfl, rfl⟩
  · have h0 : ∀ x ∈ l, x.1 ≠ n := fun x g e => hx ⟨x, g, e⟩
    have h1 := fld_no h0
    have h2 := fld_no (l := l') (n := n) (fun x g e => h0 x ((he x e).2 g) e)
    rw [h1.1, h1.2, h2.1, h2.2]; exact ⟨rfl, rfl⟩
set_option maxRecDepth 100000 in
theorem with_found {l : List FieldD} (h : asc l) (no : Int) (s : ByteArray) : fldHas (withF no s l) no = true ∧ fldTxt (withF no s l) no = s :=
  fld_of (x := (no, s)) (withF_up h no s) ((withF_mem h no s _).2 (Or.inl rfl))
set_option maxRecDepth 100000 in
theorem with_other {l : List FieldD} (h : asc l) (no : Int) (s : ByteArray) {n : Int} (hn : n ≠ no) : fldHas (withF no s l) n = fldHas l n ∧ fldTxt (withF no s l) n = fldTxt l n :=
  fld_same (withF_up h no s) h fun x hx => by
    rw [withF_mem h no s x]
    constructor
    · rintro (e | e)
      · rw [e] at hx; exact absurd hx.symm hn
      · exact e.1
    · intro e; exact Or.inr ⟨e, fun g => hn (by rw [← hx, g])⟩
set_option maxRecDepth 100000 in
theorem without_up {l : List FieldD} (h : asc l) (no : Int) : asc (withoutL l no) := List.Pairwise.filter _ h
set_option maxRecDepth 100000 in
theorem without_mem {l : List FieldD} {no : Int} {x : FieldD} : x ∈ withoutL l no ↔ x ∈ l ∧ x.1 ≠ no := by simp [withoutL]
set_option maxRecDepth 100000 in
theorem without_gone (l : List FieldD) (no : Int) : fldHas (withoutL l no) no = false ∧ fldTxt (withoutL l no) no = ⟨#[]⟩ :=
  fld_no fun x hx => (without_mem.1 hx).2
set_option maxRecDepth 100000 in
theorem without_other {l : List FieldD} (h : asc l) {no n : Int} (hn : n ≠ no) : fldHas (withoutL l no) n = fldHas l n ∧ fldTxt (withoutL l no) n = fldTxt l n :=
  fld_same (without_up h no) h fun x hx => by
    rw [without_mem]
    exact ⟨fun e => e.1, fun e => ⟨e, fun g => hn (by rw [← hx, g])⟩⟩
set_option maxRecDepth 100000 in
theorem without_ok {m : MsgD} (no : Int) (h : msgOk m = true) : msgOk (m.1, withoutL m.2 no) = true := by
  unfold msgOk at h ⊢
  rw [Bool.and_eq_true] at h ⊢
  obtain ⟨hf, hp⟩ := listOk_all h.2
  exact ⟨h.1, listOk_of (fun x hx => hf x (without_mem.1 hx).1) (without_up hp no)⟩
set_option maxRecDepth 100000 in
theorem split_no {l : List FieldD} (h : asc l) (no : Int) : withoutL l no = below no l ++ above no l := by
  induction l with
  | nil => rfl
  | cons x l ih =>
    obtain ⟨hx, hl⟩ := List.pairwise_cons.1 h
    rcases Int.lt_trichotomy x.1 no with g | g | g
    · have h1 : withoutL (x :: l) no = x :: withoutL l no := List.filter_cons_of_pos (by simp only [decide_eq_true_eq]; omega)
      have h2 : below no (x :: l) = x :: below no l := List.filter_cons_of_pos (by simpa using g)
      have h3 : above no (x :: l) = above no l := List.filter_cons_of_neg (by simp only [decide_eq_true_eq]; omega)
      rw [h1, h2, h3, ih hl]; rfl
    · have hg := all_above (no := no) (l := l) (fun y hy => by have := hx y hy; omega)
      have h1 : withoutL (x :: l) no = withoutL l no := List.filter_cons_of_neg (by simp only [decide_eq_true_eq]; omega)
      have h2 : below no (x :: l) = below no l := List.filter_cons_of_neg (by simp only [decide_eq_true_eq]; omega)
      have h3 : above no (x :: l) = above no l := List.filter_cons_of_neg (by simp only [decide_eq_true_eq]; omega)
      rw [h1, h2, h3, ih hl]
    · have hg := all_above (no := no) (l := x :: l) (fun y hy => by
        rcases List.mem_cons.1 hy with rfl | hy
        · exact g
        · have := hx y hy; omega)
      rw [hg.1, hg.2.1]; exact hg.2.2
set_option maxRecDepth 100000 in
theorem without_with {l : List FieldD} (h : asc l) (no : Int) (s : ByteArray) : withoutL (withF no s l) no = withoutL l no := by
  rw [split_no h, withF_asc h]
  unfold withoutL
  rw [List.filter_append, List.filter_cons_of_neg (by simp)]
  congr 1
  · exact List.filter_eq_self.2 fun x hx => by have := (mem_below.1 hx).2; simp only [decide_eq_true_eq]; omega
  · exact List.filter_eq_self.2 fun x hx => by have := (mem_above.1 hx).2; simp only [decide_eq_true_eq]; omega
end Go.Proofs.YtdjlhijaadombaaGreatDoor
/- Maps from numbers to texts: what one holds, its keys collected and sorted, a look-up. No conditions. -/
set_option linter.unusedVariables false
namespace Go.Proofs.YtdjlhijaadombaaGreatDoor
open Go.ChangeShapes Go.WideShapes Go.ChangeAt Go.RowKit
open Go.Maps (Keyed IsMap)

/-- the map as read holds just the pairs of the list -/
structure mapIs (D : DataW Unit) (L : List FieldD) : Prop where
  isMap : IsMap D
  has_ : ∀ k : Int, Maps.has D (.int .i64 k) = fldHas L k
  at_ : ∀ x ∈ L, ∀ z, D.atKey (.int .i64 x.1) z = .lit (.string x.2.data.toList)
set_option maxRecDepth 100000 in
theorem mapIs.start : mapIs (.map [] : DataW Unit) [] := ⟨Maps.isMap_empty, fun k => rfl, fun x hx => absurd hx (by simp)⟩
set_option maxRecDepth 100000 in
theorem keyLit (k : Int) : WideAt.IsKeyLit (.int .i64 k) := by simp [WideAt.IsKeyLit]
set_option maxRecDepth 100000 in
theorem lit_ne {a b : Int} (h : a ≠ b) : (Lit.int .i64 a) ≠ .int .i64 b := fun e => h (by cases e; rfl)
set_option maxRecDepth 100000 in
/-- a pair with a new key comes behind -/
theorem mapIs.snoc {D : DataW Unit} {L : List FieldD} (h : mapIs D L) {x : FieldD} (hx : ∀ y ∈ L, y.1 ≠ x.1) : mapIs (D.put (.int .i64 x.1) (.lit (.string x.2.data.toList))) (L ++ [x]) := by
  refine ⟨h.isMap.put _ _, fun k => ?_, fun y hy z => ?_⟩
  · unfold fldHas
    rw [List.any_append]
    by_cases e : k = x.1
    · subst e
      rw [Maps.has_put_same h.isMap (keyLit _)]
      simp
    · rw [Maps.has_put_other (lit_ne e), h.has_ k]
      have : ¬ x.1 = k := fun g => e g.symm
      simp [fldHas, this]
  · rcases List.mem_append.1 hy with hy | hy
    · rw [Maps.atKey_put_other (lit_ne (hx y hy))]
      exact h.at_ y hy z
    · obtain rfl : y = x := by simpa using hy
      exact Maps.atKey_put_same h.isMap (keyLit _) _ _
set_option maxRecDepth 100000 in
/-- a pair is put; the list is any that holds the same -/
theorem mapIs.put {D : DataW Unit} {L L' : List FieldD} (h : mapIs D L) (no : Int) (s : ByteArray) (hm : ∀ x, x ∈ L' ↔ x = (no, s) ∨ (x ∈ L ∧ x.1 ≠ no)) : mapIs (D.put (.int .i64 no) (.lit (.string s.data.toList))) L' := by
  refine ⟨h.isMap.put _ _, fun k => ?_, fun y hy z => ?_⟩
  · rw [Bool.eq_iff_iff]
    by_cases e : k = no
    · subst e
      rw [Maps.has_put_same h.isMap (keyLit _)]
      unfold fldHas
      rw [List.any_eq_true]
      exact ⟨fun _ => ⟨(k, s), (hm _).2 (Or.inl rfl), by simp⟩, fun _ => rfl⟩
    · rw [Maps.has_put_other (lit_ne e), h.has_ k]
      unfold fldHas
      rw [List.any_eq_true, List.any_eq_true]
      constructor
      · rintro ⟨x, hx, hk⟩
        have hk' : x.1 = k := by simpa using hk
        exact ⟨x, (hm x).2 (Or.inr ⟨hx, fun g => e (by rw [← hk', g])⟩), hk⟩
      · rintro ⟨x, hx, hk⟩
        have hk' : x.1 = k := by simpa using hk
        rcases (hm x).1 hx with rfl | hx
        · exact absurd hk'.symm e
        · exact ⟨x, hx.1, hk⟩
  · rcases (hm y).1 hy with rfl | hy
    · exact Maps.atKey_put_same h.isMap (keyLit _) _ _
    · rw [Maps.atKey_put_other (lit_ne hy.2)]
      exact h.at_ y hy.1 z
/-- the keys met so far -/
def metI (D : DataW Unit) (left : Lit → Bool) (zs : List Int) : Prop := zs.Nodup ∧ ∀ x, x ∈ zs ↔ (Maps.has D (.int .i64 x) = true ∧ left (.int .i64 x) = false)
set_option maxRecDepth 100000 in
theorem metI.start (D : DataW Unit) : metI D (Maps.has D) [] := ⟨List.nodup_nil, fun x => ⟨fun h => absurd h (by simp), fun h => by rw [h.1] at h; exact absurd h.2 (by simp)⟩⟩
set_option maxRecDepth 100000 in
theorem metI.step {D d : DataW Unit} {left : Lit → Bool} {zs : List Int} {x : Int} (h : metI D left zs) (hl : left (.int .i64 x) = true) (hat : ∀ zd, D.atKey (.int .i64 x) zd = d) :
    metI D (fun z => left z && !z.sameKey (.int .i64 x)) (zs ++ [x]) := by
  have hn : x ∉ zs := fun hx => by rw [((h.2 x).1 hx).2] at hl; cases hl
  refine ⟨?_, fun y => ?_⟩
  · rw [List.nodup_append]
    exact ⟨h.1, by simp, fun a ha b hb e => hn (by rw [List.mem_singleton.1 hb] at e; rw [← e]; exact ha)⟩
  · rw [List.mem_append, List.mem_singleton, h.2 y]
    by_cases e : y = x
    · subst e
      show _ ↔ _ ∧ (left (.int .i64 y) && !(Lit.int .i64 y).sameKey (.int .i64 y)) = false
      rw [WideAt.sameKey_self (keyLit _)]
      exact ⟨fun _ => ⟨Maps.has_true_of_atKey hat, by simp⟩, fun _ => Or.inr rfl⟩
    · show _ ↔ _ ∧ (left (.int .i64 y) && !(Lit.int .i64 y).sameKey (.int .i64 x)) = false
      rw [Maps.sameKey_ne (lit_ne e)]
      simp [e]
set_option maxRecDepth 100000 in
theorem asc_keys {L : List FieldD} (h : asc L) : (L.map (·.1)).Pairwise (fun a b => a < b) := by
  rw [List.pairwise_map]; exact h
set_option maxRecDepth 100000 in
theorem mem_has {L : List FieldD} {k : Int} : k ∈ L.map (·.1) ↔ fldHas L k = true := by
  unfold fldHas
  rw [List.any_eq_true, List.mem_map]
  exact ⟨fun ⟨x, hx, he⟩ => ⟨x, hx, by simpa using he⟩, fun ⟨x, hx, he⟩ => ⟨x, hx, by simpa using he⟩⟩
set_option maxRecDepth 100000 in
/-- sorted, the keys are the list's own -/
theorem sorted_keys {L : List FieldD} (h : asc L) {zs : List Int} (hn : zs.Nodup) (hm : ∀ x, x ∈ zs ↔ fldHas L x = true) : zs.mergeSort (fun x y => decide (x ≤ y)) = L.map (·.1) := by
  have hk := asc_keys h
  have hnd : (L.map (·.1)).Nodup := hk.imp (fun {a b} hab e => by omega)
  have hp : zs.Perm (L.map (·.1)) := (List.perm_ext_iff_of_nodup hn hnd).2 fun x => by rw [hm x, mem_has]
  have tr : ∀ a b c : Int, decide (a ≤ b) = true → decide (b ≤ c) = true → decide (a ≤ c) = true := fun a b c h1 h2 => by simp only [decide_eq_true_eq] at *; omega
  have tl : ∀ a b : Int, (decide (a ≤ b) || decide (b ≤ a)) = true := fun a b => by simp only [Bool.or_eq_true, decide_eq_true_eq]; omega
  refine List.Perm.eq_of_pairwise (le := fun a b => decide (a ≤ b) = true) (fun a b _ _ h1 h2 => ?_) (List.pairwise_mergeSort tr tl zs) (hk.imp fun {a b} hab => by simp only [decide_eq_true_eq]; omega) ((List.mergeSort_perm zs _).trans hp)
  simp only [decide_eq_true_eq] at h1 h2
  omega
set_option maxRecDepth 100000 in
/-- the look-up of a text, at the operation -/
theorem look_text {H : Type} {P : Program} (w : World) {ops : Array Oper} {rest : List Oper} {o : Oper} {a : Act} {Q : Exit → Act → World → Prop}
    (hg : o.guard = none) (m x : Operand) (t : TypeId) (hop : o.op = Op.lookup t m x false)
    (k e : TypeId) (K : Keyed P k) (ht : P.underlying t = some (.map k e)) (he : P.underlying e = some .string) (hz : (zeroValue e).run P w = .ok (.string ⟨#[]⟩) w) (b n : Nat) (D : DataW H)
    (hm : a.eval m = .map (some b)) (hown : w.ownsMap P k (plainElem P e) b n D) (key : Value) (kl : Lit) (hx : a.eval x = key) (hkey : keyOf P k key = some kl) (s : ByteArray) (hat : ∀ z, D.atKey kl z = .lit (.string s.data.toList))
    (hK : wpList P ops Q rest (a.put o.dst (.string s)) w) :
    wpList P ops Q (o :: rest) a w := by
  refine wpList_plain hg fun K' hK' => ?_
  obtain ⟨v, ps, hrun, hv⟩ := hown.lookup K ht hz (plainElem_string he (s := ⟨#[]⟩) (Nat.zero_le _)) hkey
  obtain ⟨c, rfl, hc, hwc⟩ := plainElem_string_inv he hv
  rw [hat] at hc
  simp only [Prod.mk.injEq] at hc
  obtain rfl : c = s := by
    have := hc.1
    simp only [DataW.lit.injEq, Lit.string.injEq] at this
    exact ByteArray.ext (Array.toList_inj.1 this.symm)
  unfold Oper.wp
  simp [execOp, hop, hm, hx, hrun, Result.andThen]
  exact hK' _ _ hK
set_option maxRecDepth 100000 in
/-- .. as an equation -/
theorem look_run {H : Type} {P : Program} {w : World} {t k e : TypeId} (K : Keyed P k) (ht : P.underlying t = some (.map k e)) (he : P.underlying e = some .string) (hz : (zeroValue e).run P w = .ok (.string ⟨#[]⟩) w) {b n : Nat} {D : DataW H}
    (hown : w.ownsMap P k (plainElem P e) b n D) {key : Value} {kl : Lit} (hkey : keyOf P k key = some kl) {s : ByteArray} (hat : ∀ z, D.atKey kl z = .lit (.string s.data.toList)) :
    (Instr.lookup t (.map (some b)) key false).run P w = .ok (.string s) w := by
  obtain ⟨v, ps, hrun, hv⟩ := hown.lookup K ht hz (plainElem_string he (s := ⟨#[]⟩) (Nat.zero_le _)) hkey
  obtain ⟨c, rfl, hc, hwc⟩ := plainElem_string_inv he hv
  rw [hat] at hc
  simp only [Prod.mk.injEq] at hc
  obtain rfl : c = s := by
    have := hc.1
    simp only [DataW.lit.injEq, Lit.string.injEq] at this
    exact ByteArray.ext (Array.toList_inj.1 this.symm)
  exact hrun
/-- a key of Go's int -/
def isI64 (k : Int) : Prop := (Lit.int .i64 k).wf = true
set_option maxRecDepth 100000 in
theorem ownsMap_below {H : Type} {P : Program} {k : TypeId} {R : Value → Option (DataW H × List MemPlace)} {w w' : World} {b n C : Nat} {D : DataW H} (h : w.ownsMap P k R b n D) (hb : Below C w w') (hC : b < C) : w'.ownsMap P k R b n D := by
  obtain ⟨es, clock, h1, rest⟩ := h
  exact ⟨es, clock, (hb.block b hC).trans h1, rest⟩
end Go.Proofs.YtdjlhijaadombaaGreatDoor
/- A reply's fields as the program gathers them: the same as the reference's list. Plain facts; no conditions. -/
set_option linter.unusedVariables false
namespace Go.Proofs.YtdjlhijaadombaaGreatDoor
open Go.ChangeShapes Go.WideShapes Go.ChangeAt Go.RowKit

/-- the fields that a reply takes over -/
def isRep (no : Int) : Bool := decide (no = 2) || decide (no = 102) || decide (no = 103) || decide (no = 3) || decide (no = 4) || decide (no = 49) || decide (no = 7) || decide (no = 11) || decide (no = 37) || decide (no = 41)
set_option maxRecDepth 100000 in
theorem isRep_iff {no : Int} : isRep no = true ↔ (no ∈ rpNos ∧ no ≠ 38 ∧ no ≠ 39 ∧ no ≠ 54) := by
  unfold isRep rpNos
  simp only [Bool.or_eq_true, decide_eq_true_eq, List.mem_cons, List.not_mem_nil, or_false]
  omega
def repL (l : List FieldD) : List FieldD := l.filter fun x => isRep x.1
set_option maxRecDepth 100000 in
theorem repL_yes {l : List FieldD} {x : FieldD} (h : isRep x.1 = true) : repL (l ++ [x]) = repL l ++ [x] := by
  unfold repL; rw [List.filter_append]; simp [h]
set_option maxRecDepth 100000 in
theorem repL_no {l : List FieldD} {x : FieldD} (h : isRep x.1 = false) : repL (l ++ [x]) = repL l := by
  unfold repL; rw [List.filter_append]; simp [h]
set_option maxRecDepth 100000 in
theorem repL_len (l : List FieldD) : (repL l).length ≤ l.length := List.length_filter_le _ _
set_option maxRecDepth 100000 in
theorem repL_mem {l : List FieldD} {x : FieldD} : x ∈ repL l ↔ x ∈ l ∧ isRep x.1 = true := by unfold repL; exact List.mem_filter
set_option maxRecDepth 100000 in
theorem repL_no39 {l : List FieldD} {n : Int} (hn : isRep n = false) : ∀ x ∈ repL l, x.1 ≠ n := by
  intro x hx e
  have := (repL_mem.1 hx).2
  rw [e, hn] at this
  cases this
set_option maxRecDepth 100000 in
theorem fld_iff {l : List FieldD} (h : asc l) {x : FieldD} : (fldHas l x.1 = true ∧ fldTxt l x.1 = x.2) ↔ x ∈ l := by
  constructor
  · rintro ⟨h1, h2⟩
    by_cases hm : ∃ y ∈ l, y.1 = x.1
    · obtain ⟨y, hy, he⟩ := hm
      have := (fld_of h hy).2
      rw [he, h2] at this
      obtain ⟨a, b⟩ := x
      obtain ⟨c, d⟩ := y
      simp only at he this
      subst he this
      exact hy
    · have := (fld_no (l := l) (n := x.1) fun y hy he => hm ⟨y, hy, he⟩).1
      rw [this] at h1; cases h1
  · intro hx
    exact fld_of h hx
def holdL (code : Int) (hold : ByteArray) : List FieldD := if code = 0 ∧ hold ≠ ⟨#[]⟩ then [(38, fitRes 38 hold)] else []
def toldL (told : ByteArray) : List FieldD := if told ≠ ⟨#[]⟩ then [(54, told)] else []
/-- what the program puts into its map -/
def putL (m : MsgD) (code : Int) (hold told : ByteArray) : List FieldD := ([(39, rsText code)] ++ repL m.2 ++ holdL code hold) ++ toldL told
set_option maxRecDepth 100000 in
theorem putL_mem {m : MsgD} (h : asc m.2) (code : Int) (hold told : ByteArray) (x : FieldD) : x ∈ rpL (rpF m code hold told) rpNos ↔ x ∈ putL m code hold told := by
  rw [rpL_mem]
  unfold putL
  rw [List.mem_append, List.mem_append, List.mem_append, List.mem_singleton, repL_mem, isRep_iff]
  have h38 : (38 : Int) ∈ rpNos := by decide
  have h39 : (39 : Int) ∈ rpNos := by decide
  have h54 : (54 : Int) ∈ rpNos := by decide
  have hH : x ∈ holdL code hold ↔ x = (38, fitRes 38 hold) ∧ code = 0 ∧ hold ≠ ⟨#[]⟩ := by
    unfold holdL
    split
    · next c => rw [List.mem_singleton]; exact ⟨fun e => ⟨e, c⟩, fun e => e.1⟩
    · next c => exact ⟨fun e => absurd e (by simp), fun e => absurd e.2 c⟩
  have hT : x ∈ toldL told ↔ x = (54, told) ∧ told ≠ ⟨#[]⟩ := by
    unfold toldL
    split
    · next c => rw [List.mem_singleton]; exact ⟨fun e => ⟨e, c⟩, fun e => e.1⟩
    · next c => exact ⟨fun e => absurd e (by simp), fun e => absurd e.2 c⟩
  rw [hH, hT]
  obtain ⟨no, s⟩ := x
  by_cases e1 : no = 38
  · subst e1
    have : rpF m code hold told 38 = (fitRes 38 hold, decide (code = 0) && decide (hold ≠ ⟨#[]⟩)) := by unfold rpF; rw [if_pos rfl]
    rw [this]
    simp [h38]
    exact fun _ _ => eq_comm
  by_cases e2 : no = 39
  · subst e2
    have : rpF m code hold told 39 = (rsText code, true) := by unfold rpF; rw [if_neg (by decide), if_pos rfl]
    rw [this]
    simp [h39]
    exact ⟨fun a => a.symm, fun a => a.symm⟩
  by_cases e3 : no = 54
  · subst e3
    have : rpF m code hold told 54 = (told, decide (told ≠ ⟨#[]⟩)) := by unfold rpF; rw [if_neg (by decide), if_neg (by decide), if_pos rfl]
    rw [this]
    simp [h54]
    exact fun _ => eq_comm
  · have : rpF m code hold told no = (fldTxt m.2 no, fldHas m.2 no) := by unfold rpF; rw [if_neg e1, if_neg e2, if_neg e3]
    have hf := fld_iff h (x := (no, s))
    simp only at hf
    simp only [this, Prod.mk.injEq]
    constructor
    · rintro ⟨a, b, c⟩; exact Or.inl (Or.inl (Or.inr ⟨hf.1 ⟨c, b⟩, a, e1, e2, e3⟩))
    · rintro (((⟨a, b⟩ | ⟨a, b, c⟩) | ⟨⟨a, b⟩, c⟩) | ⟨⟨a, b⟩, c⟩)
      · exact absurd a e2
      · exact ⟨b, (hf.2 a).2, (hf.2 a).1⟩
      · exact absurd a e1
      · exact absurd a e3
set_option maxRecDepth 100000 in
/-- a map holds what any list with the same pairs says -/
theorem mapIs.same {D : DataW Unit} {L L' : List FieldD} (h : mapIs D L) (hm : ∀ x, x ∈ L' ↔ x ∈ L) : mapIs D L' := by
  refine ⟨h.isMap, fun k => ?_, fun x hx z => h.at_ x ((hm x).1 hx) z⟩
  rw [h.has_ k, Bool.eq_iff_iff, ← mem_has, ← mem_has]
  simp only [List.mem_map]
  exact ⟨fun ⟨x, hx, he⟩ => ⟨x, (hm x).2 hx, he⟩, fun ⟨x, hx, he⟩ => ⟨x, (hm x).1 hx, he⟩⟩
set_option maxRecDepth 100000 in
theorem putL_new38 {m : MsgD} {code : Int} : ∀ y ∈ [(39, rsText code)] ++ repL m.2, y.1 ≠ 38 := by
  intro y hy
  rcases List.mem_append.1 hy with h | h
  · rw [List.mem_singleton.1 h]; first | exact (by decide : (39 : Int) ≠ 38) | exact (by decide : (39 : Int) ≠ 54) | exact (by decide : (38 : Int) ≠ 54)
  · exact repL_no39 (by decide) y h
set_option maxRecDepth 100000 in
theorem putL_new54 {m : MsgD} {code : Int} {hold : ByteArray} : ∀ y ∈ [(39, rsText code)] ++ repL m.2 ++ holdL code hold, y.1 ≠ 54 := by
  intro y hy
  rcases List.mem_append.1 hy with h | h
  · rcases List.mem_append.1 h with h | h
    · rw [List.mem_singleton.1 h]; first | exact (by decide : (39 : Int) ≠ 38) | exact (by decide : (39 : Int) ≠ 54) | exact (by decide : (38 : Int) ≠ 54)
    · exact repL_no39 (by decide) y h
  · unfold holdL at h
    split at h
    · rw [List.mem_singleton.1 h]; first | exact (by decide : (39 : Int) ≠ 38) | exact (by decide : (39 : Int) ≠ 54) | exact (by decide : (38 : Int) ≠ 54)
    · exact absurd h (by simp)
set_option maxRecDepth 100000 in
theorem putL_newx {l : List FieldD} {code : Int} {i : Nat} {x : FieldD} (h : asc l) (hx : l[i]? = some x) (hr : isRep x.1 = true) : ∀ y ∈ [(39, rsText code)] ++ repL (l.take i), y.1 ≠ x.1 := by
  intro y hy
  rcases List.mem_append.1 hy with h' | h'
  · rw [List.mem_singleton.1 h']
    have := (isRep_iff.1 hr).2.2.1
    exact fun e => this e.symm
  · have hy' := (repL_mem.1 h').1
    obtain ⟨hi, rfl⟩ := List.getElem?_eq_some_iff.1 hx
    obtain ⟨j, hj, rfl⟩ := List.mem_iff_getElem.1 hy'
    rw [List.length_take] at hj
    rw [List.getElem_take]
    have := List.pairwise_iff_getElem.1 h j i (by omega) hi (by omega)
    omega
set_option maxRecDepth 100000 in
/-- the answer: the reply if it is valid -/
theorem mtiOk_empty : mtiOk ⟨#[]⟩ = false := by decide
set_option maxRecDepth 100000 in
theorem fOk39 : fOk 39 ⟨#[]⟩ = false := by decide +kernel
set_option maxRecDepth 100000 in
theorem reply_res {m : MsgD} (hm : msgOk m = true) (code : Int) (hold told : ByteArray) :
    replyRes m code hold told = if msgOk (replyMti m.1, rpL (rpF m code hold told) rpNos) = true then ((replyMti m.1, rpL (rpF m code hold told) rpNos), true) else ((⟨#[]⟩, []), false) := by
  unfold replyRes
  by_cases h1 : replyMti m.1 = ⟨#[]⟩
  · rw [if_neg (by rintro ⟨⟨-, h, -⟩, -⟩; exact h h1), if_neg]
    rw [h1]
    unfold msgOk
    rw [mtiOk_empty]
    simp
  · rw [reply_valid _ h1]
    by_cases h2 : rsText code = ⟨#[]⟩
    · rw [if_neg (by rintro ⟨⟨-, -, h⟩, -⟩; exact h h2), if_neg]
      rw [rpGood_iff]
      intro h
      have := h (39, rsText code) (rpL_mem.2 ⟨by show (39 : Int) ∈ rpNos; decide, by show rpF m code hold told 39 = _; unfold rpF; rw [if_neg (by decide), if_pos rfl]⟩)
      rw [h2] at this
      have h3 := fOk39
      rw [show fOk 39 ⟨#[]⟩ = true from this] at h3
      cases h3
    · by_cases h3 : rpGood (rpF m code hold told) rpNos = true
      · rw [if_pos ⟨⟨hm, h1, h2⟩, h3⟩, if_pos h3]
      · rw [if_neg (fun h => h3 h.2), if_neg h3]
end Go.Proofs.YtdjlhijaadombaaGreatDoor
/- MtiKnown, ReplyMti and isRepeated of the program; no conditions. -/
set_option linter.unusedVariables false
namespace Go.Proofs.YtdjlhijaadombaaGreatDoor
open Go.ChangeShapes Go.WideShapes Go.ChangeAt Go.RowKit

set_option maxRecDepth 100000 in
theorem bytesW_frozen (w : World) (e : TypeId) (s : ByteArray) (j : Nat) (hj : j < s.size) : (Lib.bytesWorld w e s).frozen? ⟨w.heap.size, j, none⟩ = false := by
  have h2 : s.size ≤ (Lib.bytesCells w e s).size := by
    have : s.size = s.data.size := rfl
    unfold Lib.bytesCells; simp <;> omega
  simp [World.frozen?, Lib.bytesWorld_at_new]
  try omega

set_option maxRecDepth 100000 in
set_option maxHeartbeats 1600000 in
theorem implReplyMti_any (s : ByteArray) (w : World) (hs : s.size ≤ maxLen) : Calls Tryz.prog 24 #[.string s] w fun e w' => e = .returned (.string (replyMti s)) ∧ Below w.heap.size w w' := by
  cases hm : mtiOk s
  · have hr : replyMti s = ⟨#[]⟩ := by
      unfold replyMti
      rw [if_neg]
      rintro ⟨h1, h2⟩
      simp [mtiOk, h1, h2] at hm
    rw [hr]
    have HM := Lib.hid hm
    clear hm hr
    go_enter Tryz.func24, Tryz.ntmps24
    go_wp2_with fail
    refine (isMti_any s _ hs).mono ?_
    rw [HM.out]
    rintro e w1 ⟨rfl, hb⟩
    go_wp2
    go_ret
    exact ⟨rfl, hb⟩
  have HM := Lib.hid hm
  unfold mtiOk at hm
  rw [Bool.and_eq_true, decide_eq_true_eq] at hm
  obtain ⟨hd, h4⟩ := hm
  have h2 : 2 < s.size := by omega
  have hg : 48 ≤ (s[2]'h2).toNat ∧ (s[2]'h2).toNat ≤ 57 := digs_get hd 2 h2
  have hw0 : IntKind.u8.wrap (((s[2]'h2).toNat : Int) - 48) = ((s[2]'h2).toNat : Int) - 48 := IntWalk.u8_in _ (by omega)
  have hb0 : 0 ≤ ((s[2]'h2).toNat : Int) - 48 := by omega
  by_cases ho : (s[2]'h2).toNat % 2 = 1
  · rw [replyMti_odd hd h4 ho]
    have ho' : ((((s[2]'h2).toNat : Int) - 48) % 2 == 1) = true := by simp; omega
    clear hd
    go_enter Tryz.func24, Tryz.ntmps24
    go_wp2_with fail
    refine (isMti_any s _ hs).mono ?_
    rw [HM.out]
    rintro e w1 ⟨rfl, hb⟩
    have hbr := Lib.hid hb
    clear hb
    go_wp2
    go_ret
    exact ⟨rfl, hbr.out⟩
  · have HR := Lib.hid (replyMti_even hd h4 ho)
    have ho' : ((((s[2]'h2).toNat : Int) - 48) % 2 == 1) = false := by simp; omega
    clear hd
    have hwr : IntKind.u8.wrap (((s[2]'h2).toNat : Int) + 1) = ((s[2]'h2).toNat : Int) + 1 := IntWalk.u8_in _ (by omega)
    have HBK : Hid (∀ W : World, ∀ cap : Nat, (convert 56 9 (.slice (some ⟨W.heap.size, 0, none⟩) 4 cap)).run Tryz.prog ((Lib.bytesWorld W 5 s).setCell ⟨W.heap.size, 2, none⟩ (.int .u8 (((s[2]'h2).toNat : Int) + 1))) = .ok (.string (replyMti s)) ((Lib.bytesWorld W 5 s).setCell ⟨W.heap.size, 2, none⟩ (.int .u8 (((s[2]'h2).toNat : Int) + 1)))) := Lib.hid (by
      intro W cap
      rw [HR.out]
      obtain ⟨a, b, c, d, rfl⟩ := four h4
      have hc : (c + 1).toNat = c.toNat + 1 := by
        have h9 : c.toNat ≤ 57 := hg.2
        rw [UInt8.toNat_add]
        have : (1 : UInt8).toNat = 1 := rfl
        omega
      have hB := fun j hj => Lib.bytesWorld_cell W 5 ⟨#[a, b, c, d]⟩ j hj
      refine run_convert_bytes_back (P := Tryz.prog) _ 56 9 5 ⟨W.heap.size, 0, none⟩ cap [a, b, c + 1, d] Tryz.underlying56 Tryz.underlying5 Tryz.underlying9 (fun j hj => ?_)
      have hadd : (⟨W.heap.size, 0, none⟩ : Addr).add j = ⟨W.heap.size, j, none⟩ := by unfold Addr.add; split <;> simp_all
      rw [hadd]
      by_cases e : j = 2
      · subst e
        rw [World.cell?_setCell_same _ _ _ (hB 2 (show 2 < 4 by decide))]
        show some (Value.int .u8 ((c.toNat : Int) + 1)) = some (.int .u8 (((c + 1).toNat : Nat) : Int))
        rw [hc]; rfl
      · rw [World.cell?_setCell_other _ _ _ _ (fun he => e (by have := congrArg Addr.off he; simpa using this.symm)), hB j hj]
        have hj4 : j = 0 ∨ j = 1 ∨ j = 3 := by have : j < 4 := hj; omega
        rcases hj4 with rfl | rfl | rfl <;> rfl)
    have hcv := fun W => Lib.run_convert_string_bytes (P := Tryz.prog) W 9 56 5 s Tryz.underlying9 Tryz.underlying56 Tryz.underlying5
    have hget : (s.data.toList.getD 2 0).toNat = (s[2]'h2).toNat := by
      obtain ⟨a, b, c, d, rfl⟩ := four h4
      rfl
    go_enter Tryz.func24, Tryz.ntmps24
    go_wp2_with fail
    refine (isMti_any s _ hs).mono ?_
    rw [HM.out]
    rintro e w1 ⟨rfl, hb⟩
    have HBR := Lib.hid hb
    have hz := hb.size
    clear hb
    have c2 := Lib.bytesWorld_cell w1 5 s 2 h2
    rw [hget] at c2
    have f2 := bytesW_frozen w1 5 s 2 h2
    have hbk := HBK.out w1
    go_wp2
    go_ret
    refine ⟨rfl, ?_⟩
    exact (HBR.out.trans ((bytesW_below w1 5 s).mono hz)).setCell (p := ⟨_, _, none⟩) (show _ ≤ _ from hz) _
end Go.Proofs.YtdjlhijaadombaaGreatDoor
/- MsgOk of the program; no conditions. -/
set_option linter.unusedVariables false
namespace Go.Proofs.YtdjlhijaadombaaGreatDoor
open Go.ChangeShapes Go.WideShapes Go.ChangeAt Go.RowKit

/-- what the loop holds of the field before: 0 at the start -/
def prevNo (l : List FieldD) (i : Nat) : Int := if i = 0 then 0 else (l.getD (i - 1) noF).1
set_option maxRecDepth 100000 in
theorem prev_low {l : List FieldD} {i : Nat} {x : FieldD} (hx : l[i]? = some x) (h : x.1 ≤ prevNo l i) : stepOk l i = false := by
  unfold stepOk
  rw [getD_of hx]
  unfold prevNo at h
  by_cases e : i = 0
  · rw [if_pos e] at h
    cases hf : fOk x.1 x.2
    · rfl
    · have := (fOk_range hf).1; omega
  · rw [if_neg e] at h
    have h1 : decide ((l.getD (i - 1) noF).1 < x.1) = false := by rw [decide_eq_false_iff_not]; omega
    rw [h1]; simp [e]
set_option maxRecDepth 100000 in
theorem prev_yes {l : List FieldD} {i : Nat} {x : FieldD} (hx : l[i]? = some x) (h : prevNo l i < x.1) : stepOk l i = fOk x.1 x.2 := by
  unfold stepOk
  rw [getD_of hx]
  unfold prevNo at h
  by_cases e : i = 0
  · simp [e]
  · rw [if_neg e] at h
    have h1 : decide ((l.getD (i - 1) noF).1 < x.1) = true := by rw [decide_eq_true_eq]; exact h
    rw [h1]; simp
set_option maxRecDepth 100000 in
theorem prev_next {l : List FieldD} {i : Nat} {x : FieldD} (hx : l[i]? = some x) : prevNo l (i + 1) = x.1 := by
  unfold prevNo
  rw [if_neg (by omega), Nat.add_sub_cancel, getD_of hx]
set_option maxRecDepth 100000 in
set_option maxHeartbeats 4000000 in
theorem implMsgOk_any (hi : Nat) (v : Value) (m : MsgD) (w : World) (hm : m.1.size ≤ maxLen) (hn : m.2.length ≤ 1048576) (hs : ∀ x ∈ m.2, x.2.size ≤ maxLen) (h : FieldsR.rd hi w [v] m.2) (hh : hi ≤ w.heap.size) :
    Calls Tryz.prog 19 #[.agg #[.string m.1, v]] w fun e w' => e = .returned (.bool (msgOk m)) ∧ Below w.heap.size w w' := by
  obtain ⟨A, c, rfl, hc, h'⟩ := fields_rd h
  have HR := Lib.hid h'
  have HS := Lib.hid hs
  clear h' hs h
  have HD := Lib.hid (fun w' => isMti_any m.1 w' hm)
  have HB0 : Hid (∀ o, Below w.heap.size w (w.alloc o)) := Lib.hid fun o => (Below.refl _ _).alloc (Nat.le_refl _) o
  cases hd : mtiOk m.1
  · have HM : Hid (msgOk m = false) := Lib.hid (by simp [msgOk, hd])
    rw [HM.out]
    have HDD := Lib.hid hd
    clear hd
    go_enter Tryz.func19, Tryz.ntmps19
    go_wp2_with fail
    refine (HD.out _).mono ?_
    rw [HDD.out]
    rintro e w1 ⟨rfl, hb⟩
    have HB := Lib.hid ((HB0.out _).trans (hb.mono (by simp)))
    clear hb
    go_wp2
    go_ret
    exact ⟨rfl, HB.out⟩
  have HM : Hid (msgOk m = listOk m.2) := Lib.hid (by simp [msgOk, hd])
  rw [HM.out]
  have HDD := Lib.hid hd
  clear hd HM
  go_enter Tryz.func19, Tryz.ntmps19
  go_wp2_with fail
  refine (HD.out _).mono ?_
  rw [HDD.out]
  rintro e w1 ⟨rfl, hb⟩
  have HB1 := Lib.hid ((HB0.out _).trans (hb.mono (by simp)))
  have hz1 : w.heap.size + 1 ≤ w1.heap.size := by have := hb.size; simpa using this
  have x1 : w1.cell? ⟨w.heap.size, 1, none⟩ = some (.slice A m.2.length c) := (hb.cell (p := ⟨w.heap.size, 1, none⟩) (by simp)).trans (by simp)
  clear hb
  go_wp2
  go_loopw [3, 13] (fun bv iv wr => ∃ i : Nat, i ≤ m.2.length ∧ iv = .int .i64 i ∧ bv = .int .i64 (prevNo m.2 i) ∧ Hid (∀ j, j < i → stepOk m.2 j = true) ∧ Hid (Below w.heap.size w wr) ∧ w.heap.size ≤ wr.heap.size) (fun _ iv _ => m.2.length - (intOf iv).toNat)
  case atStart => exact ⟨0, Nat.zero_le _, rfl, rfl, Lib.hid (fun j hj => absurd hj (by omega)), HB1, by omega⟩
  case round =>
    obtain ⟨i, hi', rfl, rfl, HG, HB, hz⟩ := hrel
    by_cases hin : i < m.2.length
    · obtain ⟨x, hx⟩ : ∃ x, m.2[i]? = some x := ⟨_, List.getElem?_eq_getElem hin⟩
      obtain ⟨b, off, rfl, hbl, c0, c1⟩ := HR.out i x hx
      have hxs := HS.out x (List.mem_of_getElem? hx)
      have c0 := (HB.out.cell (p := ⟨b, off + i * 2, none⟩) (show b < w.heap.size by omega)).trans c0
      have c1 := (HB.out.cell (p := ⟨b, off + i * 2 + 1, none⟩) (show b < w.heap.size by omega)).trans c1
      have g1 : (i : Int) < (m.2.length : Int) := by omega
      have g2 : 0 ≤ (i : Int) := by omega
      have HN := Lib.hid (prev_next hx)
      have HL := Lib.hid (fun h => prev_low hx h)
      have HY := Lib.hid (fun h => prev_yes hx h)
      have HK := Lib.hid (fun (h : stepOk m.2 i = false) => listOk_no hin h)
      clear hx
      generalize prevNo m.2 i = p at HL HY ⊢
      by_cases hlt : x.1 ≤ p
      · have HF := Lib.hid (HK.out (HL.out hlt))
        have hlt' : decide (x.1 ≤ p) = true := by simpa using hlt
        clear hlt
        go_wp2
        go_ret
        exact ⟨ret_bool HF.out.symm, HB.out.alloc hz _⟩
      · have hlt' : decide (x.1 ≤ p) = false := by simpa using hlt
        have HP := Lib.hid (HY.out (by omega))
        have HQ := Lib.hid (fun w' => implFieldOk_any x.1 x.2 w' hxs)
        have HBX := Lib.hid (HB.out.alloc hz (.cells #[.int .i64 x.1, .string x.2] 45))
        clear hlt
        cases hf : fOk x.1 x.2
        · have HF := Lib.hid (HK.out (by rw [HP.out, hf]))
          rw [hf] at HQ
          clear hf
          go_wp2_with fail
          refine (HQ.out _).mono ?_
          rintro e w2 ⟨rfl, hb2⟩
          have HB2 := Lib.hid (HBX.out.trans (hb2.mono (by simp; omega)))
          clear hb2
          go_wp2
          go_ret
          exact ⟨ret_bool HF.out.symm, HB2.out⟩
        · rw [hf] at HQ
          have HF : Hid (stepOk m.2 i = true) := Lib.hid (by rw [HP.out, hf])
          clear hf
          go_wp2_with fail
          refine (HQ.out _).mono ?_
          rintro e w2 ⟨rfl, hb2⟩
          have HB2 := Lib.hid (HBX.out.trans (hb2.mono (by simp; omega)))
          have hz2 : wr.heap.size + 1 ≤ w2.heap.size := by have := hb2.size; simpa using this
          have q0 : w2.cell? ⟨wr.heap.size, 0, none⟩ = some (.int .i64 x.1) := (hb2.cell (p := ⟨wr.heap.size, 0, none⟩) (by simp)).trans (by simp)
          clear hb2
          go_wp2
          go_roundw
          case rel => exact ⟨i + 1, by omega, by go_num, by rw [HN.out], Lib.hid (fun j hj => by
            by_cases e : j = i
            · rw [e]; exact HF.out
            · exact HG.out j (by omega)), HB2, by omega⟩
          case measure => simp [intOf] <;> omega
    · obtain rfl : i = m.2.length := by omega
      have HF : Hid (listOk m.2 = true) := Lib.hid (listOk_yes HG.out)
      go_wp2
      go_ret
      exact ⟨ret_bool HF.out.symm, HB.out⟩
end Go.Proofs.YtdjlhijaadombaaGreatDoor
/- onlyValid, isRepeated and Bare of the program; the table of the codes' texts lies as Go's text lays it. -/
set_option linter.unusedVariables false
namespace Go.Proofs.YtdjlhijaadombaaGreatDoor
open Go.ChangeShapes Go.WideShapes Go.ChangeAt Go.RowKit
open Go.Maps (Keyed IsMap)

set_option maxRecDepth 100000 in
/-- a map literal's pair at the operation -/
theorem wpList_insert_own {H : Type} {P : Program} (w : World) {ops : Array Oper} {rest : List Oper} {o : Oper} {a : Act} {Q : Exit → Act → World → Prop}
    (hg : o.guard = none) (m x v : Operand) (t : TypeId) (hop : o.op = Op.insert t m x v)
    (k e : TypeId) (K : Keyed P k) (ht : P.underlying t = some (.map k e)) (R : Value → Option (DataW H × List MemPlace)) (b n : Nat) (D : DataW H)
    (hm : a.eval m = .map (some b)) (hown : w.ownsMap P k R b n D) (hn : n < maxLen) (key val : Value) (kl : Lit) (hx : a.eval x = key) (hv : a.eval v = val) (hkey : keyOf P k key = some kl)
    (d : DataW H) (ps : List MemPlace) (hval : R val = some (d, ps))
    (hK : ∀ w', w'.ownsMap P k R b (n + 1) (D.put kl d) → w.grownBy w' (some b) → wpList P ops Q rest (a.put o.dst undef) w') :
    wpList P ops Q (o :: rest) a w := by
  refine wpList_plain hg fun K' hK' => ?_
  obtain ⟨w', hrun, r1, r2⟩ := hown.update K ht hn hkey hval
  unfold Oper.wp
  simp [execOp, hop, hm, hx, hv, hrun, Result.andThen]
  exact hK' _ _ (hK w' r1 r2)

set_option maxRecDepth 100000 in
theorem isRepeated_any (no : Int) (w : World) : Calls Tryz.prog 21 #[.int .i64 no] w fun e w' => e = .returned (.bool (isRep no)) ∧ w = w' := by
  go_enter Tryz.func21, Tryz.ntmps21
  go_wp2
  all_goals go_ret
  all_goals refine ⟨congrArg (fun b => Ending.returned (.bool b)) ?_, rfl⟩
  all_goals simp only [beq_iff_eq, beq_eq_false_iff_ne, ne_eq] at *
  all_goals first | (subst_vars; rfl) | simp [isRep, *]

/-- the message, or none -/
def onlyRes (ok : Bool) (m : MsgD) (v : Value) : Value := if ok = true then .tuple #[.agg #[.string m.1, v], .bool true] else .tuple #[.agg #[.string ⟨#[]⟩, .slice none 0 0], .bool false]
set_option maxRecDepth 100000 in
set_option maxHeartbeats 1600000 in
theorem onlyValid_any (hi : Nat) (v : Value) (m : MsgD) (w : World) (hm : m.1.size ≤ maxLen) (hn : m.2.length ≤ 1048576) (hs : ∀ x ∈ m.2, x.2.size ≤ maxLen) (h : FieldsR.rd hi w [v] m.2) (hh : hi ≤ w.heap.size) :
    Calls Tryz.prog 23 #[.agg #[.string m.1, v]] w fun e w' => e = .returned (onlyRes (msgOk m) m v) ∧ Below w.heap.size w w' := by
  obtain ⟨A, c, rfl, hc, h'⟩ := fields_rd h
  have HOK := Lib.hid (fun (W : World) (hW : Below w.heap.size w W) => implMsgOk_any hi (.slice A m.2.length c) m W hm hn hs (Rep.below (R := FieldsR) h hW hh) (Nat.le_trans hh hW.size))
  clear h' hs h
  have HB0 : Hid (∀ o1 o2, Below w.heap.size w ((w.alloc o1).alloc o2)) := Lib.hid fun o1 o2 => ((Below.refl _ _).alloc (Nat.le_refl _) o1).alloc (by simp) o2
  generalize msgOk m = ok at HOK
  cases ok
  all_goals go_enter Tryz.func23, Tryz.ntmps23
  all_goals go_wp2_with fail
  all_goals refine (HOK.out _ (HB0.out _ _)).mono ?_
  all_goals rintro e w1 ⟨rfl, hb⟩
  all_goals have hz : w.heap.size + 1 + 1 ≤ w1.heap.size := by have := hb.size; simpa using this
  all_goals have r0 : w1.cell? ⟨w.heap.size + 1, 0, none⟩ = some (.string ⟨#[]⟩) := (hb.cell (p := ⟨w.heap.size + 1, 0, none⟩) (by simp)).trans (by simp)
  all_goals have r1 : w1.cell? ⟨w.heap.size + 1, 1, none⟩ = some (.slice none 0 0) := (hb.cell (p := ⟨w.heap.size + 1, 1, none⟩) (by simp)).trans (by simp)
  all_goals have f0 : w1.frozen? ⟨w.heap.size + 1, 0, none⟩ = false := (hb.frozen (p := ⟨w.heap.size + 1, 0, none⟩) (by simp)).trans (by simp)
  all_goals have f1 : w1.frozen? ⟨w.heap.size + 1, 1, none⟩ = false := (hb.frozen (p := ⟨w.heap.size + 1, 1, none⟩) (by simp)).trans (by simp)
  all_goals have x0 : w1.cell? ⟨w.heap.size, 0, none⟩ = some (.string m.1) := (hb.cell (p := ⟨w.heap.size, 0, none⟩) (by simp; omega)).trans (by simp)
  all_goals have x1 : w1.cell? ⟨w.heap.size, 1, none⟩ = some (.slice A m.2.length c) := (hb.cell (p := ⟨w.heap.size, 1, none⟩) (by simp; omega)).trans (by simp)
  all_goals have HB : Hid (Below w.heap.size w w1) := Lib.hid ((HB0.out _ _).trans (hb.mono (by simp; omega)))
  all_goals clear hb
  all_goals go_wp2
  · refine bodyPost_ret (v := .tuple #[.agg #[.string ⟨#[]⟩, .slice none 0 0], .bool false]) (by simp [results, Tryz.results23, go_sem, r0, r1]) rfl ⟨rfl, ?_⟩
    exact (HB.out.setCell (p := ⟨_, _, none⟩) (show _ ≤ w.heap.size + 1 by omega) _).setCell (p := ⟨_, _, none⟩) (show _ ≤ w.heap.size + 1 by omega) _
  · refine bodyPost_ret (v := .tuple #[.agg #[.string m.1, .slice A m.2.length c], .bool true]) (by simp [results, Tryz.results23, go_sem, r0, r1]) rfl ⟨rfl, ?_⟩
    exact (HB.out.setCell (p := ⟨_, _, none⟩) (show _ ≤ w.heap.size + 1 by omega) _).setCell (p := ⟨_, _, none⟩) (show _ ≤ w.heap.size + 1 by omega) _
end Go.Proofs.YtdjlhijaadombaaGreatDoor
/- FieldOf and WithoutField of the program; no conditions. -/
set_option linter.unusedVariables false
namespace Go.Proofs.YtdjlhijaadombaaGreatDoor
open Go.ChangeShapes Go.WideShapes Go.ChangeAt Go.RowKit

set_option maxRecDepth 100000 in
/-- the answer is a message whose list is a row of the call's own -/
theorem mine_own {lo hi : Nat} {w : World} {v : Value} {L : List FieldD} (h : owE 45 2 fCells lo w v L) (hh : w.heap.size ≤ hi) : FieldsR.mine lo hi w [v] L := by
  rcases h.filled (fun _ => rfl) noF with ⟨rfl, A, c, rfl⟩ | ⟨g, c, rfl, hc, h1, h2, hf⟩
  · exact ⟨[], ⟨A, c, rfl, Nat.zero_le _, .inl ⟨rfl, rfl⟩⟩, List.nodup_nil, by simp⟩
  · exact fields_mine rfl hc h1 (by omega) hf
end Go.Proofs.YtdjlhijaadombaaGreatDoor
/- fieldsOf, textsOf and WithField of the program: a map from numbers to texts, its keys sorted; no conditions. -/
set_option linter.unusedVariables false
namespace Go.Proofs.YtdjlhijaadombaaGreatDoor
open Go.ChangeShapes Go.WideShapes Go.ChangeAt Go.RowKit
open Go.Maps (Keyed IsMap)

set_option maxRecDepth 100000 in
theorem lawI : Keyed Tryz.prog 3 := Maps.int_keyed Tryz.underlying3
set_option maxRecDepth 100000 in
theorem zeroS (w : World) : (zeroValue 9).run Tryz.prog w = .ok (.string ⟨#[]⟩) w := by kernel_rfl
/-- block b holds a map from numbers to texts -/
abbrev mapAt (w : World) (b n : Nat) (D : DataW Unit) : Prop := w.ownsMap Tryz.prog 3 (plainElem Tryz.prog 9) b n D
set_option maxRecDepth 100000 in
theorem mapAt_size {w : World} {b n : Nat} {D : DataW Unit} (h : mapAt w b n D) : Maps.size D ≤ n := by
  obtain ⟨es, clock, hb, F, hs, rfl⟩ := h
  simp only [Maps.size, length_sorted, List.length_map, Array.length_toList]
  exact hs
set_option maxRecDepth 100000 in
theorem owE_ints {B : Nat} {w : World} {v : Value} {l : List Int} (h : w.ownsRow B 3 1 v l.length (l.map (Value.int .i64))) : owE 3 1 iCells B w v l := by
  unfold owE
  rw [show l.flatMap iCells = l.map (Value.int .i64) from flat_map _ _]
  exact h
set_option maxRecDepth 100000 in
theorem row_iter {w : World} {v : Value} {l : List Int} {B b r n cnt : Nat} {D : DataW Unit} {left : Lit → Bool} (h : owE 3 1 iCells B w v l) (hr : w.ranges Tryz.prog 3 (plainElem Tryz.prog 9) b r n D left cnt) : some r ≠ v.ownBlock := row_ne_iter h hr
set_option maxRecDepth 100000 in
theorem ow_of_row {w : World} {B g c n : Nat} {l : List Int} (h : w.ownsRow B 3 1 (.slice (some ⟨g, 0, none⟩) n c) n (l.map (Value.int .i64))) (hn : n = l.length) : ow 3 .i64 B w (.slice (some ⟨g, 0, none⟩) n c) l := by
  subst hn; exact h
set_option maxRecDepth 100000 in
set_option maxHeartbeats 6400000 in
theorem implFieldsOf_any (b n : Nat) (D : DataW Unit) (L : List FieldD) (w : World) (hown : mapAt w b n D) (hD : mapIs D L) (hL : asc L) (hn : n ≤ 4000000) (hl : L.length ≤ 4000000) (hk : ∀ x ∈ L, (Lit.int .i64 x.1).wf = true) :
    Calls Tryz.prog 25 #[.map (some b)] w fun e w' => ∃ u, e = .returned u ∧ FieldsR.mine w.heap.size w'.heap.size w' [u] L ∧ Below w.heap.size w w' := by
  have hbl := hown.lt
  have hsz := mapAt_size hown
  have HO := Lib.hid hown
  have HD := Lib.hid hD
  have HL := Lib.hid hL
  have HK := Lib.hid hk
  clear hD hL hk
  go_enter Tryz.func25, Tryz.ntmps25
  go_wp2_with (at_range; refine wpList_range_own _ rfl _ 47 rfl 3 9 lawI Tryz.underlying47 _ b n D rfl hown ?_)
  intro w0 hrg0 hg0 hs0
  have hz0 : w.heap.size ≤ w0.heap.size := hg0.size
  have HB0 : Hid (Below w.heap.size w w0) := Lib.hid ((Below.refl _ _).grown hg0 (Nat.le_refl _) (fun j hj => by cases hj))
  clear hs0 hown
  go_wp2
  go_loopw [3] (fun v wr => ∃ (left : Lit → Bool) (cnt : Nat) (A : Option Addr) (c : Nat) (zs : List Int), wr.ranges Tryz.prog 3 (plainElem Tryz.prog 9) b w.heap.size n D left cnt ∧ zs.length + cnt ≤ Maps.size D ∧ v = .slice A zs.length c ∧
      Hid (owE 3 1 iCells w.heap.size wr (.slice A zs.length c) zs) ∧ Hid (metI D left zs) ∧ Hid (Below w.heap.size w wr) ∧ w.heap.size ≤ wr.heap.size)
    (fun _ wr => wr.rangeLeft b w.heap.size)
  case atStart => exact ⟨_, _, none, 0, [], hrg0, by simp, rfl, Lib.hid (owE_none _ _ _ _ _), Lib.hid (metI.start D), HB0, hz0⟩
  case round =>
    obtain ⟨left, cnt, A, c, zs, hrg, hcs, rfl, HR, HM, HB, hz⟩ := hrel
    go_wp2_with (at_next; refine wpList_next_ranges_is _ rfl _ rfl 3 9 .i64 lawI Tryz.underlying3 Tryz.underlying9 b w.heap.size n _ _ _ rfl hrg ?_ ?_)
    · intro hc0 hl0
      have hzs : Hid (zs.Nodup ∧ ∀ x, x ∈ zs ↔ fldHas L x = true) := Lib.hid ⟨HM.out.1, fun x => by rw [HM.out.2 x, HD.out.has_ x]; simp [hl0]⟩
      have HS := Lib.hid (sorted_keys HL.out hzs.out.1 hzs.out.2)
      have hlen : zs.length = L.length := by
        have := congrArg List.length HS.out
        simpa using this
      clear hl0 hrg
      -- behind the sort: the slice holds the list's numbers
      have HC : Hid (Calls Tryz.prog 42 #[.slice A zs.length c] wr fun e w' => e = .returned (.tuple #[]) ∧ rd .i64 w'.heap.size w' (.slice A zs.length c) (L.map (·.1)) ∧ Below w.heap.size w w' ∧ w.heap.size ≤ w'.heap.size) := Lib.hid (by
        have hrow := HR.out.ints
        have hb0 := HB.out
        rcases hrow.2 with ⟨hnil, h0⟩ | ⟨g, cap, cur, hv, hbase, hb, h1, h2, h3, h4⟩
        · have hL0 : L.map (·.1) = [] := by rw [← HS.out, List.eq_nil_of_length_eq_zero h0, List.mergeSort_nil]
          rw [hnil]
          refine (Tryz.slices_Sort_int_none none 0 wr).mono ?_
          rintro e w' ⟨rfl, rfl⟩
          rw [hL0]
          exact ⟨rfl, (nums_none _ 0 _ _).rd, hb0, hz⟩
        · simp only [Value.slice.injEq] at hv
          obtain ⟨rfl, -, rfl⟩ := hv
          have hH : Go.Sort.Holds (Value.int .i64) wr g 0 zs.toArray := holds_of_blockI hb (by simpa using h4)
          refine (Tryz.slices_Sort_int g 0 c zs wr hH (Array.getElem?_eq_some_iff.1 hb).1 (by omega)).mono ?_
          rintro e w' ⟨rfl, nn, os, rfl⟩
          have hs := ownsRow_sortedI (n := nn) (os := os) (ts := zs.mergeSort (fun x y => decide (x ≤ y))) (ss := zs) (List.length_mergeSort zs) hbase hb h1 h2 h3
          rw [HS.out] at hs ⊢
          have hb' := hb0.grown (grownBy_sortedI (w := wr) (g := g) (n := nn) (os := os) (L.map (·.1)).toArray) hz (fun j hj => by cases hj; exact hbase)
          exact ⟨rfl, (ow_of_row hs (by rw [List.length_map, hlen])).nums.rd, hb', hb'.size⟩)
      have HLEN := Lib.hid hlen
      clear hlen
      go_wp2_with fail
      refine HC.out.mono ?_
      rintro e w2 ⟨rfl, hrd, hb2, hz2⟩
      have HRD := Lib.hid hrd
      have HB2 := Lib.hid hb2
      have HO2 : Hid (mapAt w2 b n D) := Lib.hid (ownsMap_below HO.out hb2 hbl)
      clear hrd hb2 HC
      rw [HLEN.out] at HRD ⊢
      clear hzs HM HR hcs HLEN HS
      go_wp2
      go_loopw [5, 22] (fun lv iv wr => ∃ (i : Nat) (A4 : Option Addr) (c4 : Nat) (M : List FieldD), i ≤ L.length ∧ iv = .int .i64 i ∧ lv = .slice A4 M.length c4 ∧ M.length ≤ i ∧ Hid (M = L.take i) ∧ Hid (owE 45 2 fCells w2.heap.size wr (.slice A4 M.length c4) M) ∧ Hid (Below w2.heap.size w2 wr) ∧ w2.heap.size ≤ wr.heap.size) (fun _ iv _ => L.length - (intOf iv).toNat)
      case atStart => exact ⟨0, none, 0, [], Nat.zero_le _, rfl, rfl, Nat.le_refl _, Lib.hid rfl, Lib.hid (owE_none _ _ _ _ _), Lib.hid (Below.refl _ _), Nat.le_refl _⟩
      case round =>
        obtain ⟨i, A4, c4, M, hi', rfl, rfl, hMl, HM, HW, HB3, hz3⟩ := hrel
        by_cases hin : i < L.length
        · obtain ⟨x, hx⟩ : ∃ x, L[i]? = some x := ⟨_, List.getElem?_eq_getElem hin⟩
          have hxk : (L.map (·.1))[i]? = some x.1 := by rw [List.getElem?_map, hx]; rfl
          obtain ⟨p, off, hA, hp, d0⟩ := HRD.out.at (n := L.length) (by simpa using hxk)
          subst hA
          have d0 := (HB3.out.cell (p := ⟨p, off + i, none⟩) hp).trans d0
          have hmem := List.mem_of_getElem? hx
          have HX := Lib.hid (take_next hx)
          have HKX := Lib.hid (HK.out x hmem)
          have HAT := Lib.hid (HD.out.at_ x hmem)
          have HO3 : Hid (mapAt wr b n D) := Lib.hid (ownsMap_below HO2.out HB3.out (by omega))
          have g1 : (i : Int) < (L.length : Int) := by omega
          have g2 : 0 ≤ (i : Int) := by omega
          clear hx hxk hmem
          go_wp2_with (first
            | (at_lookup; refine look_text _ rfl _ _ 47 rfl 3 9 lawI Tryz.underlying47 Tryz.underlying9 (zeroS _) b n D rfl HO3.out _ _ rfl (Maps.keyOf_int_mk Tryz.underlying3 HKX.out) x.2 HAT.out ?_)
            | (at_builtin; refine app_elem fCells 2 (fun _ => rfl) (by decide) fCells_one 26 45 #[.int .i64 0, .string ⟨#[]⟩] 24 Tryz.underlying26 infoField rfl _ _ rfl (by rfl) w2.heap.size _ _ M x _ _ (by rfl) (by rfl) (by rfl) (by simp) HW.out (by unfold maxLen; omega) (by omega) (by first | omega | (simp; omega)) ?_))
          intro A5 c5 w5 hown5 hc5 hg5 _
          have hs5 : wr.heap.size + 1 ≤ w5.heap.size := by have := hg5.size; simpa using this
          have HB5 : Hid (Below w2.heap.size w2 w5) := Lib.hid ((HB3.out.alloc hz3 _).grown hg5 (by simp; omega) (fun g hg => (HW.out.lt g hg).1))
          have HO5 := Lib.hid hown5
          clear hown5 hg5
          go_wp2
          go_roundw
          case rel => exact ⟨i + 1, A5, c5, M ++ [x], by omega, by go_num, by rw [List.length_append]; rfl, by simp; omega, Lib.hid (by rw [HX.out, ← HM.out]), Lib.hid (by rw [List.length_append]; exact HO5.out), HB5, by omega⟩
          case measure => simp [intOf] <;> omega
        · obtain rfl : i = L.length := by omega
          have HLL : Hid (M = L) := Lib.hid (by have := HM.out; rwa [List.take_length] at this)
          go_wp2
          go_ret
          refine ⟨_, rfl, ?_, HB2.out.trans (HB3.out.mono hz2)⟩
          have hq := mine_own HW.out (Nat.le_refl _)
          rw [HLL.out] at hq ⊢
          exact hq.mono hz2 (Nat.le_refl _)
    · intro x s w2 cnt2 hwx hwc hlx hat hrg2 hlt hg2 hs2 hen
      have HRW2 : Hid (owE 3 1 iCells w.heap.size w2 (.slice A zs.length c) zs) := Lib.hid (HR.out.grown hg2 (fun g hg e => row_iter HR.out hrg (by rw [hg]; exact e)))
      have hz2 : wr.heap.size ≤ w2.heap.size := hg2.size
      have HB2 : Hid (Below w.heap.size w w2) := Lib.hid (HB.out.grown hg2 hz (fun j hj => by cases hj; exact Nat.le_refl _))
      have HM2 := Lib.hid (HM.out.step hlx hat)
      have hd := hrg.left_eq
      clear hs2 hat hlx hg2
      go_wp2_with (at_builtin; refine app_elem iCells 1 (fun _ => rfl) (by decide) iCells_one 39 3 #[.int .i64 0] 8 Tryz.underlying39 infoInt rfl _ _ rfl (by rfl) w.heap.size _ _ zs x _ _ (by rfl) (by rfl) (by rfl) (by simp) HRW2.out (by unfold maxLen; omega) (by omega) (by first | omega | (simp; omega)) ?_)
      intro A3 c3 w3 hown3 hc3 hg3 _
      have hz3 : w2.heap.size + 1 ≤ w3.heap.size := by have := hg3.size; simpa using this
      have hrg3 := (hrg2.alloc _).kept hg3 (fun e => by have := (HRW2.out.lt b e.symm).1; omega) (row_iter HRW2.out hrg2)
      have HB3 : Hid (Below w.heap.size w w3) := Lib.hid ((HB2.out.alloc (by omega) _).grown hg3 (by simp; omega) (fun g hg => (HRW2.out.lt g hg).1))
      have HO3 := Lib.hid hown3
      clear hown3 hg3
      go_wp2
      go_roundw
      case rel => exact ⟨_, cnt2, A3, c3, zs ++ [x], hrg3, by simp; omega, by rw [List.length_append]; rfl, Lib.hid (by rw [List.length_append]; exact HO3.out), HM2, HB3, by omega⟩
      case measure => rw [hrg3.left_eq, hd]; exact hlt
end Go.Proofs.YtdjlhijaadombaaGreatDoor
/- WithField of the program; no conditions on the message but its size. -/
set_option linter.unusedVariables false
namespace Go.Proofs.YtdjlhijaadombaaGreatDoor
open Go.ChangeShapes Go.WideShapes Go.ChangeAt Go.RowKit
open Go.Maps (Keyed IsMap)

set_option maxRecDepth 100000 in
theorem ba_len (no : Int) (l : List FieldD) : (below no l).length + (above no l).length ≤ l.length := by
  induction l with
  | nil => simp [below, above]
  | cons x l ih =>
    unfold below above at ih ⊢
    rw [List.filter_cons, List.filter_cons]
    by_cases h1 : x.1 < no
    · have h2 : ¬ no < x.1 := by omega
      simp only [h1, h2, decide_true, decide_false, if_true, Bool.false_eq_true, if_false, List.length_cons]; omega
    · by_cases h2 : no < x.1
      · simp only [h1, h2, decide_true, decide_false, if_true, Bool.false_eq_true, if_false, List.length_cons]; omega
      · simp only [h1, h2, decide_false, Bool.false_eq_true, if_false, List.length_cons]; omega
set_option maxRecDepth 100000 in
theorem withMsg_len (m : MsgD) (no : Int) (s : ByteArray) : (withMsg m no s).2.length ≤ m.2.length + 1 := by
  unfold withMsg
  split
  · next h =>
    unfold withOk at h
    rw [Bool.and_eq_true] at h
    have hm := h.1
    unfold msgOk at hm
    rw [Bool.and_eq_true] at hm
    obtain ⟨-, hp⟩ := listOk_all hm.2
    have := ba_len no m.2
    show (withF no s m.2).length ≤ _
    rw [withF_asc hp, List.length_append, List.length_cons]
    omega
  · simp
set_option maxRecDepth 100000 in
theorem asc_new {l : List FieldD} (h : asc l) {i : Nat} {x : FieldD} (hx : l[i]? = some x) : ∀ y ∈ l.take i, y.1 ≠ x.1 := by
  obtain ⟨hi, rfl⟩ := List.getElem?_eq_some_iff.1 hx
  intro y hy
  obtain ⟨j, hj, rfl⟩ := List.mem_iff_getElem.1 hy
  rw [List.length_take] at hj
  rw [List.getElem_take]
  have := List.pairwise_iff_getElem.1 h j i (by omega) hi (by omega)
  omega
end Go.Proofs.YtdjlhijaadombaaGreatDoor
/- Reply of the program; the table of the codes' texts lies as Go's text lays it. -/
set_option linter.unusedVariables false
namespace Go.Proofs.YtdjlhijaadombaaGreatDoor
open Go.ChangeShapes Go.WideShapes Go.ChangeAt Go.RowKit
open Go.Maps (Keyed IsMap)

set_option maxRecDepth 100000 in
set_option maxHeartbeats 8000000 in
theorem implReply_any (hi : Nat) (v : Value) (m : MsgD) (code : Int) (hold told : ByteArray) (w : World) (hm : m.1.size ≤ maxLen) (hn : m.2.length ≤ 1048576) (hs : ∀ x ∈ m.2, x.2.size ≤ maxLen) (hh : hold.size ≤ 1048576) (ht : told.size ≤ maxLen) (h : FieldsR.rd hi w [v] m.2) (hhi : hi ≤ w.heap.size) (hC : codesIn w) :
    Calls Tryz.prog 7 #[.agg #[.string m.1, v], .int .i64 code, .string hold, .string told] w (msgRes (replyRes m code hold told).2 (replyRes m code hold told).1 w) := by
  obtain ⟨A, c, rfl, hc, h'⟩ := fields_rd h
  have HR := Lib.hid h'
  have HS := Lib.hid hs
  have HOK := Lib.hid (fun (W : World) (hW : Below w.heap.size w W) => implMsgOk_any hi (.slice A m.2.length c) m W hm hn hs (Rep.below (R := FieldsR) h hW hhi) (Nat.le_trans hhi hW.size))
  have HRM := Lib.hid (fun W => implReplyMti_any m.1 W hm)
  have HRT := Lib.hid (fun W (hW : Below w.heap.size w W) => implRsText_any code W (hC.below hW))
  have HFT := Lib.hid (fun W => implFieldFit_any 38 hold W hh)
  have hfz := fitRes_size 38 hold hh
  have hrz := rsText_size code
  have hmz := replyMti_size m.1
  have HFS := Lib.hid (rpF_size (code := code) hs hh ht)
  clear h h' hs hC
  have HB0 : Hid (∀ o1 o2, Below w.heap.size w ((w.alloc o1).alloc o2)) := Lib.hid fun o1 o2 => ((Below.refl _ _).alloc (Nat.le_refl _) o1).alloc (by simp) o2
  cases hok : msgOk m
  · have HM : Hid (replyRes m code hold told = ((⟨#[]⟩, []), false)) := Lib.hid (by unfold replyRes; rw [if_neg]; rintro ⟨⟨g, -⟩, -⟩; rw [hok] at g; cases g)
    rw [HM.out]
    rw [hok] at HOK
    clear hok hrz hmz hfz
    go_enter Tryz.func7, Tryz.ntmps7
    go_wp2_with fail
    refine (HOK.out _ (HB0.out _ _)).mono ?_
    rintro e w1 ⟨rfl, hb⟩
    obtain ⟨hcc, hff⟩ := bcell hb
    have hz : w.heap.size + 1 + 1 ≤ w1.heap.size := by have := hb.size; simpa using this
    have HB : Hid (Below w.heap.size w w1) := Lib.hid ((HB0.out _ _).trans (hb.mono (by simp; omega)))
    clear hb
    go_wp2
    refine bodyPost_ret (v := .tuple #[.agg #[.string ⟨#[]⟩, .slice none 0 0], .bool false]) (by simp [results, Tryz.results7, go_sem, hcc]) rfl ⟨_, rfl, mine_none _ _ _, ?_⟩
    exact (HB.out.setCell (p := ⟨_, _, none⟩) (show _ ≤ w.heap.size + 1 by omega) _).setCell (p := ⟨_, _, none⟩) (show _ ≤ w.heap.size + 1 by omega) _
  have HRES := Lib.hid (reply_res hok code hold told)
  have hmo := hok
  unfold msgOk at hmo
  rw [Bool.and_eq_true] at hmo
  obtain ⟨hfall, hasc⟩ := listOk_all hmo.2
  have HASC : Hid (asc m.2) := Lib.hid hasc
  have HWF : Hid (∀ x ∈ m.2, (Lit.int .i64 x.1).wf = true) := Lib.hid fun x hx => by
    have := fOk_range (hfall x hx)
    exact WalkArith.wf_i64 (by omega)
  have HMEM := Lib.hid (putL_mem hasc code hold told)
  rw [hok] at HOK
  clear hok hmo hfall hasc
  have hmm := @run_makeMap Tryz.prog
  go_enter Tryz.func7, Tryz.ntmps7
  go_wp2_with fail
  refine (HOK.out _ (HB0.out _ _)).mono ?_
  rintro e w1 ⟨rfl, hb⟩
  have hz : w.heap.size + 1 + 1 ≤ w1.heap.size := by have := hb.size; simpa using this
  have HRC : Hid (∀ wr, Below (w.heap.size + 2) w1 wr → wr.cell? ⟨w.heap.size + 1, 0, none⟩ = some (.string ⟨#[]⟩) ∧ wr.cell? ⟨w.heap.size + 1, 1, none⟩ = some (.slice none 0 0) ∧ wr.frozen? ⟨w.heap.size + 1, 0, none⟩ = false ∧ wr.frozen? ⟨w.heap.size + 1, 1, none⟩ = false ∧ wr.cell? ⟨w.heap.size, 0, none⟩ = some (.string m.1) ∧ wr.cell? ⟨w.heap.size, 1, none⟩ = some (.slice A m.2.length c)) := Lib.hid fun wr hw =>
    ⟨(hw.cell (p := ⟨_, 0, none⟩) (show w.heap.size + 1 < _ by omega)).trans ((hb.cell (p := ⟨w.heap.size + 1, 0, none⟩) (by simp)).trans (by simp)), (hw.cell (p := ⟨_, 1, none⟩) (show w.heap.size + 1 < _ by omega)).trans ((hb.cell (p := ⟨w.heap.size + 1, 1, none⟩) (by simp)).trans (by simp)), (hw.frozen (p := ⟨_, 0, none⟩) (show w.heap.size + 1 < _ by omega)).trans ((hb.frozen (p := ⟨w.heap.size + 1, 0, none⟩) (by simp)).trans (by simp)), (hw.frozen (p := ⟨_, 1, none⟩) (show w.heap.size + 1 < _ by omega)).trans ((hb.frozen (p := ⟨w.heap.size + 1, 1, none⟩) (by simp)).trans (by simp)),
     (hw.cell (p := ⟨_, 0, none⟩) (show w.heap.size < _ by omega)).trans ((hb.cell (p := ⟨w.heap.size, 0, none⟩) (by simp; omega)).trans (by simp)), (hw.cell (p := ⟨_, 1, none⟩) (show w.heap.size < _ by omega)).trans ((hb.cell (p := ⟨w.heap.size, 1, none⟩) (by simp; omega)).trans (by simp))⟩
  have HB : Hid (Below w.heap.size w w1) := Lib.hid ((HB0.out _ _).trans (hb.mono (by simp; omega)))
  clear hb
  -- the map, its first pair
  have HM0 : Hid (mapAt (w1.alloc (.map #[] 0)) w1.heap.size 0 (.map [])) := Lib.hid (by simpa using World.ownsMap_made w1 Tryz.prog 3 (plainElem (H := Unit) Tryz.prog 9))
  have HB1 : Hid (Below (w.heap.size + 2) w1 (w1.alloc (.map #[] 0))) := Lib.hid ((Below.refl _ _).alloc (by omega) _)
  have z0 : w1.heap.size + 1 = (w1.alloc (.map #[] 0)).heap.size := by simp
  generalize hM : w1.heap.size = M at HM0 z0 hz ⊢
  generalize hW0 : w1.alloc (.map #[] 0) = W0 at HM0 HB1 z0 ⊢
  go_wp2_with fail
  refine (HRT.out W0 (HB.out.trans (HB1.out.mono (by omega)))).mono ?_
  rintro e w2 ⟨rfl, rfl⟩
  clear hmm
  go_wp2_with (refine wpList_insert_own W0 rfl _ _ _ 47 rfl 3 9 lawI Tryz.underlying47 _ M 0 (.map []) rfl HM0.out (by decide) _ _ _ rfl rfl (Maps.keyOf_int_mk Tryz.underlying3 (by decide)) _ [] (plainElem_string Tryz.underlying9 (by unfold maxLen; omega)) ?_)
  intro w3 hown3 hg3
  have z3 : W0.heap.size ≤ w3.heap.size := hg3.size
  have HB3 : Hid (Below (w.heap.size + 2) w1 w3) := Lib.hid (HB1.out.grown hg3 (by omega) (fun j hj => by cases hj; omega))
  have HM3 := Lib.hid hown3
  have HD3 : Hid (mapIs _ [(39, rsText code)]) := Lib.hid (mapIs.start.snoc (x := (39, rsText code)) (by simp))
  clear hown3 hg3 HM0 HB1
  obtain ⟨r0, r1, f0, f1, x0, x1⟩ := HRC.out w3 HB3.out
  go_wp2
  clear r0 r1 f0 f1 x0 x1
  go_loopw [24] (fun iv wr => ∃ (i n : Nat) (D : DataW Unit), i ≤ m.2.length ∧ iv = .int .i64 i ∧ n ≤ i + 1 ∧ Hid (mapAt wr M n D) ∧ Hid (mapIs D ([(39, rsText code)] ++ repL (m.2.take i))) ∧ Hid (Below (w.heap.size + 2) w1 wr) ∧ M + 1 ≤ wr.heap.size) (fun iv _ => m.2.length - (intOf iv).toNat)
  case atStart => exact ⟨0, 1, _, Nat.zero_le _, rfl, by omega, HM3, HD3, HB3, by omega⟩
  case round =>
    obtain ⟨i, n, D, hi', rfl, hni, HMr, HI, HBr, hzr⟩ := hrel
    by_cases hin : i < m.2.length
    · obtain ⟨x, hx⟩ : ∃ x, m.2[i]? = some x := ⟨_, List.getElem?_eq_getElem hin⟩
      obtain ⟨b, off, rfl, hbl, c0, c1⟩ := HR.out i x hx
      have hmem := List.mem_of_getElem? hx
      have HXS := Lib.hid (HS.out x hmem)
      have HXK := Lib.hid (HWF.out x hmem)
      have HX := Lib.hid (take_next hx)
      have hBw : Below w.heap.size w wr := HB.out.trans (HBr.out.mono (by omega))
      have c0 := (hBw.cell (p := ⟨b, off + i * 2, none⟩) (show b < w.heap.size by omega)).trans c0
      have c1 := (hBw.cell (p := ⟨b, off + i * 2 + 1, none⟩) (show b < w.heap.size by omega)).trans c1
      have g1 : (i : Int) < (m.2.length : Int) := by omega
      have g2 : 0 ≤ (i : Int) := by omega
      clear hBw
      cases hrp : isRep x.1
      · have HI2 : Hid (mapIs D ([(39, rsText code)] ++ repL (m.2.take (i + 1)))) := Lib.hid (by rw [HX.out, repL_no hrp]; exact HI.out)
        have HRP := Lib.hid hrp
        clear hx hmem hrp
        go_wp2_with fail
        refine (isRepeated_any x.1 _).mono ?_
        rw [HRP.out]
        rintro e w4 ⟨rfl, rfl⟩
        go_wp2
        go_roundw
        case rel => exact ⟨i + 1, n, D, by omega, by go_num, by omega, Lib.hid (HMr.out.alloc _), HI2, Lib.hid (HBr.out.alloc (by omega) _), by simp; omega⟩
        case measure => simp [intOf] <;> omega
      · have HI2 := Lib.hid (HI.out.snoc (putL_newx (code := code) HASC.out hx hrp))
        have HE : Hid ([(39, rsText code)] ++ repL (m.2.take i) ++ [x] = [(39, rsText code)] ++ repL (m.2.take (i + 1))) := Lib.hid (by rw [HX.out, repL_yes hrp, List.append_assoc])
        rw [HE.out] at HI2
        have HRP := Lib.hid hrp
        clear hx hmem hrp
        go_wp2_with fail
        refine (isRepeated_any x.1 _).mono ?_
        rw [HRP.out]
        rintro e w4 ⟨rfl, rfl⟩
        go_wp2_with (at_mapUpdate; refine wpList_mapUpdate_own _ rfl _ _ _ 47 rfl 3 9 lawI Tryz.underlying47 _ M n D rfl (HMr.out.alloc _) (by unfold maxLen; omega) _ _ _ rfl rfl (Maps.keyOf_int_mk Tryz.underlying3 HXK.out) _ [] (plainElem_string Tryz.underlying9 HXS.out) ?_)
        intro w5 hown5 hg5
        have hz5 : wr.heap.size + 1 ≤ w5.heap.size := by have := hg5.size; simpa using this
        have HB5 : Hid (Below (w.heap.size + 2) w1 w5) := Lib.hid ((HBr.out.alloc (by omega) _).grown hg5 (by simp; omega) (fun j hj => by cases hj; omega))
        have HO5 := Lib.hid hown5
        clear hown5 hg5
        go_wp2
        go_roundw
        case rel => exact ⟨i + 1, n + 1, _, by omega, by go_num, by omega, HO5, HI2, HB5, by omega⟩
        case measure => simp [intOf] <;> omega
    · obtain rfl : i = m.2.length := by omega
      have HI2 : Hid (mapIs D ([(39, rsText code)] ++ repL m.2)) := Lib.hid (by have := HI.out; rwa [List.take_length] at this)
      clear HI
      go_upto_region 10 with fail
      go_cut [42] (fun cv wx => cv = .bool (decide (code = 0 ∧ hold ≠ ⟨#[]⟩)) ∧ wx = wr)
      case first =>
        by_cases hc0 : code = 0
        · have hcb : (code == 0) = true := by simp [hc0]
          by_cases hne : hold = ⟨#[]⟩
          · have hE2 := empty_iff.1 hne
            have hE : hold.toList.isEmpty = true := by rw [hE2]; rfl
            have HD0 : Hid (decide (code = 0 ∧ hold ≠ ⟨#[]⟩) = false) := Lib.hid (decide_eq_false fun g => g.2 hne)
            clear hc0 hne
            go_wp2_with fail
            go_meet
            exact ⟨by rw [HD0.out], rfl⟩
          · have hE2 : ¬ hold.toList = [] := fun e => hne (empty_iff.2 e)
            have hE : hold.toList.isEmpty = false := isE_no hE2
            have HD0 : Hid (decide (code = 0 ∧ hold ≠ ⟨#[]⟩) = true) := Lib.hid (decide_eq_true ⟨hc0, hne⟩)
            clear hc0 hne
            go_wp2_with fail
            go_meet
            exact ⟨by rw [HD0.out], rfl⟩
        · have hcb : (code == 0) = false := by simp [hc0]
          have HD0 : Hid (decide (code = 0 ∧ hold ≠ ⟨#[]⟩) = false) := Lib.hid (decide_eq_false fun g => hc0 g.1)
          clear hc0
          go_wp2_with fail
          go_meet
          exact ⟨by rw [HD0.out], rfl⟩
      case rest =>
        obtain ⟨rfl, rfl⟩ := hcut
        go_upto_if 42 with fail
        go_cut [] (fun wx => ∃ (n' : Nat) (D' : DataW Unit), n' ≤ m.2.length + 2 ∧ Hid (mapAt wx M n' D') ∧ Hid (mapIs D' ([(39, rsText code)] ++ repL m.2 ++ holdL code hold)) ∧ Hid (Below (w.heap.size + 2) w1 wx) ∧ M + 1 ≤ wx.heap.size)
        case first =>
          cases hd : decide (code = 0 ∧ hold ≠ ⟨#[]⟩)
          · have HH : Hid (holdL code hold = []) := Lib.hid (if_neg (of_decide_eq_false hd))
            clear hd
            go_wp2_with fail
            go_meet
            exact ⟨n, D, by omega, HMr, Lib.hid (by rw [HH.out, List.append_nil]; exact HI2.out), HBr, hzr⟩
          · have HH : Hid (holdL code hold = [(38, fitRes 38 hold)]) := Lib.hid (if_pos (of_decide_eq_true hd))
            have HI3 := Lib.hid (HI2.out.snoc (x := (38, fitRes 38 hold)) putL_new38)
            clear hd
            go_wp2_with fail
            refine (HFT.out _).mono ?_
            rintro e w4 ⟨rfl, hb4⟩
            have z4 := hb4.size
            have HM4 := Lib.hid (ownsMap_below HMr.out hb4 (by omega))
            have HB4 : Hid (Below (w.heap.size + 2) w1 w4) := Lib.hid (HBr.out.trans (hb4.mono (by omega)))
            clear hb4
            generalize hft : fitRes 38 hold = ft at *
            go_wp2_with (at_mapUpdate; refine wpList_mapUpdate_own _ rfl _ _ _ 47 rfl 3 9 lawI Tryz.underlying47 _ M _ _ rfl HM4.out (by unfold maxLen; omega) _ _ _ rfl rfl (Maps.keyOf_int_mk Tryz.underlying3 (by decide)) _ [] (plainElem_string Tryz.underlying9 (by unfold maxLen; omega)) ?_)
            intro w5 hown5 hg5
            have hz5 := hg5.size
            have HB5 : Hid (Below (w.heap.size + 2) w1 w5) := Lib.hid (HB4.out.grown hg5 (by omega) (fun j hj => by cases hj; omega))
            have HO5 := Lib.hid hown5
            clear hown5 hg5
            go_wp2_with fail
            go_meet
            exact ⟨n + 1, _, by omega, HO5, Lib.hid (by rw [HH.out]; exact HI3.out), HB5, by omega⟩
        case rest =>
          obtain ⟨n2, D2, hn2, HM2, HI4, HB2, hz2⟩ := hcut
          clear HI2 HMr HBr
          go_upto_region 12 with fail
          go_cut [47] (fun cv wx => cv = .bool (decide (told ≠ ⟨#[]⟩)) ∧ wx = wc)
          case first =>
            by_cases hne : told = ⟨#[]⟩
            · have hE2 := empty_iff.1 hne
              have hE : told.toList.isEmpty = true := by rw [hE2]; rfl
              have HD0 : Hid (decide (told ≠ ⟨#[]⟩) = false) := Lib.hid (decide_eq_false fun g => g hne)
              clear hne
              go_wp2_with fail
              go_meet
              exact ⟨by rw [HD0.out], rfl⟩
            · have hE2 : ¬ told.toList = [] := fun e => hne (empty_iff.2 e)
              have hE : told.toList.isEmpty = false := isE_no hE2
              have HD0 : Hid (decide (told ≠ ⟨#[]⟩) = true) := Lib.hid (decide_eq_true hne)
              clear hne
              go_wp2_with fail
              go_meet
              exact ⟨by rw [HD0.out], rfl⟩
          case rest =>
            obtain ⟨rfl, rfl⟩ := hcut
            go_upto_if 47 with fail
            go_cut [] (fun wx => ∃ (n' : Nat) (D' : DataW Unit), n' ≤ m.2.length + 3 ∧ Hid (mapAt wx M n' D') ∧ Hid (mapIs D' (putL m code hold told)) ∧ Hid (Below (w.heap.size + 2) w1 wx) ∧ M + 1 ≤ wx.heap.size)
            case first =>
              cases hd : decide (told ≠ ⟨#[]⟩)
              · have HH : Hid (putL m code hold told = [(39, rsText code)] ++ repL m.2 ++ holdL code hold) := Lib.hid (by unfold putL toldL; rw [if_neg (of_decide_eq_false hd), List.append_nil])
                clear hd
                go_wp2_with fail
                go_meet
                exact ⟨n2, D2, by omega, HM2, Lib.hid (by rw [HH.out]; exact HI4.out), HB2, hz2⟩
              · have HH : Hid (putL m code hold told = [(39, rsText code)] ++ repL m.2 ++ holdL code hold ++ [(54, told)]) := Lib.hid (by unfold putL toldL; rw [if_pos (of_decide_eq_true hd)])
                have HI5 := Lib.hid (HI4.out.snoc (x := (54, told)) putL_new54)
                clear hd
                go_wp2_with (at_mapUpdate; refine wpList_mapUpdate_own _ rfl _ _ _ 47 rfl 3 9 lawI Tryz.underlying47 _ M _ _ rfl HM2.out (by unfold maxLen; omega) _ _ _ rfl rfl (Maps.keyOf_int_mk Tryz.underlying3 (by decide)) _ [] (plainElem_string Tryz.underlying9 ht) ?_)
                intro w5 hown5 hg5
                have hz5 := hg5.size
                have HB5 : Hid (Below (w.heap.size + 2) w1 w5) := Lib.hid (HB2.out.grown hg5 (by omega) (fun j hj => by cases hj; omega))
                have HO5 := Lib.hid hown5
                clear hown5 hg5
                go_wp2_with fail
                go_meet
                exact ⟨n2 + 1, _, by omega, HO5, Lib.hid (by rw [HH.out]; exact HI5.out), HB5, by omega⟩
            case rest =>
              clear HM2 HI4 HB2 hz2 hn2
              obtain ⟨n3, D3, hn3, HM3', HI6, HB6, hz6⟩ := hcut
              obtain ⟨r0, r1, f0, f1, x0, x1⟩ := HRC.out _ HB6.out
              go_wp2_with fail
              refine (HRM.out _).mono ?_
              rintro e w6 ⟨rfl, hb6⟩
              have z6 := hb6.size
              have HM6 := Lib.hid (ownsMap_below HM3'.out hb6 (by omega))
              have HB7 : Hid (Below (w.heap.size + 2) w1 w6) := Lib.hid (HB6.out.trans (hb6.mono (by omega)))
              clear hb6 HM3' r0 r1 f0 f1 x0 x1
              have HFO : Hid (∀ W, W.heap = w6.heap → Calls Tryz.prog 25 #[.map (some M)] W fun e w' => ∃ u, e = .returned u ∧ FieldsR.mine W.heap.size w'.heap.size w' [u] (rpL (rpF m code hold told) rpNos) ∧ Below W.heap.size W w') := Lib.hid fun W hW =>
                implFieldsOf_any M _ _ _ W (by obtain ⟨es, cl, h1, rest⟩ := HM6.out; exact ⟨es, cl, by rw [hW]; exact h1, rest⟩) (HI6.out.same HMEM.out) (rp_asc _) (by omega) (Nat.le_trans (rpL_len _ _) (by decide)) (fun x hx => (by decide : ∀ no ∈ rpNos, (Lit.int .i64 no).wf = true) x.1 (rpL_mem.1 hx).1)
              have hl13 : (rpL (rpF m code hold told) rpNos).length ≤ 13 := rpL_len _ _
              have HSZ : Hid (∀ x ∈ rpL (rpF m code hold told) rpNos, x.2.size ≤ maxLen) := Lib.hid fun x hx => by
                have h1 := HFS.out x.1
                rw [(rpL_mem.1 hx).2] at h1
                exact h1
              generalize rpL (rpF m code hold told) rpNos = L at HFO HRES HMEM hl13 HSZ
              generalize replyMti m.1 = tm at HRES HRM hmz ⊢
              go_wp2_with fail
              refine (HFO.out _ rfl).mono ?_
              rintro e w7 ⟨u7, rfl, hu7, hb7⟩
              obtain ⟨A7, c7, rfl, -⟩ := Rep.slice_form hu7.rd
              have z7 := hb7.size
              have HB8 : Hid (Below (w.heap.size + 2) w1 w7) := Lib.hid (HB7.out.trans (hb7.mono (by omega)))
              have HU7 := Lib.hid hu7
              clear hb7 hu7
              go_wp2_with fail
              cases hv : msgOk (tm, L)
              · have HRS : Hid (replyRes m code hold told = ((⟨#[]⟩, []), false)) := Lib.hid (by rw [HRES.out, if_neg (by rw [hv]; decide)])
                refine (show Calls Tryz.prog 23 #[.agg #[.string tm, .slice A7 L.length c7]] w7 (fun e w' => e = .returned (.tuple #[.agg #[.string ⟨#[]⟩, .slice none 0 0], .bool false]) ∧ Below w7.heap.size w7 w') from by
                  have hq := onlyValid_any w7.heap.size (.slice A7 L.length c7) (tm, L) w7 (show tm.size ≤ _ by unfold maxLen; omega) (show L.length ≤ _ by omega) HSZ.out HU7.out.rd (Nat.le_refl _)
                  rw [hv] at hq
                  exact hq).mono ?_
                rintro e w8 ⟨rfl, hb8⟩
                have z8 := hb8.size
                have HU8 := Lib.hid (HU7.out.below hb8 (Nat.le_refl _))
                have HB9 : Hid (Below (w.heap.size + 2) w1 w8) := Lib.hid (HB8.out.trans (hb8.mono (by omega)))
                clear hb8
                obtain ⟨r0, r1, f0, f1, -, -⟩ := HRC.out w8 HB9.out
                have HB10 : Hid (Below w.heap.size w w8) := Lib.hid (HB.out.trans (HB9.out.mono (by omega)))
                go_wp2
                refine bodyPost_ret (v := .tuple #[.agg #[.string ⟨#[]⟩, .slice none 0 0], .bool false]) (by simp [results, Tryz.results7, go_sem, r0, r1]) rfl ?_
                rw [HRS.out]
                refine ⟨_, rfl, mine_none _ _ _, ?_⟩
                exact (HB10.out.setCell (p := ⟨_, _, none⟩) (show _ ≤ w.heap.size + 1 by omega) _).setCell (p := ⟨_, _, none⟩) (show _ ≤ w.heap.size + 1 by omega) _
              · have HRS : Hid (replyRes m code hold told = ((tm, L), true)) := Lib.hid (by rw [HRES.out, if_pos hv])
                refine (show Calls Tryz.prog 23 #[.agg #[.string tm, .slice A7 L.length c7]] w7 (fun e w' => e = .returned (.tuple #[.agg #[.string tm, .slice A7 L.length c7], .bool true]) ∧ Below w7.heap.size w7 w') from by
                  have hq := onlyValid_any w7.heap.size (.slice A7 L.length c7) (tm, L) w7 (show tm.size ≤ _ by unfold maxLen; omega) (show L.length ≤ _ by omega) HSZ.out HU7.out.rd (Nat.le_refl _)
                  rw [hv] at hq
                  exact hq).mono ?_
                rintro e w8 ⟨rfl, hb8⟩
                have z8 := hb8.size
                have HU8 := Lib.hid (HU7.out.below hb8 (Nat.le_refl _))
                have HB9 : Hid (Below (w.heap.size + 2) w1 w8) := Lib.hid (HB8.out.trans (hb8.mono (by omega)))
                clear hb8
                obtain ⟨r0, r1, f0, f1, -, -⟩ := HRC.out w8 HB9.out
                have HB10 : Hid (Below w.heap.size w w8) := Lib.hid (HB.out.trans (HB9.out.mono (by omega)))
                go_wp2
                refine bodyPost_ret (v := .tuple #[.agg #[.string tm, .slice A7 L.length c7], .bool true]) (by simp [results, Tryz.results7, go_sem, r0, r1]) rfl ?_
                rw [HRS.out]
                refine ⟨_, rfl, ?_⟩
                exact ret_mine (w0 := w) (r := w.heap.size + 1) (HU8.out.mono (Nat.le_refl _) z8) (by omega) (by omega) (by omega) HB10.out (.string tm) (.slice A7 L.length c7)
end Go.Proofs.YtdjlhijaadombaaGreatDoor
/- The law package's helpers on slices of strings: compare, mark, held; no conditions. -/
set_option linter.unusedVariables false
namespace Go.Proofs.YtdjlhijaadombaaGreatDoor
open Go.ChangeShapes Go.WideShapes Go.ChangeAt Go.RowKit

/-- block b holds the strings of a list -/
def strRow (w : World) (b : Nat) (l : List (List UInt8)) : Prop := ∀ (j : Nat) (x : List UInt8), l[j]? = some x → w.cell? ⟨b, j, none⟩ = some (.string ⟨x.toArray⟩)
/-- .. and may be written -/
def strFree (w : World) (b n : Nat) : Prop := ∀ j : Nat, j < n → w.frozen? ⟨b, j, none⟩ = false
set_option maxRecDepth 100000 in
theorem strRow.below {w w' : World} {b B : Nat} {l : List (List UInt8)} (h : strRow w b l) (hb : Below B w w') (hlt : b < B) : strRow w' b l := fun j x hx => (hb.cell (p := ⟨b, j, none⟩) hlt).trans (h j x hx)
set_option maxRecDepth 100000 in
theorem strFree.below {w w' : World} {b B n : Nat} (h : strFree w b n) (hb : Below B w w') (hlt : b < B) : strFree w' b n := fun j hj => (hb.frozen (p := ⟨b, j, none⟩) hlt).trans (h j hj)

/-- the text of a mark -/
def markOf (k : Int) : List UInt8 := 109 :: Lib.decDigits k.toNat
set_option maxRecDepth 100000 in
theorem str_appS (a b : List UInt8) : ((⟨a.toArray⟩ : ByteArray) ++ (⟨b.toArray⟩ : ByteArray)) = ⟨(a ++ b).toArray⟩ := by apply ByteArray.ext; simp
set_option maxRecDepth 100000 in
theorem str_consS (c : UInt8) (b : List UInt8) : ((⟨#[c]⟩ : ByteArray) ++ (⟨b.toArray⟩ : ByteArray)) = ⟨(c :: b).toArray⟩ := str_appS [c] b
/-- the digits still to come -/
def restOf (k : Int) : List UInt8 := if k ≤ 0 then [] else Lib.decDigits k.toNat
set_option maxRecDepth 100000 in
theorem rest_all {k : Int} (h : 0 < k) : restOf k = Lib.decDigits k.toNat := by unfold restOf; rw [if_neg (by omega)]
set_option maxRecDepth 100000 in
theorem rest_none {k : Int} (h : k ≤ 0) : restOf k = [] := by unfold restOf; rw [if_pos h]
set_option maxRecDepth 100000 in
theorem rest_step {k : Int} (h : 0 < k) (t : List UInt8) : restOf (k / 10) ++ (UInt8.ofNat (48 + k % 10).toNat :: t) = restOf k ++ t := by
  rw [rest_all h]
  by_cases h1 : k < 10
  · rw [rest_none (k := k / 10) (by omega), Lib.decDigits_one (i := k.toNat) (by omega), show (48 + k % 10).toNat = 48 + k.toNat by omega]; rfl
  · rw [rest_all (k := k / 10) (by omega)]
    conv => rhs; rw [Lib.decDigits, dif_neg (show ¬ k.toNat < 10 by omega)]
    rw [show (k / 10).toNat = k.toNat / 10 by omega, show (48 + k % 10).toNat = 48 + k.toNat % 10 by omega]
    simp
set_option maxRecDepth 100000 in
theorem rest_len {k : Int} {t l : List UInt8} (h : restOf k ++ t = l) : t.length ≤ l.length := by rw [← h, List.length_append]; omega
set_option maxRecDepth 100000 in
theorem mark_len (k : Int) (h : k ≤ 1000000000) : (Lib.decDigits k.toNat).length ≤ 20 := by rw [Lib.decDigits_length]; exact Lib.nDigits_le20 _ (by omega)
set_option maxRecDepth 100000 in
set_option maxHeartbeats 800000 in
theorem markText_any (k : Int) (w : World) (h0 : 0 < k) (h1 : k ≤ 1000000000) :
    Calls Tryz.prog 44 #[.int .i64 k] w fun e w' => e = .returned (.string ⟨(markOf k).toArray⟩) ∧ Below w.heap.size w w' := by
  have hcv := fun (W : World) (c : Int) (T : TypeId) => conv_one W c T
  go_enter Tryz.func44, Tryz.ntmps44
  go_wp2
  go_loopw [3, 0] (fun tv kv wr => ∃ (m : Int) (t : List UInt8), kv = .int .i64 m ∧ tv = .string ⟨t.toArray⟩ ∧ restOf m ++ t = Lib.decDigits k.toNat ∧ 0 ≤ m ∧ m ≤ 1000000000 ∧ Below w.heap.size w wr) (fun _ kv _ => (intOf kv).toNat)
  case atStart => exact ⟨k, [], rfl, rfl, by simp [rest_all h0], by omega, h1, Below.refl _ _⟩
  case round =>
    obtain ⟨m, t, rfl, rfl, hd, hm0, hm1, hb⟩ := hrel
    have hl := rest_len hd
    have hl2 := mark_len k h1
    have hl3 : t.length ≤ 20 := by omega
    have HD := Lib.hid hd
    clear hd hl hl2
    by_cases hpos : 0 < m
    · have hst := Lib.hid (rest_step hpos t)
      go_wp2
      go_roundw
      case rel => exact ⟨m / 10, _, rfl, congrArg Value.string (str_consS _ _), hst.out.trans HD.out, by omega, by omega, hb.alloc hb.size _⟩
      case measure => simp [intOf] <;> omega
    · have hst := Lib.hid (rest_none (k := m) (by omega))
      go_wp2
      go_ret
      refine ⟨congrArg (fun b => Ending.returned (Value.string b)) ((str_consS _ _).trans ?_), hb⟩
      have := HD.out
      rw [hst.out] at this
      unfold markOf
      rw [← this]; rfl

/-- what the law package writes into a slice of strings: the marks from k on -/
def marksOf (k : Int) : Nat → List (List UInt8)
  | 0 => []
  | n + 1 => markOf k :: marksOf (k + 1) n
set_option maxRecDepth 100000 in
theorem marks_get (n : Nat) : ∀ (k : Int) (j : Nat), j < n → (marksOf k n)[j]? = some (markOf (k + j)) := by
  induction n with
  | zero => intro k j h; omega
  | succ n ih =>
    intro k j h
    cases j with
    | zero => simp [marksOf]
    | succ j =>
      simp only [marksOf, List.getElem?_cons_succ]
      rw [ih (k + 1) j (by omega)]
      congr 2
      omega

/-- of what was there block b alone may have turned -/
structure wrote (b : Nat) (w w' : World) : Prop where
  os : w'.os = w.os
  tape : w'.tape = w.tape
  output : w'.output = w.output
  size : w.heap.size ≤ w'.heap.size
  block : ∀ k, k < w.heap.size → k ≠ b → w'.heap[k]? = w.heap[k]?
set_option maxRecDepth 100000 in
theorem wrote.refl (b : Nat) (w : World) : wrote b w w := ⟨rfl, rfl, rfl, Nat.le_refl _, fun _ _ _ => rfl⟩
set_option maxRecDepth 100000 in
theorem wrote.then {b : Nat} {u v w : World} (h : wrote b u v) (g : Below v.heap.size v w) : wrote b u w :=
  ⟨g.os.trans h.os, g.tape.trans h.tape, g.output.trans h.output, Nat.le_trans h.size g.size, fun k hk hne => (g.block k (Nat.lt_of_lt_of_le hk h.size)).trans (h.block k hk hne)⟩
set_option maxRecDepth 100000 in
theorem wrote.set {b : Nat} {u v : World} (h : wrote b u v) (o : Nat) (x : Value) : wrote b u (v.setCell ⟨b, o, none⟩ x) :=
  ⟨h.os, h.tape, h.output, by simpa [World.setCell] using h.size, fun k hk hne => (Below.heap_setCell _ _ _ _ hne).trans (h.block k hk hne)⟩
set_option maxRecDepth 100000 in
theorem wrote.below {b B : Nat} {u v : World} (h : wrote b u v) (hB : B ≤ b) (hs : B ≤ u.heap.size) : Below B u v := ⟨h.os, h.tape, h.output, h.size, fun k hk => h.block k (by omega) (by omega)⟩
set_option maxRecDepth 100000 in
theorem wrote.row {b c : Nat} {u v : World} {l : List (List UInt8)} (h : wrote b u v) (hc : c < u.heap.size) (hne : c ≠ b) (hr : strRow u c l) : strRow v c l := fun j x hx =>
  (World.cell?_of_block (h.block c hc hne)).trans (hr j x hx)

/-- the first i places hold marks, all places can be written -/
def marked (w : World) (b : Nat) (k : Int) (i n : Nat) : Prop := ∀ j : Nat, j < n → w.frozen? ⟨b, j, none⟩ = false ∧ (∃ v, w.cell? ⟨b, j, none⟩ = some v) ∧ (j < i → w.cell? ⟨b, j, none⟩ = some (.string ⟨(markOf (k + j)).toArray⟩))
set_option maxRecDepth 100000 in
theorem marked.below {w w' : World} {b : Nat} {k : Int} {i n : Nat} (h : marked w b k i n) (hb : Below w.heap.size w w') (hlt : b < w.heap.size) : marked w' b k i n := fun j hj =>
  ⟨(hb.frozen (p := ⟨b, j, none⟩) hlt).trans (h j hj).1, by obtain ⟨v, hv⟩ := (h j hj).2.1; exact ⟨v, (hb.cell (p := ⟨b, j, none⟩) hlt).trans hv⟩, fun hi => (hb.cell (p := ⟨b, j, none⟩) hlt).trans ((h j hj).2.2 hi)⟩
set_option maxRecDepth 100000 in
theorem marked.set {w : World} {b : Nat} {k : Int} {i n : Nat} (h : marked w b k i n) (hi : i < n) : marked (w.setCell ⟨b, i, none⟩ (.string ⟨(markOf (k + i)).toArray⟩)) b k (i + 1) n := by
  intro j hj
  have hf : ∀ a, (w.setCell ⟨b, i, none⟩ (.string ⟨(markOf (k + i)).toArray⟩)).frozen? a = w.frozen? a := fun a => by simp
  refine ⟨(hf _).trans (h j hj).1, ?_⟩
  by_cases e : i = j
  · subst e
    obtain ⟨v, hv⟩ := (h i hj).2.1
    have := World.cell?_setCell_same w ⟨b, i, none⟩ (.string ⟨(markOf (k + i)).toArray⟩) hv
    exact ⟨⟨_, this⟩, fun _ => this⟩
  · have hne : ∀ x, (w.setCell ⟨b, i, none⟩ x).cell? ⟨b, j, none⟩ = w.cell? ⟨b, j, none⟩ := fun x => World.cell?_setCell_other _ _ _ _ (fun he => e (by simpa using congrArg Addr.off he))
    obtain ⟨v, hv⟩ := (h j hj).2.1
    exact ⟨⟨v, (hne _).trans hv⟩, fun hlt => (hne _).trans ((h j hj).2.2 (by omega))⟩

end Go.Proofs.YtdjlhijaadombaaGreatDoor
/- Fields and messages: what the law package's marks and looks at the marks do; no conditions. -/
set_option linter.unusedVariables false
namespace Go.Proofs.YtdjlhijaadombaaGreatDoor
open Go.ChangeShapes Go.WideShapes Go.ChangeAt Go.RowKit

def fieldMark (k : Int) (j : Nat) : FieldD := (k + 2 * (j : Int), ⟨(markOf (k + 2 * (j : Int) + 1)).toArray⟩)
def fieldsMark (k : Int) (n : Nat) : List FieldD := (List.range n).map (fieldMark k)
set_option maxRecDepth 100000 in
theorem fieldsMark_len (k : Int) (n : Nat) : (fieldsMark k n).length = n := by simp [fieldsMark]
set_option maxRecDepth 100000 in
theorem fieldsMark_get (k : Int) (n j : Nat) (h : j < n) : (fieldsMark k n).getD j (0, ⟨#[]⟩) = fieldMark k j := by simp [fieldsMark, h]
set_option maxRecDepth 100000 in
theorem fieldsMark_at (k : Int) (n j : Nat) (h : j < n) : (fieldsMark k n)[j]? = some (fieldMark k j) := by simp [fieldsMark, h]
set_option maxRecDepth 100000 in
/-- a slice of fields of one's own: empty, or one block that may be written -/
theorem fields_own {lo hi : Nat} {w : World} {v : Value} {l : List FieldD} (h : FieldsR.mine lo hi w [v] l) :
    ∃ A c, v = .slice A l.length c ∧ l.length ≤ c ∧ (l = [] ∨ ∃ b off, A = some ⟨b, off, none⟩ ∧ lo ≤ b ∧ b < hi ∧ roomL w b off (l.length * 2)) := by
  obtain ⟨F, ⟨A, c, hv, hc, h⟩, -, hF⟩ := h
  simp only [List.cons.injEq, and_true] at hv
  refine ⟨A, c, hv, hc, ?_⟩
  rcases h with ⟨rfl, _⟩ | ⟨b, off, Fs, rfl, rfl, hl, h⟩
  · exact .inl rfl
  · have hb := hF b (List.mem_cons_self ..)
    refine .inr ⟨b, off, rfl, hb.1, hb.2, fun t ht => ?_⟩
    have hj : t / 2 < l.length := by omega
    obtain ⟨xs, h1, h2, h3⟩ := h (t / 2) _ _ (List.getElem?_eq_getElem hj) (List.getElem?_eq_getElem (by omega))
    rw [field_own] at h1
    obtain ⟨rfl, -⟩ := h1
    have hk : FieldR.k = 2 := rfl
    rw [hk] at h2 h3
    have e : off + t = off + t / 2 * 2 + t % 2 := by omega
    rw [e]
    refine ⟨?_, h3 (t % 2) (by omega)⟩
    rcases Nat.mod_two_eq_zero_or_one t with m | m
    · rw [m]; exact ⟨_, h2 0 _ rfl⟩
    · rw [m]; exact ⟨_, h2 1 _ rfl⟩
set_option maxRecDepth 100000 in
set_option maxHeartbeats 1600000 in
theorem markFields_any (lo hi : Nat) (v : Value) (l : List FieldD) (k : Int) (w : World) (hn : l.length ≤ 2000000) (hk0 : 0 < k) (hk1 : k ≤ 1000000) (h : FieldsR.mine lo hi w [v] l) (hh : hi ≤ w.heap.size) :
    Calls Tryz.prog 27 #[v, .int .i64 k] w fun e w' => e = .returned (.int .i64 (k + 2 * (l.length : Int))) ∧ FieldsR.mine lo hi w' [v] (fieldsMark k l.length) ∧ Turned lo hi w w' := by
  obtain ⟨A, c, rfl, hc, hm⟩ := fields_own h
  clear h
  rcases hm with rfl | ⟨b, off, rfl, h1, h2, hm⟩
  · go_enter Tryz.func27, Tryz.ntmps27
    go_wp2
    go_loop [1, 5] (fun kv iv => iv = .int .i64 0 ∧ kv = .int .i64 k) (fun _ _ => 0)
    case atStart => exact ⟨rfl, rfl⟩
    case round =>
      obtain ⟨rfl, rfl⟩ := hrel
      go_wp2
      go_ret
      exact ⟨by simp, ⟨[], ⟨A, c, rfl, hc, .inl ⟨rfl, rfl⟩⟩, List.nodup_nil, by simp⟩, Turned.refl _ _ _⟩
  generalize l.length = n at hn hc hm ⊢
  have HM := Lib.hid hm
  clear hm
  go_enter Tryz.func27, Tryz.ntmps27
  go_wp2
  go_loopw [1, 5] (fun kv iv wr => ∃ i : Nat, i ≤ n ∧ iv = .int .i64 i ∧ kv = .int .i64 (k + 2 * (i : Int)) ∧ Hid (filled wr b off 2 n i fun j => fCells (fieldMark k j)) ∧ Hid (Turned lo hi w wr) ∧ w.heap.size ≤ wr.heap.size) (fun _ iv _ => n - (intOf iv).toNat)
  case atStart => exact ⟨0, Nat.zero_le _, rfl, val_int (by simp), Lib.hid (filled.start HM.out), Lib.hid (Turned.refl _ _ _), Nat.le_refl _⟩
  case round =>
    obtain ⟨i, hi', rfl, rfl, HF, HT, hz⟩ := hrel
    by_cases hin : i < n
    · obtain ⟨⟨u0, d0⟩, f0⟩ := HF.out.cells hin 0 (by omega)
      obtain ⟨⟨u1, d1⟩, f1⟩ := HF.out.cells hin 1 (by omega)
      simp only [Nat.add_zero] at d0 f0
      have g1 : (i : Int) < (n : Int) := by omega
      have g2 : 0 ≤ (i : Int) := by omega
      go_wp2_with fail
      refine (markText_any (k + 2 * (i : Int) + 1) _ (by omega) (by omega)).mono ?_
      rintro e w2 ⟨rfl, hb2⟩
      have hblk := hb2.block b (show b < _ by simp [World.setCell]; omega)
      have d1 := (hb2.cell (p := ⟨b, off + i * 2 + 1, none⟩) (show b < _ by simp [World.setCell]; omega)).trans ((World.cell?_setCell_other _ _ _ _ (by simp)).trans d1)
      have f1 : w2.frozen? ⟨b, off + i * 2 + 1, none⟩ = false := (hb2.frozen (p := ⟨b, off + i * 2 + 1, none⟩) (show b < _ by simp [World.setCell]; omega)).trans (by simpa using f1)
      have hz2 := hb2.size
      have hz3 : wr.heap.size ≤ w2.heap.size := by simpa [World.setCell] using hz2
      have HT2 : Hid (Turned lo hi w w2) := Lib.hid ((HT.out.set (b := b) (off + i * 2) (.int .i64 (k + 2 * (i : Int))) h1 h2).trans (Turned.of_below hb2))
      have HK := Lib.hid hblk
      clear hb2 hz2 hblk
      go_wp2
      go_roundw
      case rel => exact ⟨i + 1, by omega, by go_num, val_int (by omega), Lib.hid ((HF.out.next hin (fun _ _ => rfl)).keep (set_congr HK.out _ _)), Lib.hid (HT2.out.set _ _ h1 h2), by simp [World.setCell]; omega⟩
      case measure => simp [intOf] <;> omega
    · obtain rfl : i = n := by omega
      go_wp2
      go_ret
      refine ⟨rfl, ?_, HT.out⟩
      refine fields_mine (fieldsMark_len k i).symm hc h1 h2 ⟨HF.out.room, fun j hj => ?_⟩
      rw [fieldsMark_get k i j hj]
      exact HF.out.at_ j hj
set_option maxRecDepth 100000 in
theorem markOf_size (k : Int) (h : k ≤ 1000000000) : (markOf k).length ≤ 21 := by
  have := mark_len k h
  unfold markOf
  simp; omega
set_option maxRecDepth 100000 in
set_option maxHeartbeats 1600000 in
theorem heldFields_any (hi : Nat) (v : Value) (n : Nat) (k : Int) (w : World) (hn : n ≤ 2000000) (hk0 : 0 < k) (hk1 : k ≤ 1000000) (h : FieldsR.rd hi w [v] (fieldsMark k n)) (hh : hi ≤ w.heap.size) :
    Calls Tryz.prog 28 #[v, .int .i64 k] w fun e w' => e = .returned (.int .i64 (k + 2 * (n : Int))) ∧ Below w.heap.size w w' := by
  obtain ⟨A, c, hv, hc, h'⟩ := fields_rd h
  rw [fieldsMark_len] at hv hc
  have HR := Lib.hid h'
  clear h h'
  subst hv
  go_enter Tryz.func28, Tryz.ntmps28
  go_wp2
  go_loopw [1, 5] (fun kv iv wr => ∃ i : Nat, i ≤ n ∧ iv = .int .i64 i ∧ kv = .int .i64 (k + 2 * (i : Int)) ∧ Hid (Below w.heap.size w wr) ∧ w.heap.size ≤ wr.heap.size) (fun _ iv _ => n - (intOf iv).toNat)
  case atStart => exact ⟨0, Nat.zero_le _, rfl, val_int (by simp), Lib.hid (Below.refl _ _), Nat.le_refl _⟩
  case round =>
    obtain ⟨i, hi', rfl, rfl, HB, hz⟩ := hrel
    by_cases hin : i < n
    · obtain ⟨b, off, rfl, hb, c0, c1⟩ := HR.out i _ (fieldsMark_at k n i hin)
      have c0 := (HB.out.cell (p := ⟨b, _, none⟩) (show b < w.heap.size by omega)).trans c0
      have c1 := (HB.out.cell (p := ⟨b, _, none⟩) (show b < w.heap.size by omega)).trans c1
      simp only [fieldMark] at c0 c1
      have g1 : (i : Int) < (n : Int) := by omega
      have g2 : 0 ≤ (i : Int) := by omega
      have hml := markOf_size (k + 2 * (i : Int) + 1) (by omega)
      have HX : Hid (∀ w', Calls Tryz.prog 44 #[.int .i64 (k + 2 * (i : Int) + 1)] w' fun e w'' => e = .returned (.string ⟨(markOf (k + 2 * (i : Int) + 1)).toArray⟩) ∧ Below w'.heap.size w' w'') := Lib.hid fun w' => markText_any _ w' (by omega) (by omega)
      generalize markOf (k + 2 * (i : Int) + 1) = mk at c1 hml HX
      go_wp2
      go_region_held3 (fun w' => w'.cell? ⟨b, off + i * 2 + 1, none⟩ = some (.string ⟨mk.toArray⟩)) (go_keep) ((go_at_call 44; refine (HX.out _).mono ?_; rintro e w2 ⟨rfl, hb2⟩; have q := (hb2.cell (p := ⟨b, off + i * 2 + 1, none⟩) (show b < wr.heap.size by omega)).trans c1))
      have hz2 : wr.heap.size ≤ w2.heap.size := hb2.size
      have HB2 : Hid (Below w.heap.size w w2) := Lib.hid ((HB.out.trans (below_drew _ _)).trans (hb2.mono hz))
      clear hb2
      go_wp2
      go_roundw
      case rel => exact ⟨i + 1, by omega, by go_num, val_int (by omega), HB2, by omega⟩
      case measure => simp [intOf] <;> omega
    · obtain rfl : i = n := by omega
      go_wp2
      go_ret
      exact ⟨rfl, HB.out⟩
def msgMark (m : MsgD) (k : Int) : List FieldD := fieldsMark k m.2.length
set_option maxRecDepth 100000 in
theorem markMsg_any (lo hi : Nat) (v : Value) (m : MsgD) (k : Int) (w : World) (hn : m.2.length ≤ 2000000) (hk0 : 0 < k) (hk1 : k ≤ 1000000) (h : FieldsR.mine lo hi w [v] m.2) (hh : hi ≤ w.heap.size) :
    Calls Tryz.prog 9 #[.agg #[.string m.1, v], .int .i64 k] w fun e w' => e = .returned (.int .i64 (k + 2 * (m.2.length : Int))) ∧ FieldsR.mine lo hi w' [v] (msgMark m k) ∧ Turned lo hi w w' := by
  obtain ⟨A, c, rfl, -⟩ := Rep.slice_form h.rd
  have H := Lib.hid h
  clear h
  have HB0 : Hid (∀ o, Below w.heap.size w (w.alloc o)) := Lib.hid fun o => (Below.refl _ _).alloc (Nat.le_refl _) o
  go_enter Tryz.func9, Tryz.ntmps9
  go_wp2_with fail
  refine (markFields_any lo hi _ m.2 k _ hn hk0 hk1 (H.out.below (HB0.out _) hh) (by simp; omega)).mono ?_
  rintro e w2 ⟨rfl, hm, ht⟩
  have HM := Lib.hid hm
  have HT := Lib.hid ht
  clear hm ht
  go_wp2
  go_ret
  exact ⟨rfl, HM.out, (Turned.of_below (HB0.out _)).trans HT.out⟩
set_option maxRecDepth 100000 in
theorem heldMsg_any (hi : Nat) (v : Value) (t : ByteArray) (n : Nat) (k : Int) (w : World) (hn : n ≤ 2000000) (hk0 : 0 < k) (hk1 : k ≤ 1000000) (h : FieldsR.rd hi w [v] (fieldsMark k n)) (hh : hi ≤ w.heap.size) :
    Calls Tryz.prog 10 #[.agg #[.string t, v], .int .i64 k] w fun e w' => e = .returned (.int .i64 (k + 2 * (n : Int))) ∧ Below w.heap.size w w' := by
  obtain ⟨A, c, hv, -⟩ := Rep.slice_form h
  have H := Lib.hid h
  clear h
  subst hv
  have HB0 : Hid (∀ o, Below w.heap.size w (w.alloc o)) := Lib.hid fun o => (Below.refl _ _).alloc (Nat.le_refl _) o
  go_enter Tryz.func10, Tryz.ntmps10
  go_wp2_with fail
  refine (heldFields_any hi _ n k _ hn hk0 hk1 (Rep.below (R := FieldsR) H.out (HB0.out _) hh) (by simp; omega)).mono ?_
  rintro e w2 ⟨rfl, hb⟩
  have HB : Hid (Below w.heap.size w w2) := Lib.hid ((HB0.out _).trans (hb.mono (by simp)))
  have hp : 0 ≤ k + 2 * (n : Int) := by omega
  clear hb
  go_wp2
  go_ret
  exact ⟨rfl, HB.out⟩
end Go.Proofs.YtdjlhijaadombaaGreatDoor
/- Numbers in memory while other blocks turn. No conditions. -/
set_option linter.unusedVariables false
namespace Go.Proofs.YtdjlhijaadombaaGreatDoor
open Go.ChangeShapes Go.WideShapes Go.ChangeAt Go.RowKit

set_option maxRecDepth 100000 in
theorem nums.turned {K : IntKind} {lo hi lo' hi' : Nat} {w w' : World} {v : Value} {l : List Int} (h : nums K lo hi w v l) (ht : Turned lo' hi' w w') (h1 : hi ≤ lo' ∨ hi' ≤ lo) (h2 : hi ≤ w.heap.size) : nums K lo hi w' v l := by
  obtain ⟨A, c, rfl, hc, hj⟩ := h
  refine ⟨A, c, rfl, hc, fun j hl => ?_⟩
  obtain ⟨b, off, e, g1, g2, g3, g4⟩ := hj j hl
  have hk := ht.block b (by omega) (by omega)
  exact ⟨b, off, e, g1, g2, (cell_keep hk).trans g3, (frozen_keep hk).trans g4⟩
set_option maxRecDepth 100000 in
theorem rd.turned {K : IntKind} {hi lo' hi' : Nat} {w w' : World} {v : Value} {l : List Int} (h : rd K hi w v l) (ht : Turned lo' hi' w w') (h1 : hi ≤ lo') (h2 : hi ≤ w.heap.size) : rd K hi w' v l := by
  obtain ⟨A, c, rfl, hc, hj⟩ := h
  refine ⟨A, c, rfl, hc, fun j hl => ?_⟩
  obtain ⟨b, off, e, g2, g3⟩ := hj j hl
  have hk := ht.block b (by omega) (by omega)
  exact ⟨b, off, e, g2, (cell_keep hk).trans g3⟩
end Go.Proofs.YtdjlhijaadombaaGreatDoor
