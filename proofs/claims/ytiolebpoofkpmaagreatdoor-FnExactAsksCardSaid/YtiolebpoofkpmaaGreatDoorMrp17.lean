/- What Parse comes to, as plain data; no conditions. -/
import Derived.Test.YtiolebpoofkpmaaGreatDoorMrp15
import Derived.Test.YtiolebpoofkpmaaGreatDoorMrpGetSpec
import Derived.Test.YtiolebpoofkpmaaGreatDoorMrp8
import Derived.Test.YtiolebpoofkpmaaGreatDoorMrp16
import Derived.Test.YtiolebpoofkpmaaGreatDoorMrp19
set_option linter.unusedVariables false
namespace Go.Proofs.YtiolebpoofkpmaaGreatDoor
open Go.ChangeShapes Go.WideShapes Go.ChangeAt Go.RowKit

def gfOk (l : List Int) (a no : Int) : Bool := decide (fKind no ≠ 0) && getOk (fKind no) l a (fSize no)
def gfTxt (l : List Int) (a no : Int) : ByteArray := ⟨(rawTxt (fKind no) l a (fSize no)).toArray⟩
def gfEnd (l : List Int) (a no : Int) : Int := rawEnd (fKind no) l a (fSize no)
set_option maxRecDepth 100000 in
theorem get_yes {l : List Int} {a no : Int} (h : gfOk l a no = true) : getRes l a no = .returned (.tuple #[.string (gfTxt l a no), .int .i64 (gfEnd l a no), .bool true]) := by
  unfold gfOk at h
  simp only [Bool.and_eq_true, decide_eq_true_eq] at h
  unfold getRes
  rw [if_neg h.1, trip_on h.2]
  rfl
set_option maxRecDepth 100000 in
theorem get_no {l : List Int} {a no : Int} (h : gfOk l a no = false) : getRes l a no = .returned (.tuple #[.string ⟨#[]⟩, .int .i64 0, .bool false]) := by
  unfold gfOk at h
  unfold getRes
  by_cases hk : fKind no = 0
  · rw [if_pos hk, trip_of rfl]
  · rw [if_neg hk]
    simp only [hk, ne_eq, not_false_eq_true, decide_true, Bool.true_and] at h
    rw [trip_of h]
set_option maxRecDepth 100000 in
theorem gEnd_le {l : List Int} {a n : Int} (h : gOk l a n = true) : gEnd l a n ≤ l.length := by
  unfold gEnd
  rw [if_pos h]
  exact (gIn_bd (gOk_in h).1).2.2.2
set_option maxRecDepth 100000 in
theorem gfEnd_le {l : List Int} {a no : Int} (h : gfOk l a no = true) : gfEnd l a no ≤ l.length := by
  unfold gfOk getOk at h
  simp only [Bool.and_eq_true, decide_eq_true_eq] at h
  obtain ⟨-, h, -⟩ := h
  unfold gfEnd rawEnd
  unfold rawOk at h
  split at h
  · next h1 => rw [if_pos h1]; exact gEnd_le h
  · next h1 =>
    rw [if_neg h1]
    split at h
    · next h2 => rw [if_pos h2]; exact (inR_yes h).2.2
    · next h2 =>
      rw [if_neg h2]
      split at h
      · next h3 =>
        rw [if_pos h3]
        simp only [Bool.and_eq_true] at h
        exact gEnd_le h.2
      · next h3 =>
        rw [if_neg h3]
        split at h
        · next h4 => rw [if_pos h4]; simp only [Bool.and_eq_true] at h; exact (inR_yes h.2).2.2
        · next h4 => rw [if_neg h4]; simp only [Bool.and_eq_true] at h; exact (inR_yes h.2).2.2
abbrev PSt := Option (Int × List FieldD)
def pstep (l : List Int) (st : PSt) (no : Int) : PSt := st.bind fun p => if gfOk l p.1 no = true then some (gfEnd l p.1 no, p.2 ++ [(no, gfTxt l p.1 no)]) else none
def pst (l nos : List Int) (a : Int) (i : Nat) : PSt := (nos.take i).foldl (pstep l) (some (a, []))
set_option maxRecDepth 100000 in
theorem pst_next (l nos : List Int) (a : Int) (i : Nat) (x : Int) (h : nos[i]? = some x) : pst l nos a (i + 1) = pstep l (pst l nos a i) x := by
  unfold pst
  rw [take_snocI h, List.foldl_append]
  rfl
set_option maxRecDepth 100000 in
theorem fold_none (l : List Int) : ∀ nos : List Int, nos.foldl (pstep l) none = none := by
  intro nos
  induction nos with
  | nil => rfl
  | cons x nos ih => exact ih
set_option maxRecDepth 100000 in
theorem pst_none {l nos : List Int} {a : Int} {i : Nat} (hi : i ≤ nos.length) (h : pst l nos a i = none) : pst l nos a nos.length = none := by
  unfold pst at h ⊢
  rw [List.take_length]
  rw [← List.take_append_drop i nos, List.foldl_append, h]
  exact fold_none l _
set_option maxRecDepth 100000 in
theorem pst_len {l nos : List Int} {a : Int} : ∀ (i : Nat) (e : Int) (L : List FieldD), pst l nos a i = some (e, L) → L.length ≤ i := by
  intro i
  induction i with
  | zero => intro e L h; simp [pst] at h; simp [← h.2]
  | succ i ih =>
    intro e L h
    by_cases hi : i < nos.length
    · rw [pst_next l nos a i _ (List.getElem?_eq_getElem hi)] at h
      unfold pstep at h
      obtain ⟨⟨e', L'⟩, h1, h2⟩ := Option.bind_eq_some_iff.1 h
      have := ih e' L' h1
      split at h2
      · simp only [Option.some.injEq, Prod.mk.injEq] at h2
        rw [← h2.2]; simp; omega
      · cases h2
    · have : pst l nos a (i + 1) = pst l nos a i := by
        unfold pst; rw [List.take_of_length_le (by omega), List.take_of_length_le (by omega)]
      rw [this] at h
      have := ih e L h
      omega
/-- the message and the code -/
def parseRes (l : List Int) : MsgD × Int :=
  if gOk l 0 4 = false then ((⟨#[]⟩, []), 1) else if nosOk l = false then ((⟨#[]⟩, []), 2) else
  match pst l (nosL l) (nosE l) (nosL l).length with
  | none => ((⟨#[]⟩, []), 3)
  | some (e, L) => if e = l.length then ((⟨(gTxt l 0 4).toArray⟩, L), 0) else ((⟨#[]⟩, []), 4)
/-- a message and a code -/
def codeRes (r : MsgD × Int) (w : World) (e : Ending) (w' : World) : Prop := ∃ u, e = .returned (.tuple #[.agg #[.string r.1.1, u], .int .i64 r.2]) ∧ FieldsR.mine w.heap.size w'.heap.size w' [u] r.1.2 ∧ Below w.heap.size w w'
set_option maxRecDepth 100000 in
theorem nosE_le (l : List Int) : nosE l ≤ l.length := by
  have hb : ∀ a, bEnd l a ≤ l.length := fun a => by
    unfold bEnd bIn
    split
    · next h => simp only [Bool.and_eq_true, decide_eq_true_eq] at h; omega
    · omega
  unfold nosE nosEnd
  split
  · split <;> exact hb _
  · omega
set_option maxRecDepth 100000 in
theorem nosL_len (l : List Int) : (nosL l).length ≤ 128 := by
  unfold nosL nosRaw
  split
  · split
    · have h1 : (lowOnes (bGet l 2)).length ≤ 64 := Nat.le_trans (List.length_filter_le _ _) (bGet_len64 l 2)
      have h2 := bGet_len64 l (bEnd l 2)
      rw [List.length_append, List.length_map]; omega
    · have h1 : (lowOnes (bGet l 2)).length ≤ 64 := Nat.le_trans (List.length_filter_le _ _) (bGet_len64 l 2)
      omega
  · simp
end Go.Proofs.YtiolebpoofkpmaaGreatDoor
set_option linter.unusedVariables false
namespace Go.Proofs.YtiolebpoofkpmaaGreatDoor
open Go.ChangeShapes Go.WideShapes Go.ChangeAt Go.RowKit

/-- the result's cell of a message, behind what makes memory -/
structure cellMsg (b : Nat) (w : World) : Prop where
  c0 : w.cell? ⟨b, 0, none⟩ = some (.string ⟨#[]⟩)
  c1 : w.cell? ⟨b, 1, none⟩ = some (.slice none 0 0)
  f0 : w.frozen? ⟨b, 0, none⟩ = false
  f1 : w.frozen? ⟨b, 1, none⟩ = false
set_option maxRecDepth 100000 in
theorem cellMsg.new (w : World) : cellMsg w.heap.size (w.alloc (.cells #[.string ⟨#[]⟩, .slice none 0 0] 33)) := ⟨by simp, by simp, by simp, by simp⟩
set_option maxRecDepth 100000 in
theorem cellMsg.keep {b : Nat} {w w' : World} (h : cellMsg b w) (hk : w'.heap[b]? = w.heap[b]?) : cellMsg b w' := ⟨(cell_keep hk).trans h.c0, (cell_keep hk).trans h.c1, (frozen_keep hk).trans h.f0, (frozen_keep hk).trans h.f1⟩
set_option maxRecDepth 100000 in
theorem cellMsg.below {b B : Nat} {w w' : World} (h : cellMsg b w) (hb : Below B w w') (hB : b < B) : cellMsg b w' := h.keep (hb.block b hB)

set_option maxRecDepth 100000 in
set_option maxHeartbeats 16000000 in
theorem specParse_any (hi : Nat) (v : Value) (l : List Int) (w : World) (hn : l.length ≤ 1048576) (hl : isBytes l) (h : rd .u8 hi w v l) (hhi : hi ≤ w.heap.size) :
    Calls Tryz.prog 12 #[v] w (codeRes (parseRes l) w) := by
  obtain ⟨A, c, rfl, hc⟩ := h.form
  have H := Lib.hid h
  have HL := Lib.hid hl
  have HG1 := Lib.hid (fun (W : World) (hW : Below w.heap.size w W) => specGetBcd_any hi _ l 0 4 W (by omega) (by decide) hl (h.below hW hhi) (Nat.le_trans hhi hW.size))
  have HG2 := Lib.hid (fun (W : World) (hW : Below w.heap.size w W) => specNos_any hi _ l W (by omega) hl (h.below hW hhi) (Nat.le_trans hhi hW.size))
  clear h
  have HB0 : Hid (∀ o, Below w.heap.size w (w.alloc o)) := Lib.hid fun o => (Below.refl _ _).alloc (Nat.le_refl _) o
  cases hg : gOk l 0 4
  · have HK : Hid (parseRes l = ((⟨#[]⟩, []), 1)) := Lib.hid (by simp [parseRes, hg])
    have HE := Lib.hid (gRes_no hg)
    clear hg
    go_enter Tryz.func12, Tryz.ntmps12
    go_wp2_with fail
    refine (HG1.out _ (HB0.out _)).mono ?_
    rw [HE.out]
    rintro e w1 ⟨rfl, hb⟩
    obtain ⟨r0, r1, f0, f1⟩ := (cellMsg.new w).below hb (by simp)
    have HB1 : Hid (Below w.heap.size w w1) := Lib.hid ((HB0.out _).trans (hb.mono (by simp)))
    clear hb
    go_wp2
    refine bodyPost_ret (v := .tuple #[.agg #[.string ⟨#[]⟩, .slice none 0 0], .int .i64 1]) (by simp [results, Tryz.results12, go_sem, r0, r1]) rfl ?_
    rw [HK.out]
    exact ⟨_, rfl, mine_none _ _ _, (HB1.out.setCell (p := ⟨_, _, none⟩) (Nat.le_refl _) _).setCell (p := ⟨_, _, none⟩) (Nat.le_refl _) _⟩
  have HE : Hid (gRes l 0 4 = .returned (.tuple #[.string ⟨(gTxt l 0 4).toArray⟩, .int .i64 (gEnd l 0 4), .bool true])) := Lib.hid (by unfold gRes; rw [hg])
  have HGK := Lib.hid hg
  clear hg
  cases ho : nosOk l
  · have HK : Hid (parseRes l = ((⟨#[]⟩, []), 2)) := Lib.hid (by simp [parseRes, HGK.out, ho])
    have HO := Lib.hid ho
    clear ho
    go_enter Tryz.func12, Tryz.ntmps12
    go_wp2_with fail
    refine (HG1.out _ (HB0.out _)).mono ?_
    rw [HE.out]
    rintro e w1 ⟨rfl, hb⟩
    have HC1 := Lib.hid ((cellMsg.new w).below hb (by simp))
    have HB1 : Hid (Below w.heap.size w w1) := Lib.hid ((HB0.out _).trans (hb.mono (by simp)))
    have hz1 : w.heap.size + 1 ≤ w1.heap.size := by have := hb.size; simpa using this
    clear hb
    go_wp2_with fail
    refine (HG2.out _ HB1.out).mono ?_
    rintro e w2 ⟨v2, rfl, hv2, hb2⟩
    rw [HO.out]
    obtain ⟨A2, c2, rfl, hc2⟩ := hv2.form
    obtain ⟨r0, r1, f0, f1⟩ := HC1.out.below hb2 (by omega)
    have HB2 : Hid (Below w.heap.size w w2) := Lib.hid (HB1.out.trans (hb2.mono (by omega)))
    clear hb2 hv2
    go_wp2
    refine bodyPost_ret (v := .tuple #[.agg #[.string ⟨#[]⟩, .slice none 0 0], .int .i64 2]) (by simp [results, Tryz.results12, go_sem, r0, r1]) rfl ?_
    rw [HK.out]
    exact ⟨_, rfl, mine_none _ _ _, (HB2.out.setCell (p := ⟨_, _, none⟩) (Nat.le_refl _) _).setCell (p := ⟨_, _, none⟩) (Nat.le_refl _) _⟩
  have HP : Hid (∀ r, pst l (nosL l) (nosE l) (nosL l).length = r → parseRes l = (match r with | none => ((⟨#[]⟩, []), 3) | some (e, L) => if e = l.length then ((⟨(gTxt l 0 4).toArray⟩, L), 0) else ((⟨#[]⟩, []), 4))) := Lib.hid (fun r hr => by unfold parseRes; rw [HGK.out, ho, hr]; rfl)
  have HO := Lib.hid ho
  have hel := nosE_le l
  have hnl := nosL_len l
  clear ho
  generalize (⟨(gTxt l 0 4).toArray⟩ : ByteArray) = mti at HE HP
  go_enter Tryz.func12, Tryz.ntmps12
  go_wp2_with fail
  refine (HG1.out _ (HB0.out _)).mono ?_
  rw [HE.out]
  rintro e w1 ⟨rfl, hb⟩
  have HC1 := Lib.hid ((cellMsg.new w).below hb (by simp))
  have HB1 : Hid (Below w.heap.size w w1) := Lib.hid ((HB0.out _).trans (hb.mono (by simp)))
  have hz1 : w.heap.size + 1 ≤ w1.heap.size := by have := hb.size; simpa using this
  clear hb
  go_wp2_with fail
  refine (HG2.out _ HB1.out).mono ?_
  rintro e w2 ⟨v2, rfl, hv2, hb2⟩
  rw [HO.out]
  generalize nosL l = X at hv2 hnl HP
  generalize nosE l = e0 at hel HP ⊢
  obtain ⟨A2, c2, rfl, hc2⟩ := hv2.form
  have HC2 := Lib.hid (HC1.out.below hb2 (by omega))
  have HB2 : Hid (Below w.heap.size w w2) := Lib.hid (HB1.out.trans (hb2.mono (by omega)))
  have hz2 : w1.heap.size ≤ w2.heap.size := hb2.size
  have HV := Lib.hid hv2.rd
  clear hv2 hb2 HC1 HG1 HG2
  go_wp2
  go_loopw [8, 37] (fun av iv wr => ∃ (i : Nat) (a : Int) (A3 : Option Addr) (c3 : Nat) (L : List FieldD), i ≤ X.length ∧ iv = .int .i64 i ∧ av = .int .i64 a ∧ a ≤ l.length ∧ Hid (pst l X e0 i = some (a, L)) ∧ Hid (growMsg w2.heap.size mti w2 wr (.slice A3 L.length c3) L) ∧ w2.heap.size < wr.heap.size) (fun _ iv _ => X.length - (intOf iv).toNat)
  case atStart => exact ⟨0, e0, none, 0, [], Nat.zero_le _, rfl, rfl, hel, Lib.hid rfl, Lib.hid (growMsg.start _ _), by simp⟩
  case round =>
    obtain ⟨i, a, A3, c3, L, hi', rfl, rfl, hal, HS, HG, hz⟩ := hrel
    have hll : L.length ≤ i := pst_len i a L HS.out
    have HCr := Lib.hid (HC2.out.below HG.out.below (by omega))
    have HBr : Hid (Below w.heap.size w wr) := Lib.hid (HB2.out.trans (HG.out.below.mono (by omega)))
    by_cases hin : i < X.length
    · obtain ⟨x, hx⟩ : ∃ x, X[i]? = some x := ⟨_, List.getElem?_eq_getElem hin⟩
      obtain ⟨b, off, hA, hbl, d0⟩ := (HV.out.below HG.out.below (Nat.le_refl _)).at hx
      subst hA
      have HN := Lib.hid (pst_next l X e0 i x hx)
      have g1 : (i : Int) < (X.length : Int) := by omega
      have g2 : 0 ≤ (i : Int) := by omega
      have HF := Lib.hid (specGetField_any hi _ l a x wr hn (by omega) HL.out (H.out.below HBr.out hhi) (Nat.le_trans hhi HBr.out.size))
      clear hx
      cases hgf : gfOk l a x
      · have HK : Hid (parseRes l = ((⟨#[]⟩, []), 3)) := Lib.hid (by
          rw [HP.out none (pst_none (i := i + 1) (by omega) (by rw [HN.out, HS.out]; simp [pstep, hgf]))])
        have HR := Lib.hid (get_no hgf)
        clear hgf
        go_wp2_with fail
        refine HF.out.mono ?_
        rw [HR.out]
        rintro e w3 ⟨rfl, hb3⟩
        obtain ⟨r0, r1, f0, f1⟩ := HCr.out.below hb3 (by omega)
        have HB3 : Hid (Below w.heap.size w w3) := Lib.hid (HBr.out.trans (hb3.mono (by omega)))
        clear hb3
        go_wp2
        refine bodyPost_ret (v := .tuple #[.agg #[.string ⟨#[]⟩, .slice none 0 0], .int .i64 3]) (by simp [results, Tryz.results12, go_sem, r0, r1]) rfl ?_
        rw [HK.out]
        exact ⟨_, rfl, mine_none _ _ _, (HB3.out.setCell (p := ⟨_, _, none⟩) (Nat.le_refl _) _).setCell (p := ⟨_, _, none⟩) (Nat.le_refl _) _⟩
      · have hge := gfEnd_le hgf
        have HS1 : Hid (pst l X e0 (i + 1) = some (gfEnd l a x, L ++ [(x, gfTxt l a x)])) := Lib.hid (by rw [HN.out, HS.out]; simp [pstep, hgf])
        have HR := Lib.hid (get_yes hgf)
        clear hgf
        generalize gfEnd l a x = e1 at hge HS1 HR
        generalize gfTxt l a x = t1 at HS1 HR
        go_wp2_with fail
        refine HF.out.mono ?_
        rw [HR.out]
        rintro e w3 ⟨rfl, hb3⟩
        have hz3 : wr.heap.size ≤ w3.heap.size := hb3.size
        have HG3 : Hid (growMsg w2.heap.size mti w2 w3 (.slice A3 L.length c3) L) := Lib.hid (HG.out.keepBelow hb3)
        have hcell := HG3.out.cell1
        have hfree := HG3.out.free 1
        clear hb3
        go_wp2_with (at_builtin; refine app_elem fCells 2 (fun _ => rfl) (by decide) fCells_one 31 48 #[.int .i64 0, .string ⟨#[]⟩] 24 Tryz.underlying31 infoField rfl _ _ rfl (by rfl) (w2.heap.size + 1) _ _ L (x, t1) _ _ (by rfl) (by rfl) (by rfl) (by simp) HG3.out.own (by unfold maxLen; omega) (by omega) (by first | omega | (simp; omega)) ?_)
        intro A4 c4 w4 hown4 hc4 hg4 _
        obtain ⟨q4, k4⟩ := HG3.out.app_cell hg4
        have HG4 := Lib.hid (HG3.out.app hg4 hown4)
        have hz4 : w3.heap.size + 1 ≤ w4.heap.size := by have := hg4.size; simpa using this
        clear hown4 hg4
        go_wp2
        go_roundw
        case rel => exact ⟨i + 1, e1, A4, c4, L ++ [(x, t1)], by omega, by go_num, rfl, by omega, HS1, Lib.hid (by simpa using HG4.out), by simp [World.setCell]; omega⟩
        case measure => simp [intOf] <;> omega
    · obtain rfl : i = X.length := by omega
      obtain ⟨r0, r1, f0, f1⟩ := HCr.out
      by_cases hae : a = l.length
      · have HK : Hid (parseRes l = ((mti, L), 0)) := Lib.hid (by rw [HP.out _ HS.out]; simp [hae])
        subst hae
        have e0' := HG.out.cell0
        have e1' := HG.out.cell1
        have hne : w.heap.size ≠ w2.heap.size := by omega
        go_wp2
        refine bodyPost_ret (v := .tuple #[.agg #[.string mti, .slice A3 L.length c3], .int .i64 0]) (by simp [results, Tryz.results12, go_sem, r0, r1]) rfl ?_
        have HZ := HG.out.ret (w2 := w) (r := w.heap.size) (by omega) (Nat.le_refl _) HBr.out (.string mti) (.slice A3 L.length c3)
        rw [HK.out]
        exact ⟨_, rfl, HZ.1, HZ.2⟩
      · have HK : Hid (parseRes l = ((⟨#[]⟩, []), 4)) := Lib.hid (by rw [HP.out _ HS.out]; simp [hae])
        have hne' : (a != (l.length : Int)) = true := by simpa using hae
        clear hae
        go_wp2
        refine bodyPost_ret (v := .tuple #[.agg #[.string ⟨#[]⟩, .slice none 0 0], .int .i64 4]) (by simp [results, Tryz.results12, go_sem, r0, r1]) rfl ?_
        rw [HK.out]
        exact ⟨_, rfl, mine_none _ _ _, (HBr.out.setCell (p := ⟨_, _, none⟩) (Nat.le_refl _) _).setCell (p := ⟨_, _, none⟩) (Nat.le_refl _) _⟩
end Go.Proofs.YtiolebpoofkpmaaGreatDoor
set_option linter.unusedVariables false
namespace Go.Proofs.YtiolebpoofkpmaaGreatDoor
open Go.ChangeShapes Go.WideShapes Go.ChangeAt Go.RowKit

set_option maxRecDepth 100000 in
theorem listOk_all {L : List FieldD} (h : listOk L = true) : (∀ x ∈ L, fOk x.1 x.2 = true) ∧ L.Pairwise (fun a b => a.1 < b.1) := by
  have hs : ∀ j (hj : j < L.length), fOk (L[j]).1 (L[j]).2 = true ∧ (∀ hj' : j + 1 < L.length, (L[j]).1 < (L[j + 1]).1) := by
    intro j hj
    have h1 := listOk_at h j hj
    unfold stepOk at h1
    rw [getD_of (List.getElem?_eq_getElem hj)] at h1
    simp only [Bool.and_eq_true] at h1
    refine ⟨h1.1, fun hj' => ?_⟩
    have h2 := listOk_at h (j + 1) hj'
    unfold stepOk at h2
    rw [getD_of (List.getElem?_eq_getElem hj'), show j + 1 - 1 = j by omega, getD_of (List.getElem?_eq_getElem hj)] at h2
    simp only [Bool.and_eq_true] at h2
    simpa using h2.2
  constructor
  · intro x hx
    obtain ⟨j, hj, rfl⟩ := List.mem_iff_getElem.1 hx
    exact (hs j hj).1
  · rw [List.pairwise_iff_getElem]
    intro i j hi hj hij
    obtain ⟨d, rfl⟩ : ∃ d, j = i + d + 1 := ⟨j - i - 1, by omega⟩
    clear hij
    induction d with
    | zero => exact (hs i hi).2 hj
    | succ d ih =>
      have h1 := ih (by omega)
      have h2 := (hs (i + d + 1) (by omega)).2 hj
      exact Int.lt_trans h1 h2
end Go.Proofs.YtiolebpoofkpmaaGreatDoor
set_option linter.unusedVariables false
namespace Go.Proofs.YtiolebpoofkpmaaGreatDoor
open Go.ChangeShapes Go.WideShapes Go.ChangeAt Go.RowKit

set_option maxRecDepth 100000 in
theorem hexv_dec : ∀ h < 10, hexv (byteOf (48 + ((h : Nat) : Int))) = h ∧ isDig (byteOf (48 + ((h : Nat) : Int))) = true := by decide
set_option maxRecDepth 100000 in
theorem hexv_of {h : Int} (h0 : 0 ≤ h) (h1 : h ≤ 9) : hexv (byteOf (48 + h)) = h := by
  have := (hexv_dec h.toNat (by omega)).1
  rwa [Int.toNat_of_nonneg h0] at this
set_option maxRecDepth 100000 in
theorem small_at {p : List Int} (h : small p = true) (i : Nat) (hi : i < 2 * p.length) : halfAt p i ≤ 9 := by
  unfold small at h
  rw [List.all_eq_true] at h
  simpa using h i (by simpa using hi)
set_option maxRecDepth 100000 in
/-- the digits of packed bytes, packed again -/
theorem pairs_dec {p : List Int} (hb : isBytes p) (hs : small p = true) : pairs (hv ⟨(decN p (2 * p.length)).toArray⟩) p.length = p := by
  refine List.ext_getElem (by rw [pairs_len]) fun k h1 h2 => ?_
  have hk : k < p.length := h2
  have e : (pairs (hv ⟨(decN p (2 * p.length)).toArray⟩) p.length)[k] = (pairs (hv ⟨(decN p (2 * p.length)).toArray⟩) p.length).getD k 0 := by
    rw [List.getD_eq_getElem?_getD, List.getElem?_eq_getElem h1]; rfl
  rw [e, pairs_get _ _ _ hk]
  have hd : ∀ i, i < 2 * p.length → (hv ⟨(decN p (2 * p.length)).toArray⟩).getD i 0 = halfAt p i := fun i hi => by
    have hbd := half_bd hb i
    have h9 := small_at hs i hi
    unfold hv decN
    rw [List.getD_eq_getElem?_getD]
    simp only [List.map_map, List.getElem?_map]
    rw [List.getElem?_range hi]
    simp only [Option.map_some, Option.getD_some, Function.comp]
    exact hexv_of hbd.1 h9
  rw [hd _ (by omega), hd _ (by omega), half_even, half_odd]
  have : p.getD k 0 = p[k] := by rw [List.getD_eq_getElem?_getD, List.getElem?_eq_getElem hk]; rfl
  rw [this]
  have hz := hb p[k] (List.getElem_mem hk)
  omega
set_option maxRecDepth 100000 in
/-- PutBcd of what GetBcd finds -/
theorem bcd_of {l : List Int} {a n : Int} (hl : isBytes l) (h : gOk l a n = true) : bcdOk ⟨(gTxt l a n).toArray⟩ = true ∧ bcd ⟨(gTxt l a n).toArray⟩ = gPart l a n := by
  obtain ⟨hi, hs, hz⟩ := gOk_in h
  have hb := gIn_bd hi
  have hp := gPart_len hi
  have hpb := gPart_bytes hl a n
  obtain ⟨ht, hd⟩ := gTxt_ok hl h
  have hsz : (⟨(gTxt l a n).toArray⟩ : ByteArray).size = (gTxt l a n).length := rfl
  have hok : bcdOk ⟨(gTxt l a n).toArray⟩ = true := (bcdOk_iff _).2 ⟨hd, by omega⟩
  refine ⟨hok, ?_⟩
  have hpad : padS ⟨(gTxt l a n).toArray⟩ = ⟨(decN (gPart l a n) (2 * (gPart l a n).length)).toArray⟩ := by
    unfold padS
    by_cases ho : n % 2 = 1
    · rw [if_pos (by omega)]
      obtain ⟨c, r, hcr, hc⟩ := dec_first hpb (by rw [hp]; omega)
      have h0 : halfAt (gPart l a n) 0 = 0 := by rcases hz with hz | hz
                                                 · omega
                                                 · exact hz
      have hc48 : c = 48 := by
        have : c.toNat = 48 := by omega
        exact UInt8.toNat_inj.1 (by rw [this]; rfl)
      have hg : gTxt l a n = r := by unfold gTxt; rw [if_pos h, if_pos ho, hcr]; rfl
      rw [hg, hcr, hc48]
      apply ByteArray.ext
      simp
    · rw [if_neg (by omega)]
      have hg : gTxt l a n = decN (gPart l a n) (2 * (gPart l a n).length) := by unfold gTxt; rw [if_pos h, if_neg ho]
      rw [hg]
  rw [bcd_yes hok, hpad]
  have hs2 : (⟨(decN (gPart l a n) (2 * (gPart l a n).length)).toArray⟩ : ByteArray).size = 2 * (gPart l a n).length := by
    show (decN (gPart l a n) (2 * (gPart l a n).length)).length = _
    rw [decN_len]
  rw [hs2, show 2 * (gPart l a n).length / 2 = (gPart l a n).length by omega]
  exact pairs_dec hpb hs
set_option maxRecDepth 100000 in
theorem wide2 : ∀ x < 10, ∀ y < 10, wideOf (narVal ⟨#[UInt8.ofNat (48 + x), UInt8.ofNat (48 + y)]⟩) 2 = [UInt8.ofNat (48 + x), UInt8.ofNat (48 + y)] := by decide +kernel
set_option maxRecDepth 100000 in
theorem wide3 : ∀ x < 10, ∀ y < 10, ∀ z < 10, wideOf (narVal ⟨#[UInt8.ofNat (48 + x), UInt8.ofNat (48 + y), UInt8.ofNat (48 + z)]⟩) 3 = [UInt8.ofNat (48 + x), UInt8.ofNat (48 + y), UInt8.ofNat (48 + z)] := by decide +kernel
set_option maxRecDepth 100000 in
theorem dig_form {c : UInt8} (h : isDig c = true) : ∃ x, x < 10 ∧ c = UInt8.ofNat (48 + x) := by
  have := (isDig_iff c).1 h
  refine ⟨c.toNat - 48, by omega, ?_⟩
  rw [show 48 + (c.toNat - 48) = c.toNat by omega, UInt8.ofNat_toNat]
set_option maxRecDepth 100000 in
theorem wide_of {t : List UInt8} {d : Int} (hd : d = 2 ∨ d = 3) (hl : (t.length : Int) = d) (ht : t.all isDig = true) : wideOf (narVal ⟨t.toArray⟩) d = t := by
  rw [List.all_eq_true] at ht
  rcases hd with rfl | rfl
  · match t, hl with
    | [a, b], _ =>
      obtain ⟨x, hx, rfl⟩ := dig_form (ht a (by simp))
      obtain ⟨y, hy, rfl⟩ := dig_form (ht b (by simp))
      exact wide2 x hx y hy
  · match t, hl with
    | [a, b, c], _ =>
      obtain ⟨x, hx, rfl⟩ := dig_form (ht a (by simp))
      obtain ⟨y, hy, rfl⟩ := dig_form (ht b (by simp))
      obtain ⟨z, hz, rfl⟩ := dig_form (ht c (by simp))
      exact wide3 x hx y hy z hz
set_option maxRecDepth 100000 in
/-- PutLen of what GetLen finds -/
theorem len_of {l : List Int} {a d : Int} (hl : isBytes l) (hd : d = 2 ∨ d = 3) (h : lenGot l a d = true) : putLen (lenVal l a d) d = gPart l a d ∧ lenEnd l a d = a + (gPart l a d).length := by
  have hld : lenDig d = true := by rcases hd with rfl | rfl <;> rfl
  have hg : gOk l a d = true := by unfold lenGot at h; simpa [hld] using h
  obtain ⟨ht, hdg⟩ := gTxt_ok hl hg
  obtain ⟨hok, hb⟩ := bcd_of hl hg
  have hall : (gTxt l a d).all isDig = true := by
    unfold digs at hdg
    simp only [Bool.and_eq_true] at hdg
    exact hdg.2
  constructor
  · unfold putLen lenVal
    rw [if_pos hld, if_pos hld, wide_of hd ht hall, hb]
  · unfold lenEnd gEnd
    rw [if_pos hld, if_pos hg, gPart_len (gOk_in hg).1]
    have := gIn_bd (gOk_in hg).1
    omega
/-- the bytes from a to e -/
def seg (l : List Int) (a e : Int) : List Int := (l.drop a.toNat).take (e - a).toNat
set_option maxRecDepth 100000 in
theorem seg_app (l : List Int) {a e f : Int} (h0 : 0 ≤ a) (h1 : a ≤ e) (h2 : e ≤ f) : seg l a e ++ seg l e f = seg l a f := by
  unfold seg
  have e1 : (f - a).toNat = (e - a).toNat + (f - e).toNat := by omega
  have e2 : e.toNat = a.toNat + (e - a).toNat := by omega
  rw [e1, List.take_add, List.drop_drop, e2]
set_option maxRecDepth 100000 in
theorem gPart_seg (l : List Int) {a n : Int} (h : gIn l a n = true) : gPart l a n = seg l a (a + (n + 1) / 2) := by
  have := gIn_bd h
  unfold gPart seg
  rw [show (a + (n + 1) / 2 - a).toNat = ((n + 1) / 2).toNat by omega]
set_option maxRecDepth 100000 in
theorem bytes_back {p : List Int} (h : isBytes p) : bytesL ⟨(p.map byteOf).toArray⟩ = p := by
  unfold bytesL
  show ((p.map byteOf).map fun c => (c.toNat : Int)) = p
  rw [List.map_map]
  conv => rhs; rw [← List.map_id p]
  refine List.map_congr_left fun z hz => ?_
  have := h z hz
  unfold byteOf
  simp only [Function.comp, id]
  rw [UInt8.toNat_ofNat']
  omega
set_option maxRecDepth 100000 in
theorem tPart_of {l : List Int} {a n : Int} (hl : isBytes l) (h : inR l a n = true) : bytesL ⟨(tPart l a n).toArray⟩ = seg l a (a + n) ∧ ((tPart l a n).length : Int) = n := by
  have hb := inR_yes h
  refine ⟨?_, by rw [tPart_len h]; omega⟩
  unfold tPart seg
  rw [bytes_back (fun z hz => hl z (List.mem_of_mem_drop (List.mem_of_mem_take hz))), show (a + n - a).toNat = n.toNat by omega]
set_option maxRecDepth 100000 in
/-- PutField of what GetField finds -/
theorem field_of {l : List Int} {a no : Int} (hl : isBytes l) (h : gfOk l a no = true) : fOk no (gfTxt l a no) = true ∧ 0 ≤ a ∧ a ≤ gfEnd l a no ∧ putFL no (gfTxt l a no) = seg l a (gfEnd l a no) := by
  have h' := h
  unfold gfOk getOk at h
  simp only [Bool.and_eq_true, decide_eq_true_eq] at h
  obtain ⟨hk, hr, ho⟩ := h
  have hfo : fOk no (gfTxt l a no) = true := ho
  refine ⟨hfo, ?_⟩
  have hput : putFL no (gfTxt l a no) = putBody (fKind no) (gfTxt l a no) := by unfold putFL; rw [if_pos hfo]
  rw [hput]
  have hkc := kind_cases no
  unfold gfTxt gfEnd
  generalize fKind no = kd at *
  generalize fSize no = sz at *
  rcases hkc with rfl | rfl | rfl | rfl | rfl | rfl
  · exact absurd rfl hk
  · have hr' : gOk l a sz = true := hr
    have hb := gIn_bd (gOk_in hr').1
    have e : rawEnd 1 l a sz = a + (sz + 1) / 2 := by show gEnd l a sz = _; unfold gEnd; rw [if_pos hr']
    refine ⟨by omega, by rw [e]; omega, ?_⟩
    rw [e, ← gPart_seg l (gOk_in hr').1]
    exact (bcd_of hl hr').2
  · have hr' : inR l a sz = true := hr
    have hb := inR_yes hr'
    have e : rawEnd 2 l a sz = a + sz := rfl
    refine ⟨by omega, by rw [e]; omega, ?_⟩
    rw [e]
    exact (tPart_of hl hr').1
  · rw [(raw3 l a sz).1] at hr
    simp only [Bool.and_eq_true] at hr
    obtain ⟨h1, h2⟩ := hr
    obtain ⟨l1, l2⟩ := len_of hl (.inl rfl) h1
    have hg : gOk l a 2 = true := by unfold lenGot at h1; simpa using (Bool.and_eq_true _ _ ▸ h1 : _ ∧ _).2
    have hb := gIn_bd (gOk_in hg).1
    have hb2 := gIn_bd (gOk_in h2).1
    have hgl := gPart_len (gOk_in hg).1
    have he : lenEnd l a 2 = a + 1 := by rw [l2, hgl]; omega
    obtain ⟨t1, -⟩ := gTxt_ok hl h2
    rw [(raw3 l a sz).2.1, (raw3 l a sz).2.2]
    have e2 : gEnd l (lenEnd l a 2) (lenVal l a 2) = lenEnd l a 2 + (lenVal l a 2 + 1) / 2 := by unfold gEnd; rw [if_pos h2]
    refine ⟨by omega, by rw [e2]; omega, ?_⟩
    have hs : ((⟨(gTxt l (lenEnd l a 2) (lenVal l a 2)).toArray⟩ : ByteArray).size : Int) = lenVal l a 2 := t1
    show putLen _ 2 ++ bcd _ = _
    rw [hs, l1, (bcd_of hl h2).2, e2, gPart_seg l (gOk_in hg).1, gPart_seg l (gOk_in h2).1, show a + ((2 : Int) + 1) / 2 = lenEnd l a 2 by rw [he]; omega]
    exact seg_app l (by omega) (by omega) (by omega)
  · rw [(raw4 l a sz).1] at hr
    simp only [Bool.and_eq_true] at hr
    obtain ⟨h1, h2⟩ := hr
    obtain ⟨l1, l2⟩ := len_of hl (.inl rfl) h1
    have hg : gOk l a 2 = true := by unfold lenGot at h1; simpa using (Bool.and_eq_true _ _ ▸ h1 : _ ∧ _).2
    have hb := gIn_bd (gOk_in hg).1
    have hb2 := inR_yes h2
    have hgl := gPart_len (gOk_in hg).1
    have he : lenEnd l a 2 = a + 1 := by rw [l2, hgl]; omega
    obtain ⟨t0, t1⟩ := tPart_of hl h2
    rw [(raw4 l a sz).2.1, (raw4 l a sz).2.2]
    refine ⟨by omega, by omega, ?_⟩
    have hs : ((⟨(tPart l (lenEnd l a 2) (lenVal l a 2)).toArray⟩ : ByteArray).size : Int) = lenVal l a 2 := t1
    show putLen _ 2 ++ bytesL _ = _
    rw [hs, l1, t0, gPart_seg l (gOk_in hg).1, show a + ((2 : Int) + 1) / 2 = lenEnd l a 2 by rw [he]; omega]
    exact seg_app l (by omega) (by omega) (by omega)
  · rw [(raw5 l a sz).1] at hr
    simp only [Bool.and_eq_true] at hr
    obtain ⟨h1, h2⟩ := hr
    obtain ⟨l1, l2⟩ := len_of hl (.inr rfl) h1
    have hg : gOk l a 3 = true := by unfold lenGot at h1; simpa using (Bool.and_eq_true _ _ ▸ h1 : _ ∧ _).2
    have hb := gIn_bd (gOk_in hg).1
    have hb2 := inR_yes h2
    have hgl := gPart_len (gOk_in hg).1
    have he : lenEnd l a 3 = a + 2 := by rw [l2, hgl]; omega
    obtain ⟨t0, t1⟩ := tPart_of hl h2
    rw [(raw5 l a sz).2.1, (raw5 l a sz).2.2]
    refine ⟨by omega, by omega, ?_⟩
    have hs : ((⟨(tPart l (lenEnd l a 3) (lenVal l a 3)).toArray⟩ : ByteArray).size : Int) = lenVal l a 3 := t1
    show putLen _ 3 ++ bytesL _ = _
    rw [hs, l1, t0, gPart_seg l (gOk_in hg).1, show a + ((3 : Int) + 1) / 2 = lenEnd l a 3 by rw [he]; omega]
    exact seg_app l (by omega) (by omega) (by omega)
def bitV (x : Nat) (c : Nat) : Nat := if decide (((x : Nat) : Int) / 2 ^ (7 - c) % 2 = 1) = true then 2 ^ (7 - c) else 0
set_option maxRecDepth 100000 in
theorem byte_sum : ∀ x < 256, x = bitV x 0 + bitV x 1 + bitV x 2 + bitV x 3 + bitV x 4 + bitV x 5 + bitV x 6 + bitV x 7 := by decide +kernel
set_option maxRecDepth 100000 in
theorem byte_ext {x y : Nat} (hx : x < 256) (hy : y < 256) (h : ∀ c, c < 8 → decide (((x : Nat) : Int) / 2 ^ (7 - c) % 2 = 1) = decide (((y : Nat) : Int) / 2 ^ (7 - c) % 2 = 1)) : x = y := by
  have hb : ∀ c, c < 8 → bitV x c = bitV y c := fun c hc => by unfold bitV; rw [h c hc]
  rw [byte_sum x hx, byte_sum y hy, hb 0 (by omega), hb 1 (by omega), hb 2 (by omega), hb 3 (by omega), hb 4 (by omega), hb 5 (by omega), hb 6 (by omega), hb 7 (by omega)]
set_option maxRecDepth 100000 in
theorem bits_ext {p q : List Int} (hp : okB p) (hq : okB q) (h : ∀ i, i < 64 → bitAt p i = bitAt q i) : p = q := by
  refine List.ext_getElem (by rw [hp.1, hq.1]) fun k h1 h2 => ?_
  have hk : k < 8 := by have := hp.1; omega
  have ep : p[k] = p.getD k 0 := by rw [List.getD_eq_getElem?_getD, List.getElem?_eq_getElem h1]; rfl
  have eq : q[k] = q.getD k 0 := by rw [List.getD_eq_getElem?_getD, List.getElem?_eq_getElem h2]; rfl
  have bp := hp.2 k
  have bq := hq.2 k
  obtain ⟨x, hx⟩ : ∃ x : Nat, p.getD k 0 = x := ⟨(p.getD k 0).toNat, by omega⟩
  obtain ⟨y, hy⟩ : ∃ y : Nat, q.getD k 0 = y := ⟨(q.getD k 0).toNat, by omega⟩
  rw [ep, eq, hx, hy]
  congr 1
  refine byte_ext (by omega) (by omega) fun c hc => ?_
  have := h (8 * k + c) (by omega)
  unfold bitAt at this
  rwa [show (8 * k + c) / 8 = k by omega, show (8 * k + c) % 8 = c by omega, hx, hy] at this
set_option maxRecDepth 100000 in
theorem getB_bit {p : List Int} (i : Nat) (hi : i < 64) : decide ((i : Int) + 1 ∈ getB p 64) = bitAt p i := by
  unfold getB
  rw [Bool.eq_iff_iff, decide_eq_true_eq, List.mem_map]
  constructor
  · rintro ⟨j, hj, e⟩
    obtain rfl : j = i := by omega
    exact (List.mem_filter.1 hj).2
  · intro h
    exact ⟨i, List.mem_filter.2 ⟨by simpa using hi, h⟩, rfl⟩
set_option maxRecDepth 100000 in
/-- PutBits of what GetBits finds, in whatever order -/
theorem putB_of {p L : List Int} (hp : okB p) (hm : ∀ z, z ∈ L ↔ z ∈ getB p 64) : putB L = p := by
  have hb : ∀ k ∈ L, 1 ≤ k ∧ k ≤ 64 := fun k hk => getB_bd p 64 k ((hm k).1 hk)
  obtain ⟨h1, h2⟩ := putB_bit hb
  refine bits_ext h1 hp fun i hi => ?_
  rw [h2 i hi, ← getB_bit i hi, decide_eq_decide]
  exact hm _
set_option maxRecDepth 100000 in
theorem getB_up (p : List Int) (n : Nat) : (getB p n).Pairwise (· < ·) := by
  unfold getB
  rw [List.pairwise_map]
  exact (List.pairwise_lt_range.filter _).imp fun h => by omega
end Go.Proofs.YtiolebpoofkpmaaGreatDoor
set_option linter.unusedVariables false
namespace Go.Proofs.YtiolebpoofkpmaaGreatDoor
open Go.ChangeShapes Go.WideShapes Go.ChangeAt Go.RowKit

set_option maxRecDepth 100000 in
theorem listOk_up {L : List FieldD} (hf : ∀ x ∈ L, fOk x.1 x.2 = true) (hp : L.Pairwise (fun a b => a.1 < b.1)) : listOk L = true := by
  refine listOk_yes fun j hj => ?_
  have hx := List.getElem?_eq_getElem hj
  unfold stepOk
  rw [getD_of hx, hf _ (List.getElem_mem hj)]
  by_cases h0 : j = 0
  · simp [h0]
  · have hy := List.getElem?_eq_getElem (l := L) (i := j - 1) (by omega)
    rw [getD_of hy]
    have := (List.pairwise_iff_getElem.1 hp) (j - 1) j (by omega) hj (by omega)
    simp [this]
set_option maxRecDepth 100000 in
theorem lows_map (L : List FieldD) : lows L = (L.map (·.1)).filter fun z => decide (z ≤ 64) := by
  unfold lows
  rw [List.filter_map]
  rfl
set_option maxRecDepth 100000 in
theorem highs_map (L : List FieldD) : highs L = ((L.map (·.1)).filter fun z => decide (64 < z)).map (· - 64) := by
  unfold highs
  rw [List.filter_map, List.map_map]
  rfl
set_option maxRecDepth 100000 in
theorem part_ok {b : List Int} (hb : isBytes b) {a : Int} (h : bIn b a = true) : okB (bPart b a) ∧ bPart b a = seg b a (a + 8) ∧ 0 ≤ a ∧ a + 8 ≤ b.length := by
  have hh : 0 ≤ a ∧ a + 8 ≤ b.length := by
    unfold bIn at h
    simp only [Bool.and_eq_true, decide_eq_true_eq] at h
    exact h
  have hpb : isBytes (bPart b a) := fun z hz => hb z (List.mem_of_mem_drop (List.mem_of_mem_take hz))
  refine ⟨⟨?_, fun i => hpb.getD i⟩, ?_, hh.1, hh.2⟩
  · unfold bPart
    rw [List.length_take, List.length_drop]
    omega
  · unfold bPart seg
    rw [show (a + 8 - a).toNat = 8 by omega]
set_option maxRecDepth 100000 in
theorem pst_only {b X : List Int} {E0 : Int} (hb : isBytes b) (h0 : 0 ≤ E0) : ∀ i, i ≤ X.length → ∀ e L, pst b X E0 i = some (e, L) → L.map (·.1) = X.take i ∧ (∀ x ∈ L, fOk x.1 x.2 = true) ∧ E0 ≤ e ∧ bodyL L = seg b E0 e := by
  intro i
  induction i with
  | zero =>
    intro _ e L h
    simp only [pst, List.take_zero, List.foldl_nil, Option.some.injEq, Prod.mk.injEq] at h
    obtain ⟨rfl, rfl⟩ := h
    exact ⟨rfl, (fun x hx => absurd hx (List.not_mem_nil)), Int.le_refl _, by simp [bodyL, seg]⟩
  | succ i ih =>
    intro hi e L h
    have hx := List.getElem?_eq_getElem (l := X) (i := i) (by omega)
    generalize X[i] = x at hx
    rw [pst_next b X E0 i x hx] at h
    unfold pstep at h
    obtain ⟨⟨e', L'⟩, h1, h2⟩ := Option.bind_eq_some_iff.1 h
    obtain ⟨g1, g2, g3, g4⟩ := ih (by omega) e' L' h1
    split at h2
    · next hg =>
      simp only [Option.some.injEq, Prod.mk.injEq] at h2
      obtain ⟨rfl, rfl⟩ := h2
      obtain ⟨f1, f2, f3, f4⟩ := field_of hb hg
      refine ⟨by rw [List.map_append, g1, take_snocI hx]; rfl, fun y hy => ?_, Int.le_trans g3 f3, ?_⟩
      · rcases List.mem_append.1 hy with hy | hy
        · exact g2 y hy
        · rw [List.mem_singleton.1 hy]; exact f1
      · rw [bodyL_snoc, g4]
        show seg b E0 e' ++ putFL x (gfTxt b e' x) = _
        rw [f4]
        exact seg_app b h0 g3 f3
    · cases h2
set_option maxRecDepth 100000 in
theorem nos_only {b : List Int} (hb : isBytes b) (h : nosOk b = true) {L : List FieldD} (hL : L.map (·.1) = nosL b) : (nosL b).Pairwise (· < ·) ∧ bitsL L = seg b 2 (nosE b) ∧ 2 ≤ nosE b := by
  have hL' : nosL b = nosRaw b := by unfold nosL; rw [if_pos h]
  have hE' : nosE b = nosEnd b := by unfold nosE; rw [if_pos h]
  unfold nosOk at h
  simp only [Bool.and_eq_true] at h
  obtain ⟨⟨hi, hm⟩, -⟩ := h
  obtain ⟨p1, p2, -, p3⟩ := part_ok hb hi
  have hlow : bGet b 2 = getB (bPart b 2) 64 := by unfold bGet; rw [if_pos hi]
  have hend : bEnd b 2 = 10 := by unfold bEnd; rw [if_pos hi]; rfl
  have hbd := getB_bd (bPart b 2) 64
  have hup := getB_up (bPart b 2) 64
  have lup : (lowOnes (getB (bPart b 2) 64)).Pairwise (· < ·) := hup.filter _
  have lbd : ∀ z ∈ lowOnes (getB (bPart b 2) 64), 1 ≤ z ∧ z ≤ 64 := fun z hz => hbd z (List.mem_filter.1 hz).1
  rw [hL'] at hL ⊢
  rw [hE']
  cases hmo : moreB (bGet b 2)
  · have hr : nosRaw b = lowOnes (getB (bPart b 2) 64) := by unfold nosRaw; rw [hmo, if_neg (by simp), hlow]
    have hn : nosEnd b = 10 := by unfold nosEnd; rw [hmo, if_neg (by simp), hend]
    rw [hr] at hL ⊢
    rw [hn]
    have h1 : lows L = lowOnes (getB (bPart b 2) 64) := by
      rw [lows_map, hL, List.filter_eq_self]
      intro z hz
      simpa using (lbd z hz).2
    have h2 : highs L = [] := by
      rw [highs_map, hL, List.map_eq_nil_iff, List.filter_eq_nil_iff]
      intro z hz
      have := lbd z hz
      simp; omega
    refine ⟨lup, ?_, by omega⟩
    unfold bitsL
    rw [if_pos h2, h1, putB_of p1, p2]
    · rfl
    · intro z
      unfold lowOnes
      rw [List.mem_filter]
      constructor
      · exact fun h => h.1
      · intro hz
        refine ⟨hz, ?_⟩
        have h1' : ¬ (1 : Int) ∈ bGet b 2 := by unfold moreB at hmo; simpa using hmo
        rw [hlow] at h1'
        have : z ≠ 1 := fun e => h1' (e ▸ hz)
        simpa using this
  · rw [hmo] at hm
    simp only [Bool.not_true, Bool.false_or, Bool.and_eq_true, decide_eq_true_eq] at hm
    rw [hend] at hm
    obtain ⟨hi2, hpos⟩ := hm
    obtain ⟨q1, q2, -, q3⟩ := part_ok hb hi2
    have hhigh : bGet b 10 = getB (bPart b 10) 64 := by unfold bGet; rw [if_pos hi2]
    have hend2 : bEnd b 10 = 18 := by unfold bEnd; rw [if_pos hi2]; rfl
    rw [hhigh] at hpos
    have hhb := getB_bd (bPart b 10) 64
    have hhu := getB_up (bPart b 10) 64
    have hr : nosRaw b = lowOnes (getB (bPart b 2) 64) ++ (getB (bPart b 10) 64).map (· + 64) := by unfold nosRaw; rw [hmo, if_pos rfl, hlow, hend, hhigh]
    have hn : nosEnd b = 18 := by unfold nosEnd; rw [hmo, if_pos rfl, hend, hend2]
    rw [hr] at hL ⊢
    rw [hn]
    have h1 : lows L = lowOnes (getB (bPart b 2) 64) := by
      rw [lows_map, hL, List.filter_append, List.filter_eq_self.2 (fun z hz => by simpa using (lbd z hz).2), List.filter_eq_nil_iff.2 (fun z hz => by
        obtain ⟨y, hy, rfl⟩ := List.mem_map.1 hz
        have := hhb y hy
        simp; omega), List.append_nil]
    have h2 : highs L = getB (bPart b 10) 64 := by
      rw [highs_map, hL, List.filter_append, List.filter_eq_nil_iff.2 (fun z hz => by
        have := lbd z hz
        simp; omega), List.filter_eq_self.2 (fun z hz => by
        obtain ⟨y, hy, rfl⟩ := List.mem_map.1 hz
        have := hhb y hy
        simp; omega), List.nil_append, List.map_map]
      conv => rhs; rw [← List.map_id (getB (bPart b 10) 64)]
      refine List.map_congr_left fun y _ => ?_
      simp
    have hne : ¬ getB (bPart b 10) 64 = [] := List.length_pos_iff.1 hpos
    refine ⟨?_, ?_, by omega⟩
    · rw [List.pairwise_append]
      refine ⟨lup, ?_, fun x hx y hy => ?_⟩
      · rw [List.pairwise_map]
        exact hhu.imp fun h => by omega
      · obtain ⟨z, hz, rfl⟩ := List.mem_map.1 hy
        have := lbd x hx
        have := hhb z hz
        omega
    · unfold bitsL
      rw [h2, if_neg hne, h1, putB_of p1, putB_of q1 (fun z => Iff.rfl), p2, q2]
      · exact seg_app b (by omega) (by omega) (by omega)
      · intro z
        unfold lowOnes
        rw [List.mem_append, List.mem_filter, List.mem_singleton]
        have h1' : (1 : Int) ∈ bGet b 2 := by unfold moreB at hmo; simpa using hmo
        rw [hlow] at h1'
        constructor
        · rintro (h | rfl)
          · exact h.1
          · exact h1'
        · intro hz
          by_cases e : z = 1
          · exact .inr e
          · exact .inl ⟨hz, by simpa using e⟩
set_option maxRecDepth 100000 in
theorem seg_all (b : List Int) : seg b 0 b.length = b := by
  unfold seg
  simp
set_option maxRecDepth 100000 in
/-- Encode of what Parse finds -/
theorem parse_only {b : List Int} (hb : isBytes b) {m : MsgD} (h : parseRes b = (m, 0)) : msgOk m = true ∧ encL m = b := by
  unfold parseRes at h
  split at h
  · simp at h
  · next hg =>
    split at h
    · simp at h
    · next ho =>
      have hg' : gOk b 0 4 = true := by simpa using hg
      have ho' : nosOk b = true := by simpa using ho
      split at h
      · simp at h
      · next e L hp =>
        split at h
        · next he =>
          simp only [Prod.mk.injEq, and_true] at h
          subst h
          have hE0 := (nos_only hb ho' (L := (nosL b).map fun z => (z, ⟨#[]⟩)) (by rw [List.map_map]; exact List.map_id' _)).2.2
          obtain ⟨g1, g2, g3, g4⟩ := pst_only hb (show 0 ≤ nosE b by omega) _ (Nat.le_refl _) e L hp
          rw [List.take_length] at g1
          obtain ⟨n1, n2, n3⟩ := nos_only hb ho' g1
          have hpw : L.Pairwise (fun a b => a.1 < b.1) := by
            rw [← g1, List.pairwise_map] at n1
            exact n1
          have hlo := listOk_up g2 hpw
          obtain ⟨t1, t2⟩ := gTxt_ok hb hg'
          obtain ⟨-, t4⟩ := bcd_of hb hg'
          have hmt : mtiOk ⟨(gTxt b 0 4).toArray⟩ = true := by
            unfold mtiOk
            rw [t2]
            have : (⟨(gTxt b 0 4).toArray⟩ : ByteArray).size = 4 := by show (gTxt b 0 4).length = 4; omega
            rw [this]
            rfl
          have hok : msgOk (⟨(gTxt b 0 4).toArray⟩, L) = true := by unfold msgOk; rw [hmt, hlo]; rfl
          refine ⟨hok, ?_⟩
          unfold encL
          rw [if_pos hok]
          show bcd ⟨(gTxt b 0 4).toArray⟩ ++ bitsL L ++ bodyL L = b
          rw [t4, n2, g4, gPart_seg b (gOk_in hg').1, he]
          have hle : nosE b ≤ b.length := by rw [← he]; exact g3
          rw [show (0 : Int) + (4 + 1) / 2 = 2 by decide, seg_app b (by omega) (by omega) n3, seg_app b (by omega) (by omega) hle, seg_all]
        · simp at h
set_option maxRecDepth 100000 in
theorem parse_code (b : List Int) : (parseRes b).2 = 0 ∨ (1 ≤ (parseRes b).2 ∧ (parseRes b).2 ≤ 4 ∧ (parseRes b).1 = (⟨#[]⟩, [])) := by
  unfold parseRes
  split
  · right; exact ⟨by decide, by decide, rfl⟩
  · split
    · right; exact ⟨by decide, by decide, rfl⟩
    · split
      · right; exact ⟨by decide, by decide, rfl⟩
      · split
        · left; rfl
        · right; exact ⟨by decide, by decide, rfl⟩
end Go.Proofs.YtiolebpoofkpmaaGreatDoor
set_option linter.unusedVariables false
namespace Go.Proofs.YtiolebpoofkpmaaGreatDoor
open Go.ChangeShapes Go.WideShapes Go.ChangeAt Go.RowKit

def asc (l : List FieldD) : Prop := l.Pairwise (fun a b => a.1 < b.1)
def below (no : Int) (l : List FieldD) : List FieldD := l.filter fun x => decide (x.1 < no)
def above (no : Int) (l : List FieldD) : List FieldD := l.filter fun x => decide (no < x.1)
end Go.Proofs.YtiolebpoofkpmaaGreatDoor
