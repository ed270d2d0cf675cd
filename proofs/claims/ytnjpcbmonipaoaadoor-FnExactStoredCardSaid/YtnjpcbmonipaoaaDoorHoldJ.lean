/- Putting a hold in its place: by the first element with its id, or by the place of the id; the order of strings; no conditions. -/
import Derived.Test.YtnjpcbmonipaoaaDoorHoldA
import Derived.Test.YtnjpcbmonipaoaaDoorHoldP
import Derived.Lib.Bytealg
set_option linter.unusedVariables false
namespace Go.Proofs.YtnjpcbmonipaoaaDoor
open Go.ChangeShapes Go.WideShapes Go.ChangeAt Go.RowKit

set_option maxRecDepth 100000 in
theorem bl_irrefl : ∀ a : List UInt8, Op.bytesLess a a = false
  | [] => rfl
  | x :: a => by
    have h := bl_irrefl a
    simp [Op.bytesLess, h]
set_option maxRecDepth 100000 in
theorem bl_trans : ∀ a b c : List UInt8, Op.bytesLess a b = true → Op.bytesLess b c = true → Op.bytesLess a c = true
  | [], _, [] => by intro _ h; cases ‹List UInt8› <;> simp [Op.bytesLess] at h
  | [], _, _ :: _ => by intros; rfl
  | _ :: _, [], _ => by intro h; simp [Op.bytesLess] at h
  | _ :: _, _ :: _, [] => by intro _ h; simp [Op.bytesLess] at h
  | x :: a, y :: b, z :: c => by
    have ih := bl_trans a b c
    simp only [Op.bytesLess, Bool.or_eq_true, Bool.and_eq_true, decide_eq_true_eq, beq_iff_eq]
    rintro (h1 | ⟨rfl, h1⟩) (h2 | ⟨rfl, h2⟩)
    · exact .inl (UInt8.lt_trans h1 h2)
    · exact .inl h1
    · exact .inl h2
    · exact .inr ⟨rfl, ih h1 h2⟩
set_option maxRecDepth 100000 in
/-- the three ways in which two strings lie -/
theorem bl_cmp : ∀ a b : List UInt8, (Lib.compareBytes a b = -1 ∧ Op.bytesLess a b = true ∧ Op.bytesLess b a = false ∧ a ≠ b) ∨ (Lib.compareBytes a b = 0 ∧ a = b) ∨ (Lib.compareBytes a b = 1 ∧ Op.bytesLess b a = true ∧ Op.bytesLess a b = false ∧ a ≠ b)
  | [], [] => .inr (.inl ⟨rfl, rfl⟩)
  | [], _ :: _ => .inl ⟨rfl, rfl, rfl, by simp⟩
  | _ :: _, [] => .inr (.inr ⟨rfl, rfl, rfl, by simp⟩)
  | x :: a, y :: b => by
    unfold Lib.compareBytes
    by_cases h1 : x < y
    · have h2 : ¬ y < x := UInt8.lt_asymm h1
      have h3 : x ≠ y := UInt8.ne_of_lt h1
      exact .inl ⟨by simp [h1], by simp [Op.bytesLess, h1], by simp [Op.bytesLess, h2, h3.symm], by simp [h3]⟩
    · by_cases h2 : y < x
      · have h3 : y ≠ x := UInt8.ne_of_lt h2
        exact .inr (.inr ⟨by simp [h1, h2], by simp [Op.bytesLess, h2], by simp [Op.bytesLess, h1, h3.symm], by simp [h3.symm]⟩)
      · obtain rfl : x = y := UInt8.le_antisymm (UInt8.not_lt.1 h2) (UInt8.not_lt.1 h1)
        have ih := bl_cmp a b
        simpa [Op.bytesLess, h1] using ih
set_option maxRecDepth 100000 in
theorem str_cmp (a b : ByteArray) : (Lib.compareBytes a.data.toList b.data.toList = -1 ∧ strLt a b = true ∧ strLt b a = false ∧ a ≠ b) ∨ (Lib.compareBytes a.data.toList b.data.toList = 0 ∧ a = b) ∨ (Lib.compareBytes a.data.toList b.data.toList = 1 ∧ strLt b a = true ∧ strLt a b = false ∧ a ≠ b) := by
  have h := bl_cmp a.toList b.toList
  unfold strLt
  have e1 : a.data.toList = a.toList := (Lib.toList_data a).symm
  have e2 : b.data.toList = b.toList := (Lib.toList_data b).symm
  rw [e1, e2]
  rcases h with ⟨h1, h2, h3, h4⟩ | ⟨h1, h2⟩ | ⟨h1, h2, h3, h4⟩
  · exact .inl ⟨h1, h2, h3, fun e => h4 (by rw [e])⟩
  · exact .inr (.inl ⟨h1, str_eq_list.1 h2⟩)
  · exact .inr (.inr ⟨h1, h2, h3, fun e => h4 (by rw [e])⟩)
set_option maxRecDepth 100000 in
theorem strLt_irrefl (a : ByteArray) : strLt a a = false := bl_irrefl _
set_option maxRecDepth 100000 in
theorem strLt_trans {a b c : ByteArray} (h1 : strLt a b = true) (h2 : strLt b c = true) : strLt a c = true := bl_trans _ _ _ h1 h2
set_option maxRecDepth 100000 in
theorem strLt_ne {a b : ByteArray} (h : strLt a b = true) : a ≠ b := fun e => by rw [e, strLt_irrefl] at h; exact Bool.false_ne_true h
set_option maxRecDepth 100000 in
theorem strLt_other {a b : ByteArray} (hne : a ≠ b) (h : strLt a b = false) : strLt b a = true := by
  rcases str_cmp a b with ⟨_, h2, _⟩ | ⟨_, h2⟩ | ⟨_, h2, _⟩
  · rw [h2] at h; exact absurd h (by simp)
  · exact absurd h2 hne
  · exact h2
set_option maxRecDepth 100000 in
/-- not (a <= b) is b < a -/
theorem str_leq (a b : ByteArray) : (Op.bytesLess a.toList b.toList || a.toList == b.toList) = !strLt b a := by
  rcases str_cmp a b with ⟨_, h2, h3, h4⟩ | ⟨_, rfl⟩ | ⟨_, h2, h3, h4⟩
  · rw [h3, show Op.bytesLess a.toList b.toList = true from h2]; rfl
  · rw [strLt_irrefl]; simp
  · have h5 : (a.toList == b.toList) = false := by simpa using fun e => h4 (str_eq_list.1 e)
    rw [h2, show Op.bytesLess a.toList b.toList = false from h3, h5]; rfl
/-- ascending by id -/
def ascH (l : List HoldD) : Prop := l.Pairwise fun x y => strLt x.1 y.1 = true
set_option maxRecDepth 100000 in
theorem holdsOk_asc {l : List HoldD} (h : holdsOk l = true) : ascH l := by
  unfold holdsOk at h
  simp only [Bool.and_eq_true, List.all_eq_true, List.mem_range] at h
  have h1 := h.1
  unfold ascH
  rw [List.pairwise_iff_getElem]
  intro i j hi hj hij
  obtain ⟨d, rfl⟩ : ∃ d, j = i + 1 + d := ⟨j - (i + 1), by omega⟩
  clear hij
  induction d with
  | zero =>
    have := h1 (i + 1) (by omega)
    unfold holdAtOk at this
    simp only [Bool.and_eq_true] at this
    have h2 := this.2
    simpa [List.getD_eq_getElem?_getD, List.getElem?_eq_getElem hi, List.getElem?_eq_getElem hj] using h2
  | succ d ih =>
    have h3 := ih (by omega)
    have := h1 (i + 1 + (d + 1)) (by omega)
    unfold holdAtOk at this
    simp only [Bool.and_eq_true] at this
    have h2 := this.2
    have hj' : i + 1 + d < l.length := by omega
    have e : i + 1 + (d + 1) - 1 = i + 1 + d := by omega
    rw [e] at h2
    have h4 : strLt l[i + 1 + d].1 l[i + 1 + (d + 1)].1 = true := by
      simpa [List.getD_eq_getElem?_getD, List.getElem?_eq_getElem hj', List.getElem?_eq_getElem hj] using h2
    exact strLt_trans h3 h4
/-- what is put in, from the front -/
def insR (h : HoldD) : List HoldD → List HoldD
  | [] => [h]
  | x :: l => if strLt x.1 h.1 = true then x :: insR h l else h :: (x :: l).filter fun y => decide (y.1 ≠ h.1)
set_option maxRecDepth 100000 in
theorem ins_done (h : HoldD) : ∀ (l acc : List HoldD), l.foldl (insOne h) (acc, true) = (acc ++ l.filter fun y => decide (y.1 ≠ h.1), true)
  | [], acc => by simp
  | x :: l, acc => by
    rw [List.foldl_cons]
    have e : insOne h (acc, true) x = (acc ++ (if x.1 = h.1 then [] else [x]), true) := by simp [insOne]
    rw [e, ins_done h l]
    by_cases hx : x.1 = h.1 <;> simp [hx]
set_option maxRecDepth 100000 in
theorem ins_from (h : HoldD) : ∀ (l acc : List HoldD), (if (l.foldl (insOne h) (acc, false)).2 = true then (l.foldl (insOne h) (acc, false)).1 else (l.foldl (insOne h) (acc, false)).1 ++ [h]) = acc ++ insR h l
  | [], acc => by simp [insR]
  | x :: l, acc => by
    rw [List.foldl_cons]
    cases hlt : strLt x.1 h.1
    · have e : insOne h (acc, false) x = (acc ++ [h] ++ (if x.1 = h.1 then [] else [x]), true) := by simp [insOne, hlt]
      rw [e, ins_done]
      by_cases hx : x.1 = h.1 <;> simp [insR, hlt, hx, strLt_irrefl]
    · have e : insOne h (acc, false) x = (acc ++ [x], false) := by simp [insOne, hlt, strLt_ne hlt]
      rw [e, ins_from h l]
      simp [insR, hlt]
set_option maxRecDepth 100000 in
theorem insL_eq (l : List HoldD) (h : HoldD) : insL l h = insR h l := by
  have := ins_from h l []
  rw [List.nil_append] at this
  exact this
/-- the place of an id, where no element has it -/
def placeH (l : List HoldD) (id : ByteArray) : Nat := (l.findIdx? fun x => strLt id x.1).getD l.length
/-- the element with this id and true, or the place of the id and false -/
def searchH (l : List HoldD) (id : ByteArray) : Nat × Bool := match l.findIdx? (fun x => decide (x.1 = id)) with | some i => (i, true) | none => (placeH l id, false)
set_option maxRecDepth 100000 in
theorem placeH_le (l : List HoldD) (id : ByteArray) : placeH l id ≤ l.length := by
  unfold placeH
  cases h : l.findIdx? fun x => strLt id x.1 with
  | none => exact Nat.le_refl _
  | some i => exact Nat.le_of_lt (List.findIdx?_eq_some_iff_getElem.1 h).1
set_option maxRecDepth 100000 in
theorem searchH_le (l : List HoldD) (id : ByteArray) : (searchH l id).1 ≤ l.length := by
  unfold searchH
  cases h : l.findIdx? fun x => decide (x.1 = id) with
  | none => exact placeH_le l id
  | some i => exact Nat.le_of_lt (List.findIdx?_eq_some_iff_getElem.1 h).1
set_option maxRecDepth 100000 in
theorem searchH_lt (l : List HoldD) (id : ByteArray) (hs : (searchH l id).2 = true) : (searchH l id).1 < l.length := by
  revert hs
  unfold searchH
  cases h : l.findIdx? fun x => decide (x.1 = id) with
  | none => intro hs; exact absurd hs (by simp)
  | some i => intro _; exact (List.findIdx?_eq_some_iff_getElem.1 h).1
set_option maxRecDepth 100000 in
theorem findH_search (l : List HoldD) (id : ByteArray) : findH l id = if (searchH l id).2 = true then ((searchH l id).1 : Int) else -1 := by
  unfold findH searchH
  cases l.findIdx? fun x => decide (x.1 = id) <;> simp
set_option maxRecDepth 100000 in
theorem filter_ne {h : HoldD} {l : List HoldD} (hl : ∀ y ∈ l, y.1 ≠ h.1) : (l.filter fun y => decide (y.1 ≠ h.1)) = l := List.filter_eq_self.2 fun y hy => decide_eq_true (hl y hy)
set_option maxRecDepth 100000 in
theorem insR_found (h : HoldD) : ∀ (l : List HoldD) (i : Nat), ascH l → (l.findIdx? fun x => decide (x.1 = h.1)) = some i → insR h l = l.take i ++ h :: l.drop (i + 1)
  | [], i, _, hf => by simp at hf
  | x :: l, i, ha, hf => by
    obtain ⟨ha1, ha2⟩ := List.pairwise_cons.1 ha
    rw [List.findIdx?_cons] at hf
    by_cases hx : x.1 = h.1
    · rw [if_pos (decide_eq_true hx)] at hf
      cases hf
      have hlt : strLt x.1 h.1 = false := by rw [hx, strLt_irrefl]
      have hne : ∀ y ∈ l, y.1 ≠ h.1 := fun y hy => by have := strLt_ne (ha1 y hy); rw [hx] at this; exact this.symm
      simp only [insR, hlt, Bool.false_eq_true, if_false, List.take_zero, List.nil_append, List.drop_succ_cons, List.drop_zero]
      rw [List.filter_cons_of_neg (by simp [hx]), filter_ne hne]
    · rw [if_neg (by simp [hx])] at hf
      obtain ⟨k, hk, rfl⟩ : ∃ k, (l.findIdx? fun x => decide (x.1 = h.1)) = some k ∧ k + 1 = i := by
        cases hk : l.findIdx? fun x => decide (x.1 = h.1) with
        | none => rw [hk] at hf; simp at hf
        | some k => rw [hk] at hf; exact ⟨k, rfl, by simpa using hf⟩
      obtain ⟨hkl, hke, -⟩ := List.findIdx?_eq_some_iff_getElem.1 hk
      have hlt : strLt x.1 h.1 = true := by
        have h1 := ha1 l[k] (List.getElem_mem hkl)
        rw [of_decide_eq_true hke] at h1
        exact h1
      simp only [insR, hlt, if_true, List.take_succ_cons, List.drop_succ_cons, List.cons_append]
      rw [insR_found h l k ha2 hk]
set_option maxRecDepth 100000 in
theorem insR_place (h : HoldD) : ∀ (l : List HoldD), (l.findIdx? fun x => decide (x.1 = h.1)) = none → insR h l = l.take (placeH l h.1) ++ h :: l.drop (placeH l h.1)
  | [], _ => by simp [insR]
  | x :: l, hf => by
    have hall := List.findIdx?_eq_none_iff.1 hf
    have hne : ∀ y ∈ x :: l, y.1 ≠ h.1 := fun y hy => of_decide_eq_false (hall y hy)
    have hx := hne x (List.mem_cons_self ..)
    cases hlt : strLt x.1 h.1
    · have hg := strLt_other hx hlt
      have hp : placeH (x :: l) h.1 = 0 := by unfold placeH; rw [List.findIdx?_cons, if_pos hg]; rfl
      rw [hp]
      simp only [insR, hlt, Bool.false_eq_true, if_false, List.take_zero, List.nil_append, List.drop_zero]
      rw [filter_ne hne]
    · have hg : strLt h.1 x.1 = false := by
        cases hc : strLt h.1 x.1 with
        | false => rfl
        | true => have := strLt_trans hlt hc; rw [strLt_irrefl] at this; exact absurd this (by simp)
      have hp : placeH (x :: l) h.1 = placeH l h.1 + 1 := by
        unfold placeH
        rw [List.findIdx?_cons, if_neg (by simp [hg])]
        cases l.findIdx? fun x => strLt h.1 x.1 <;> simp
      have hf2 : (l.findIdx? fun x => decide (x.1 = h.1)) = none := List.findIdx?_eq_none_iff.2 fun y hy => hall y (List.mem_cons_of_mem _ hy)
      rw [hp]
      simp only [insR, hlt, if_true, List.take_succ_cons, List.drop_succ_cons, List.cons_append]
      rw [insR_place h l hf2]
set_option maxRecDepth 100000 in
theorem insL_search {l : List HoldD} {h : HoldD} (hk : holdsOk l = true) : insL l h = l.take (searchH l h.1).1 ++ h :: l.drop ((searchH l h.1).1 + if (searchH l h.1).2 = true then 1 else 0) := by
  rw [insL_eq]
  unfold searchH
  cases hf : l.findIdx? fun x => decide (x.1 = h.1) with
  | none => simpa using insR_place h l hf
  | some i => simpa using insR_found h l i (holdsOk_asc hk) hf
/-- the id before element i -/
def befH (l : List HoldD) (i : Nat) : ByteArray := if i = 0 then ⟨#[]⟩ else (l.getD (i - 1) noH).1
set_option maxRecDepth 100000 in
theorem idOk_ne {s : ByteArray} (h : idOk s = true) : strLt ⟨#[]⟩ s = true := by
  unfold idOk inB at h
  simp only [Bool.and_eq_true, decide_eq_true_eq] at h
  have h1 : s ≠ ⟨#[]⟩ := fun e => by rw [e] at h; have h2 : (1 : Int) ≤ ((⟨#[]⟩ : ByteArray).size : Int) := h.2.1; have e2 : (⟨#[]⟩ : ByteArray).size = 0 := rfl; omega
  rcases str_cmp ⟨#[]⟩ s with ⟨_, h2, _⟩ | ⟨_, h2⟩ | ⟨_, h2, _⟩
  · exact h2
  · exact absurd h2.symm h1
  · unfold strLt at h2
    have e : (⟨#[]⟩ : ByteArray).toList = [] := by rw [Lib.toList_data]
    rw [e] at h2
    cases s.toList <;> simp [Op.bytesLess] at h2
set_option maxRecDepth 100000 in
theorem holdAt_bef {l : List HoldD} {i : Nat} {x : HoldD} (hx : l[i]? = some x) : holdAtOk l i = (holdOk x && strLt (befH l i) x.1) := by
  unfold holdAtOk befH
  have e : l.getD i noH = x := by rw [List.getD_eq_getElem?_getD, hx]; rfl
  rw [e]
  cases hk : holdOk x
  · rfl
  · have hid : idOk x.1 = true := by unfold holdOk at hk; simp only [Bool.and_eq_true] at hk; exact hk.1
    by_cases h0 : i = 0
    · subst h0; simp [idOk_ne hid]
    · simp [h0]
set_option maxRecDepth 100000 in
theorem befH_next {l : List HoldD} {i : Nat} {x : HoldD} (hx : l[i]? = some x) : befH l (i + 1) = x.1 := by
  unfold befH
  rw [if_neg (by omega), Nat.add_sub_cancel, List.getD_eq_getElem?_getD, hx]; rfl
end Go.Proofs.YtnjpcbmonipaoaaDoor
