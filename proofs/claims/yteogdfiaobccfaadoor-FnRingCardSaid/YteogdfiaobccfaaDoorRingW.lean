/- A ring that has been fed with times that don't fall counts what came within its window: plain facts about lists of numbers; no conditions. -/
import Derived.Test.YteogdfiaobccfaaDoorRingL
set_option linter.unusedVariables false
namespace Go.Proofs.YteogdfiaobccfaaDoor
open Go.ChangeShapes Go.WideShapes Go.ChangeAt Go.RowKit

/-- a time and an amount -/
abbrev Ev := Int × Int
/-- what the weights of those with p come to -/
def tot (g : Ev → Int) (p : Ev → Bool) (ev : List Ev) : Int := ((ev.filter p).map g).sum
set_option maxRecDepth 100000 in
theorem tot_nil (g : Ev → Int) (p : Ev → Bool) : tot g p [] = 0 := rfl
set_option maxRecDepth 100000 in
theorem tot_cons (g : Ev → Int) (p : Ev → Bool) (e : Ev) (l : List Ev) : tot g p (e :: l) = (if p e = true then g e else 0) + tot g p l := by
  unfold tot
  rw [List.filter_cons]
  split <;> simp
set_option maxRecDepth 100000 in
theorem tot_snoc (g : Ev → Int) (p : Ev → Bool) (e : Ev) (l : List Ev) : tot g p (l ++ [e]) = tot g p l + (if p e = true then g e else 0) := by
  induction l with
  | nil => rw [List.nil_append, tot_cons, tot_nil]; omega
  | cons a l ih => rw [List.cons_append, tot_cons, tot_cons, ih]; omega
set_option maxRecDepth 100000 in
theorem tot_pos {g : Ev → Int} {p : Ev → Bool} {l : List Ev} (h : ∀ e ∈ l, 0 ≤ g e) : 0 ≤ tot g p l := by
  induction l with
  | nil => exact Int.le_refl 0
  | cons a l ih =>
    rw [tot_cons]
    have h1 := ih fun e he => h e (List.mem_cons_of_mem _ he)
    have h2 := h a (List.mem_cons_self ..)
    split <;> omega
set_option maxRecDepth 100000 in
theorem tot_le {g : Ev → Int} {p : Ev → Bool} {l : List Ev} {M : Int} (h : ∀ e ∈ l, 0 ≤ g e ∧ g e ≤ M) : tot g p l ≤ M * l.length := by
  induction l with
  | nil => rw [tot_nil]; simp
  | cons a l ih =>
    rw [tot_cons]
    have h1 := ih fun e he => h e (List.mem_cons_of_mem _ he)
    have h2 := h a (List.mem_cons_self ..)
    rw [List.length_cons]
    have h3 : M * ((l.length + 1 : Nat) : Int) = M * l.length + M := by rw [Int.natCast_add, Int.mul_add]; simp
    rw [h3]
    split <;> omega
set_option maxRecDepth 100000 in
theorem tot_or {g : Ev → Int} {p q r : Ev → Bool} {l : List Ev} (h : ∀ e ∈ l, r e = (p e || q e) ∧ (p e && q e) = false) : tot g r l = tot g p l + tot g q l := by
  induction l with
  | nil => rfl
  | cons a l ih =>
    rw [tot_cons, tot_cons, tot_cons, ih fun e he => h e (List.mem_cons_of_mem _ he)]
    obtain ⟨h1, h2⟩ := h a (List.mem_cons_self ..)
    rw [h1]
    cases hp : p a <;> cases hq : q a <;> simp_all <;> omega
set_option maxRecDepth 100000 in
theorem tot_none {g : Ev → Int} {p : Ev → Bool} {l : List Ev} (h : ∀ e ∈ l, p e = false) : tot g p l = 0 := by
  induction l with
  | nil => rfl
  | cons a l ih =>
    rw [tot_cons, ih fun e he => h e (List.mem_cons_of_mem _ he), h a (List.mem_cons_self ..)]
    rfl
/-- the bucket k of those whose time is in it -/
def atB (sp k : Int) (e : Ev) : Bool := decide (e.1 / sp = k)
def win (g : Ev → Int) (sp : Int) (n : Nat) (ev : List Ev) (H : Int) : List Int := (List.range n).map fun i => tot g (atB sp (H - (i : Nat))) ev
set_option maxRecDepth 100000 in
theorem winB_len (g : Ev → Int) (sp : Int) (n : Nat) (ev : List Ev) (H : Int) : (win g sp n ev H).length = n := by simp [win]
set_option maxRecDepth 100000 in
theorem win_at {g : Ev → Int} {sp : Int} {n i : Nat} {ev : List Ev} {H : Int} (h : i < n) : (win g sp n ev H)[i]? = some (tot g (atB sp (H - (i : Nat))) ev) := by
  unfold win
  rw [List.getElem?_map, List.getElem?_range h]; rfl
set_option maxRecDepth 100000 in
theorem win_getD {g : Ev → Int} {sp : Int} {n i : Nat} {ev : List Ev} {H : Int} (h : i < n) : (win g sp n ev H).getD i 0 = tot g (atB sp (H - (i : Nat))) ev := by
  rw [List.getD_eq_getElem?_getD, win_at h]; rfl
set_option maxRecDepth 100000 in
theorem win_shift {g : Ev → Int} {sp : Int} {n : Nat} {ev : List Ev} {H : Int} (k : Nat) (h : ∀ e ∈ ev, e.1 / sp ≤ H) : shiftL k (win g sp n ev H) = win g sp n ev (H + k) := by
  apply List.ext_getElem?
  intro i
  by_cases hi : i < n
  · rw [shiftL_at (by rw [winB_len]; exact hi), win_at hi]
    congr 1
    by_cases hk : k ≤ i
    · rw [if_pos hk, win_getD (by omega)]
      congr 2
      omega
    · rw [if_neg hk]
      refine (tot_none fun e he => ?_).symm
      have := h e he
      simp only [atB, decide_eq_false_iff_not]
      omega
  · rw [List.getElem?_eq_none (by rw [shiftL_len, winB_len]; omega), List.getElem?_eq_none (by rw [winB_len]; omega)]
set_option maxRecDepth 100000 in
/-- the program's sum is the sum where nothing is too big -/
theorem sat_exact {a b : Int} (ha : 0 ≤ a) (hb : 0 ≤ b) (h : a + b ≤ 4611686018427387904) : satVal a b = a + b := by
  have c1 : clampM a = a := by unfold clampM; rw [if_neg (by omega), if_neg (by omega)]
  have c2 : clampM b = b := by unfold clampM; rw [if_neg (by omega), if_neg (by omega)]
  unfold satVal
  rw [c1, c2, if_pos]
  simp only [addOk, isMon, Bool.and_eq_true, decide_eq_true_eq]
  omega
set_option maxRecDepth 100000 in
theorem win_add {g : Ev → Int} {sp : Int} {n : Nat} {ev : List Ev} {e : Ev} {H : Int} (hn : 1 ≤ n) (hH : e.1 / sp = H) (h0 : ∀ x ∈ ev, 0 ≤ g x) (he : 0 ≤ g e) (hM : tot g (atB sp H) ev + g e ≤ 4611686018427387904) :
    addOne (win g sp n ev H) (g e) = win g sp n (ev ++ [e]) H := by
  apply List.ext_getElem?
  intro i
  unfold addOne
  have h00 : H - ((0 : Nat) : Int) = H := by omega
  by_cases hi : i < n
  · rw [win_at hi, tot_snoc]
    by_cases hz : i = 0
    · subst hz
      rw [List.getElem?_set_self (by rw [winB_len]; exact hi), win_getD hi, h00, sat_exact (tot_pos h0) he hM, if_pos (by simp [atB, hH])]
    · rw [List.getElem?_set_ne (fun h => hz h.symm), win_at hi, if_neg (by simp only [atB, decide_eq_true_eq]; omega), Int.add_zero]
  · rw [List.getElem?_eq_none (by rw [List.length_set, winB_len]; omega), List.getElem?_eq_none (by rw [winB_len]; omega)]
/-- those within the window -/
def inW (sp lo : Int) (e : Ev) : Bool := decide (lo < e.1 / sp)
set_option maxRecDepth 100000 in
theorem win_total {g : Ev → Int} {sp : Int} {ev : List Ev} {H : Int} (hH : ∀ e ∈ ev, e.1 / sp ≤ H) (h0 : ∀ x ∈ ev, 0 ≤ g x) (hM : ∀ p : Ev → Bool, tot g p ev ≤ 4611686018427387904) :
    ∀ n : Nat, totalL (win g sp n ev H) = tot g (inW sp (H - n)) ev
  | 0 => by
    rw [show win g sp 0 ev H = [] from rfl]
    refine (tot_none fun e he => ?_).symm
    have := hH e he
    simp only [inW, decide_eq_false_iff_not]
    omega
  | n + 1 => by
    have h1 : win g sp (n + 1) ev H = win g sp n ev H ++ [tot g (atB sp (H - (n : Nat))) ev] := by
      unfold win
      rw [List.range_succ, List.map_append]; rfl
    have hs : tot g (inW sp (H - ((n + 1 : Nat) : Int))) ev = tot g (inW sp (H - n)) ev + tot g (atB sp (H - (n : Nat))) ev := by
      refine tot_or fun e he => ?_
      simp only [inW, atB]
      constructor
      · by_cases h1 : H - (n : Int) < e.1 / sp
        · rw [decide_eq_true h1, decide_eq_true (by omega)]; rfl
        · by_cases h2 : e.1 / sp = H - (n : Int)
          · rw [decide_eq_true h2, decide_eq_true (by omega), Bool.or_true]
          · rw [decide_eq_false h1, decide_eq_false h2, decide_eq_false (by omega)]; rfl
      · by_cases h1 : H - (n : Int) < e.1 / sp
        · rw [decide_eq_true h1, decide_eq_false (by omega)]; rfl
        · rw [decide_eq_false h1]; rfl
    have h2 := win_total hH h0 hM n
    have h3 := hM (inW sp (H - ((n + 1 : Nat) : Int)))
    rw [hs] at h3 ⊢
    rw [h1]
    unfold totalL at h2 ⊢
    rw [List.foldl_append, h2]
    exact sat_exact (tot_pos h0) (tot_pos h0) h3
/-- a ring that has been fed with these -/
def ringOf (sp : Int) (n : Nat) (ev : List Ev) (H : Int) : RingD := (sp, H, win (fun _ => 1) sp n ev H, win Prod.snd sp n ev H)
/-- what is asked of the events: none after H, amounts that are money, and few -/
structure Fed (sp : Int) (ev : List Ev) (H : Int) : Prop where
  head : 0 ≤ H ∧ H ≤ 1000000000
  le : ∀ e ∈ ev, e.1 / sp ≤ H
  amt : ∀ e ∈ ev, 0 ≤ e.2 ∧ e.2 ≤ 1000
  few : ev.length ≤ 1000
set_option maxRecDepth 100000 in
theorem Fed.one {sp : Int} {ev : List Ev} {H : Int} (h : Fed sp ev H) (p : Ev → Bool) : 0 ≤ tot (fun _ => 1) p ev ∧ tot (fun _ => 1) p ev ≤ 1000 := by
  refine ⟨tot_pos fun _ _ => by omega, ?_⟩
  have h1 := tot_le (g := fun _ => 1) (p := p) (l := ev) (M := 1) fun _ _ => by omega
  have h2 := h.few
  omega
set_option maxRecDepth 100000 in
theorem Fed.two {sp : Int} {ev : List Ev} {H : Int} (h : Fed sp ev H) (p : Ev → Bool) : 0 ≤ tot Prod.snd p ev ∧ tot Prod.snd p ev ≤ 1000000 := by
  refine ⟨tot_pos fun e he => (h.amt e he).1, ?_⟩
  have h1 := tot_le (g := Prod.snd) (p := p) (l := ev) (M := 1000) h.amt
  have h2 := h.few
  omega
set_option maxRecDepth 100000 in
theorem Fed.ok {sp : Int} {n : Nat} {ev : List Ev} {H : Int} (h : Fed sp ev H) (s1 : 1 ≤ sp) (s2 : sp ≤ 1000) (n1 : 1 ≤ n) (n2 : n ≤ 8) : ringOk (ringOf sp n ev H) = true := by
  have a1 : inB sp 1 1000 = true := decide_eq_true ⟨s1, s2⟩
  have a2 : inB ((win (fun _ => 1) sp n ev H).length : Int) 1 8 = true := by rw [winB_len]; exact decide_eq_true (by omega)
  have a3 : decide ((win Prod.snd sp n ev H).length = (win (fun _ => 1) sp n ev H).length) = true := decide_eq_true (by rw [winB_len, winB_len])
  have a4 : timeB H = true := decide_eq_true h.head
  have a5 : (win (fun _ => 1) sp n ev H).all isMon = true := List.all_eq_true.2 fun x hx => by
    obtain ⟨i, -, rfl⟩ := List.mem_map.1 hx
    have := h.one (atB sp (H - (i : Nat)))
    simp only [isMon, Bool.and_eq_true, decide_eq_true_eq]; omega
  have a6 : (win Prod.snd sp n ev H).all isMon = true := List.all_eq_true.2 fun x hx => by
    obtain ⟨i, -, rfl⟩ := List.mem_map.1 hx
    have := h.two (atB sp (H - (i : Nat)))
    simp only [isMon, Bool.and_eq_true, decide_eq_true_eq]; omega
  show ((inB sp 1 1000 && (inB ((win (fun _ => 1) sp n ev H).length : Int) 1 8 && (decide ((win Prod.snd sp n ev H).length = (win (fun _ => 1) sp n ev H).length) && timeB H))) && ((win (fun _ => 1) sp n ev H).all isMon && (win Prod.snd sp n ev H).all isMon)) = true
  rw [a1, a2, a3, a4, a5, a6]; rfl
set_option maxRecDepth 100000 in
theorem Fed.up {sp : Int} {ev : List Ev} {H K : Int} (h : Fed sp ev H) (h1 : H ≤ K) (h2 : K ≤ 1000000000) : Fed sp ev K := ⟨⟨by have := h.head; omega, h2⟩, fun e he => by have := h.le e he; omega, h.amt, h.few⟩
set_option maxRecDepth 100000 in
theorem Fed.take {sp : Int} {ev : List Ev} {H : Int} (h : Fed sp ev H) (i : Nat) : Fed sp (ev.take i) H := ⟨h.head, fun e he => h.le e (List.mem_of_mem_take he), fun e he => h.amt e (List.mem_of_mem_take he), by rw [List.length_take]; have := h.few; omega⟩
set_option maxRecDepth 100000 in
/-- it rolls to where the time is, never back -/
theorem Fed.roll {sp : Int} {n : Nat} {ev : List Ev} {H : Int} (h : Fed sp ev H) (s1 : 1 ≤ sp) (s2 : sp ≤ 1000) (n1 : 1 ≤ n) (n2 : n ≤ 8) {now : Int} (t : timeB now = true) : ringRoll (ringOf sp n ev H) now = ringOf sp n ev (if H < now / sp then now / sp else H) := by
  have hgo : ringGo (ringOf sp n ev H) now = decide (H < now / sp) := by
    unfold ringGo
    rw [h.ok s1 s2 n1 n2, t]; rfl
  unfold ringRoll
  rw [hgo]
  by_cases hl : H < now / sp
  · rw [decide_eq_true hl, if_pos rfl, if_pos hl]
    show (sp, now / sp, shiftL (now / sp - H).toNat (win (fun _ => 1) sp n ev H), shiftL (now / sp - H).toNat (win Prod.snd sp n ev H)) = (sp, now / sp, win (fun _ => 1) sp n ev (now / sp), win Prod.snd sp n ev (now / sp))
    rw [win_shift _ h.le, win_shift _ h.le]
    have : H + ((now / sp - H).toNat : Int) = now / sp := by omega
    rw [this]
  · rw [decide_eq_false hl, if_neg Bool.false_ne_true, if_neg hl]
set_option maxRecDepth 100000 in
theorem time_of {t : Int} (h : timeB t = true) : 0 ≤ t ∧ t ≤ 1000000000 := by simpa [timeB, inB] using h
set_option maxRecDepth 100000 in
theorem time_div {t sp : Int} (h : timeB t = true) (s1 : 1 ≤ sp) : 0 ≤ t / sp ∧ t / sp ≤ 1000000000 := by
  have h1 := time_of h
  have l0 : 0 ≤ t / sp := Int.ediv_nonneg h1.1 (by omega)
  have l1 : t / sp ≤ t := Int.ediv_le_self sp h1.1
  omega
set_option maxRecDepth 100000 in
/-- one more -/
theorem Fed.add {sp : Int} {n : Nat} {ev : List Ev} {H : Int} (h : Fed sp ev H) (s1 : 1 ≤ sp) (s2 : sp ≤ 1000) (n1 : 1 ≤ n) (n2 : n ≤ 8) {t a : Int} (ht : timeB t = true) (hl : H ≤ t / sp) (ha0 : 0 ≤ a) (ha1 : a ≤ 1000) (hf : ev.length + 1 ≤ 1000) :
    ringAdd (ringOf sp n ev H) t a = ringOf sp n (ev ++ [(t, a)]) (t / sp) ∧ Fed sp (ev ++ [(t, a)]) (t / sp) := by
  have hd := time_div ht s1
  have hu := h.up hl hd.2
  have hF : Fed sp (ev ++ [(t, a)]) (t / sp) := by
    refine ⟨hd, fun e he => ?_, fun e he => ?_, by rw [List.length_append]; exact hf⟩
    · rcases List.mem_append.1 he with he | he
      · exact hu.le e he
      · rw [List.mem_singleton.1 he]; exact Int.le_refl _
    · rcases List.mem_append.1 he with he | he
      · exact h.amt e he
      · rw [List.mem_singleton.1 he]; exact ⟨ha0, ha1⟩
  refine ⟨?_, hF⟩
  have hr : ringRoll (ringOf sp n ev H) t = ringOf sp n ev (t / sp) := by
    rw [h.roll s1 s2 n1 n2 ht]
    congr 1
    split <;> omega
  unfold ringAdd ringIn
  have hm : isMon a = true := by simp only [isMon, Bool.and_eq_true, decide_eq_true_eq]; omega
  rw [h.ok s1 s2 n1 n2, ht, hm, hr, show (true && (true && true)) = true from rfl, if_pos rfl]
  simp only [ringOf]
  have q1 := hu.one (atB sp (t / sp))
  have q2 := hu.two (atB sp (t / sp))
  have e1 := win_add (g := fun _ => 1) (sp := sp) (n := n) (ev := ev) (e := (t, a)) (H := t / sp) n1 rfl (fun _ _ => by omega) (by omega) (by omega)
  have e2 := win_add (g := Prod.snd) (sp := sp) (n := n) (ev := ev) (e := (t, a)) (H := t / sp) n1 rfl (fun e he => (h.amt e he).1) ha0 (by show tot Prod.snd _ _ + a ≤ _; omega)
  rw [e1, e2]
set_option maxRecDepth 100000 in
/-- what it counts -/
theorem Fed.total {sp : Int} {n : Nat} {ev : List Ev} {H : Int} (h : Fed sp ev H) (s1 : 1 ≤ sp) (s2 : sp ≤ 1000) (n1 : 1 ≤ n) (n2 : n ≤ 8) {now : Int} (t : timeB now = true) (hl : H ≤ now / sp) (sums : Bool) :
    ringTotal (ringOf sp n ev H) now sums = if sums = true then tot Prod.snd (inW sp (now / sp - n)) ev else tot (fun _ => 1) (inW sp (now / sp - n)) ev := by
  have hd := time_div t s1
  have hu := h.up hl hd.2
  have hr : ringRoll (ringOf sp n ev H) now = ringOf sp n ev (now / sp) := by
    rw [h.roll s1 s2 n1 n2 t]
    congr 1
    split <;> omega
  unfold ringTotal
  rw [h.ok s1 s2 n1 n2, t, hr, show (true && true) = true from rfl, if_pos rfl]
  simp only [ringOf]
  cases sums
  · exact win_total hu.le (fun _ _ => by omega) (fun p => by have := hu.one p; omega) n
  · exact win_total hu.le (fun e he => (h.amt e he).1) (fun p => by have := hu.two p; omega) n
set_option maxRecDepth 100000 in
/-- before anything came -/
theorem fed_nil (sp : Int) : Fed sp [] 0 := ⟨by omega, fun _ h => by simp at h, fun _ h => by simp at h, by simp⟩
set_option maxRecDepth 100000 in
theorem ringOf_nil (sp : Int) (n : Nat) : ringOf sp n [] 0 = (sp, 0, List.replicate n 0, List.replicate n 0) := by
  unfold ringOf
  have h : ∀ g : Ev → Int, win g sp n [] 0 = List.replicate n 0 := fun g => by
    unfold win
    apply List.ext_getElem?
    intro i
    rw [List.getElem?_map, List.getElem?_replicate]
    by_cases hi : i < n
    · rw [List.getElem?_range hi, if_pos hi]; rfl
    · rw [if_neg hi, List.getElem?_eq_none (by simp; omega)]; rfl
  rw [h, h]
end Go.Proofs.YteogdfiaobccfaaDoor
