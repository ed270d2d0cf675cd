/- copy and clear over a row of structs of the call's own; no conditions. -/
import Derived.Test.YthnimmagaocipaaMrg2
import Derived.Laws.CopyRow
import Derived.Test.YthnimmagaocipaaMrg1
import Derived.Laws.IdiomCopy
import Derived.Lib.Bytealg
import Derived.Lib.SliceRun
import Derived.Shelf.Abstract
set_option linter.unusedVariables false
namespace Go.Proofs.Ythnimmagaocipaa
open Go.ChangeShapes Go.WideShapes Go.ChangeAt Go.RowKit

set_option maxRecDepth 100000 in
theorem flat_len {α : Type} {k : Nat} {enc : α → List Value} (hk : ∀ x, (enc x).length = k) (l : List α) : (l.flatMap enc).length = l.length * k := by
  induction l with
  | nil => simp
  | cons x l ih => rw [List.flatMap_cons, List.length_append, hk, ih, List.length_cons, Nat.add_mul]; omega
set_option maxRecDepth 100000 in
theorem flat_take {α : Type} {k : Nat} {enc : α → List Value} (hk : ∀ x, (enc x).length = k) (l : List α) : ∀ n : Nat, (l.flatMap enc).take (n * k) = (l.take n).flatMap enc := by
  induction l with
  | nil => intro n; simp
  | cons x l ih =>
    intro n
    cases n with
    | zero => simp
    | succ n =>
      rw [List.flatMap_cons, List.take_succ_cons, List.flatMap_cons, ← ih n, List.take_append, hk, List.take_of_length_le (by rw [hk, Nat.add_mul]; omega), Nat.add_mul, Nat.one_mul, Nat.add_sub_cancel]
set_option maxRecDepth 100000 in
theorem flat_drop {α : Type} {k : Nat} {enc : α → List Value} (hk : ∀ x, (enc x).length = k) (l : List α) : ∀ n : Nat, (l.flatMap enc).drop (n * k) = (l.drop n).flatMap enc := by
  induction l with
  | nil => intro n; simp
  | cons x l ih =>
    intro n
    cases n with
    | zero => simp
    | succ n =>
      rw [List.flatMap_cons, List.drop_succ_cons, ← ih n, List.drop_append, hk, List.drop_of_length_le (by rw [hk, Nat.add_mul]; omega), Nat.add_mul, Nat.one_mul, Nat.add_sub_cancel, List.nil_append]
set_option maxRecDepth 100000 in
theorem take_over {β : Type} (L M : List β) (a n : Nat) (h : a + M.length ≤ n) (hn : n ≤ L.length) : (L.take a ++ M ++ L.drop (a + M.length)).take n = (L.take n).take a ++ M ++ (L.take n).drop (a + M.length) := by
  have hX : (L.take a ++ M).length = a + M.length := by rw [List.length_append, List.length_take]; omega
  rw [List.take_append, List.take_of_length_le (by rw [hX]; exact h), hX, List.take_take, Nat.min_eq_left (by omega), List.drop_take]
set_option maxRecDepth 100000 in
/-- cells laid over such a row -/
theorem owE.over {α : Type} {T : TypeId} {k B g c : Nat} {enc : α → List Value} {w : World} {l : List α} (h : owE T k enc B w (.slice (some ⟨g, 0, none⟩) l.length c) l) (hk : ∀ x, (enc x).length = k) (m : List α) (d : Nat) (hd : d + m.length ≤ l.length) :
    ∃ cur : Array Value, w.heap[g]? = some (.cells cur T (0, 0)) ∧ d * k + (m.flatMap enc).length ≤ cur.size ∧ cur.toList.take (l.length * k) = l.flatMap enc ∧
      owE T k enc B (w.setRow g (cur.toList.take (d * k) ++ m.flatMap enc ++ cur.toList.drop (d * k + (m.flatMap enc).length)).toArray) (.slice (some ⟨g, 0, none⟩) l.length c) (l.take d ++ m ++ l.drop (d + m.length)) := by
  obtain ⟨h1, h2⟩ := h
  rcases h2 with ⟨h', _⟩ | ⟨g', cap, cur, h', hB, hg, hn, hm, hs, ht⟩
  · simp at h'
  simp only [Value.slice.injEq, Option.some.injEq, Addr.mk.injEq, and_true, true_and] at h'
  obtain ⟨rfl, rfl⟩ := h'
  have hml := flat_len hk m
  have hmul : (d + m.length) * k ≤ l.length * k := Nat.mul_le_mul_right k hd
  have hcap : l.length * k ≤ c * k := Nat.mul_le_mul_right k hn
  rw [Nat.add_mul] at hmul
  refine ⟨cur, hg, by omega, ht, ?_, Or.inr ⟨g, c, _, ?_, hB, setRow_heap w g cur _ T _ hg, ?_, hm, ?_, ?_⟩⟩
  · rw [flat_len hk]
  · have e : l.length = (l.take d ++ m ++ l.drop (d + m.length)).length := by
      simp only [List.length_append, List.length_take, List.length_drop]
      omega
    rw [← e]
  · simp only [List.length_append, List.length_take, List.length_drop]
    omega
  · simp only [List.size_toArray, List.length_append, List.length_take, List.length_drop, Array.length_toList]
    omega
  · have e : (l.take d ++ m ++ l.drop (d + m.length)).length = l.length := by
      simp only [List.length_append, List.length_take, List.length_drop]
      omega
    rw [e, take_over _ _ _ _ (by omega) (by simp; omega), ht, flat_take hk, hml, ← Nat.add_mul, flat_drop hk, List.flatMap_append, List.flatMap_append]
section
variable {P : Program} {ops : Array Oper} {rest : List Oper} {o : Oper} {a : Act} {Q : Exit → Act → World → Prop}
end
end Go.Proofs.Ythnimmagaocipaa
set_option linter.unusedVariables false
namespace Go.Proofs.Ythnimmagaocipaa
open Go.ChangeShapes Go.WideShapes Go.ChangeAt Go.RowKit

end Go.Proofs.Ythnimmagaocipaa
set_option linter.unusedVariables false
namespace Go.Proofs.Ythnimmagaocipaa
open Go.ChangeShapes Go.WideShapes Go.ChangeAt Go.RowKit

set_option maxRecDepth 100000 in
/-- element i of a row laid anew -/
theorem filled.put {w : World} {b off k n i m : Nat} {E E' : Nat → List Value} (h : filled w b off k n m E) (hi : i < n) (hE : ∀ j, j < m → (E j).length = k) (hE' : (E' i).length = k) (hs : ∀ j, j < m → j ≠ i → E' j = E j) : filled (setsAt w b (off + i * k) (E' i)) b off k n m E' := by
  have hik := mul_step (k := k) hi
  refine ⟨setsAt_room _ _ _ _ _ _ h.room, fun j hj => ?_⟩
  by_cases e : j = i
  · subst e
    exact setsAt_at _ _ _ _ (h.room.sub (by omega) (by omega))
  · rw [hs j hj e]
    have hl := hE j hj
    rcases Nat.lt_or_gt_of_ne e with h1 | h1
    · have hjk := mul_step (k := k) h1
      exact setsAt_far _ _ _ _ _ _ (h.at_ j hj) (.inl (by omega))
    · have hjk := mul_step (k := k) h1
      exact setsAt_far _ _ _ _ _ _ (h.at_ j hj) (.inr (by omega))
section
variable {P : Program} {ops : Array Oper} {rest : List Oper} {o : Oper} {a : Act} {Q : Exit → Act → World → Prop}
end
end Go.Proofs.Ythnimmagaocipaa
set_option linter.unusedVariables false
namespace Go.Proofs.Ythnimmagaocipaa
open Go.ChangeShapes Go.WideShapes Go.ChangeAt Go.RowKit

end Go.Proofs.Ythnimmagaocipaa
set_option linter.unusedVariables false
namespace Go.Proofs.Ythnimmagaocipaa
open Go.ChangeShapes Go.WideShapes Go.ChangeAt Go.RowKit

end Go.Proofs.Ythnimmagaocipaa
set_option linter.unusedVariables false
namespace Go.Proofs.Ythnimmagaocipaa
open Go.ChangeShapes Go.WideShapes Go.ChangeAt Go.RowKit

/-- the first account with this id -/
def findA (l : BookD) (id : ByteArray) : Int := match l.findIdx? (fun x => decide (aId x = id)) with | some i => (i : Int) | none => -1
set_option maxRecDepth 100000 in
theorem findA_none {l : BookD} {id : ByteArray} (h : ∀ x ∈ l, aId x ≠ id) : findA l id = -1 := by
  unfold findA
  rw [List.findIdx?_eq_none_iff.2 (fun x hx => by simpa using h x hx)]
set_option maxRecDepth 100000 in
theorem findA_some {l : BookD} {id : ByteArray} {i : Nat} {x : AcctD} (hx : l[i]? = some x) (he : aId x = id) (h : ∀ y ∈ l.take i, aId y ≠ id) : findA l id = (i : Int) := by
  obtain ⟨hi, rfl⟩ := List.getElem?_eq_some_iff.1 hx
  have h1 : l.findIdx? (fun x => decide (aId x = id)) = some i := by
    rw [List.findIdx?_eq_some_iff_getElem]
    refine ⟨hi, by simpa using he, fun j hj => ?_⟩
    have hm : l[j] ∈ l.take i := by rw [List.mem_take_iff_getElem]; exact ⟨j, by omega, rfl⟩
    simpa using h _ hm
  unfold findA
  rw [h1]
set_option maxRecDepth 100000 in
theorem takeA_next {l : BookD} {id : ByteArray} {i : Nat} {x : AcctD} (hx : l[i]? = some x) (he : aId x ≠ id) (h : ∀ y ∈ l.take i, aId y ≠ id) : ∀ y ∈ l.take (i + 1), aId y ≠ id := by
  obtain ⟨h5, h6⟩ := List.getElem?_eq_some_iff.1 hx
  rw [List.take_succ_eq_append_getElem h5, h6]
  intro y hy
  rcases List.mem_append.1 hy with hy | hy
  · exact h y hy
  · rw [List.mem_singleton.1 hy]; exact he
set_option maxRecDepth 100000 in
set_option maxHeartbeats 4000000 in
theorem specBookAt_any (hi : Nat) (v : Value) (l : BookD) (id : ByteArray) (w : World) (hn : l.length ≤ 1048576) (h : AcctsR.rd hi w [v] l) (hh : hi ≤ w.heap.size) :
    Calls Try.prog 6 #[.agg #[v], .string id] w fun e w' => e = .returned (.int .i64 (findA l id)) ∧ Below w.heap.size w w' := by
  obtain ⟨A, c, rfl, hc, h⟩ := accts_rd h
  have HR := Lib.hid h
  clear h
  have HB0 : Hid (Below w.heap.size w (w.alloc (.cells #[.slice A l.length c] 29))) := Lib.hid ((Below.refl _ _).alloc (Nat.le_refl _) _)
  go_enter Try.func6, Try.ntmps6
  go_wp2
  go_loopw [10] (fun iv wr => ∃ i : Nat, i ≤ l.length ∧ iv = .int .i64 i ∧ Hid (∀ y ∈ l.take i, aId y ≠ id) ∧ Hid (Below w.heap.size w wr) ∧ w.heap.size ≤ wr.heap.size) (fun iv _ => l.length - (intOf iv).toNat)
  case atStart => exact ⟨0, Nat.zero_le _, rfl, Lib.hid (by simp), HB0, HB0.out.size⟩
  case round =>
    obtain ⟨i, hi', rfl, HN, HB, hz⟩ := hrel
    by_cases hin : i < l.length
    · obtain ⟨x, hx⟩ : ∃ x, l[i]? = some x := ⟨_, List.getElem?_eq_getElem hin⟩
      obtain ⟨b, off, AH, cH, AC, cC, AS, cS, AL, cL, rfl, hbl, hat, hrd⟩ := HR.out i x hx
      have hat := hat.below HB.out (show b < w.heap.size by omega)
      obtain ⟨d0, d1, d2, d3, d4, d5, d6, d7, d8, d9, d10⟩ := hat.eleven
      have g1 : (i : Int) < (l.length : Int) := by omega
      have g2 : 0 ≤ (i : Int) := by omega
      have HB2 : Hid (∀ o, Below w.heap.size w (wr.alloc o)) := Lib.hid fun o => HB.out.alloc hz o
      have HYES := Lib.hid (fun he => findA_some hx he HN.out)
      have HNO := Lib.hid (fun he => takeA_next (id := id) hx he HN.out)
      clear hx hat hrd
      by_cases he : aId x = id
      · have hel : ((aId x).toList == id.toList) = true := by rw [he]; simp
        have HV := Lib.hid (HYES.out he)
        clear he
        go_wp2
        go_ret
        exact ⟨ret_int HV.out.symm, HB2.out _⟩
      · have hel : ((aId x).toList == id.toList) = false := by simpa using fun e => he (str_eq_list.1 e)
        have hel2 : ¬ (aId x).toList = id.toList := fun e => he (str_eq_list.1 e)
        have HN2 := Lib.hid (HNO.out he)
        clear he
        go_wp2
        go_roundw
        case rel => exact ⟨i + 1, by omega, by go_num, HN2, Lib.hid (HB2.out _), by simp; omega⟩
        case measure => simp [intOf] <;> omega
    · obtain rfl : i = l.length := by omega
      have HV : Hid (findA l id = -1) := Lib.hid (findA_none (by have := HN.out; rwa [List.take_length] at this))
      go_wp2
      go_ret
      exact ⟨ret_int HV.out.symm, HB.out⟩
set_option maxRecDepth 100000 in
theorem says_at (id : ByteArray) (B : Nat) (W : World) (x : AcctD) (vh vc vs vl : Value) (AH AC AS AL : Option Addr) (cH cC cS cL nH nC nS nL : Nat) (e1 : vh = .slice AH nH cH) (e2 : vc = .slice AC nC cC) (e3 : vs = .slice AS nS cS) (e4 : vl = .slice AL nL cL) (hb : bk W B 9 [.string id]) :
    Calls Try.prog 15 #[.agg #[.string (aId x), .int .i64 (aLim x), .int .i64 (aPos x), .int .i64 (aMost x), .int .i64 (aSum x), vh, .int .i64 (aR x).1, .int .i64 (aR x).2.1, vc, vs, vl], .pointer (some ⟨B, 0, none⟩)] W fun e w' => e = .returned (.bool (decide (aId x = id))) ∧ Below W.heap.size W w' := by
  subst e1 e2 e3 e4
  have HB0 : Hid (∀ o, Below W.heap.size W (W.alloc o)) := Lib.hid fun o => (Below.refl _ _).alloc (Nat.le_refl _) o
  have c0 : ∀ o, (W.alloc o).cell? ⟨B, 0, none⟩ = some (.string id) := fun o => (hb.alloc o).cell 0
  clear hb
  have HE : Hid (((aId x).toList == id.toList) = decide (aId x = id)) := Lib.hid (by
    by_cases h : aId x = id
    · rw [h]; simp
    · rw [decide_eq_false h]; simpa using fun e => h (str_eq_list.1 e))
  go_enter Try.func15, Try.ntmps15
  go_wp2
  go_ret
  exact ⟨ret_bool HE.out, HB0.out _⟩
set_option maxRecDepth 100000 in
set_option maxHeartbeats 4000000 in
theorem indexAccts_any (id : ByteArray) (B : Nat) (hi : Nat) (v : Value) (l : BookD) (w : World) (hbk : bk w B 9 [.string id]) (hn : l.length ≤ 1048576) (h : AcctsR.rd hi w [v] l) (hh : hi ≤ w.heap.size) :
    Calls Try.prog 14 #[v, .func (.func 15) #[] #[.pointer (some ⟨B, 0, none⟩)]] w fun e w' => e = .returned (.int .i64 (findA l id)) ∧ Below w.heap.size w w' := by
  obtain ⟨A, c, rfl, hc, h⟩ := accts_rd h
  have eg := Go.Proofs.enters_of Try.func15 (by kernel_rfl) rfl
  have HR := Lib.hid h
  have HK := Lib.hid hbk
  have hBw := hbk.lt
  clear h hbk
  go_enter Try.func14, Try.ntmps14
  go_wp2
  go_loopw [8] (fun iv wr => ∃ i : Nat, i ≤ l.length ∧ iv = .int .i64 i ∧ Hid (∀ y ∈ l.take i, aId y ≠ id) ∧ Hid (Below w.heap.size w wr) ∧ w.heap.size ≤ wr.heap.size) (fun iv _ => l.length - (intOf iv).toNat)
  case atStart => exact ⟨0, Nat.zero_le _, rfl, Lib.hid (by simp), Lib.hid (Below.refl _ _), Nat.le_refl _⟩
  case round =>
    obtain ⟨i, hi', rfl, HN, HB, hz⟩ := hrel
    by_cases hin : i < l.length
    · obtain ⟨x, hx⟩ : ∃ x, l[i]? = some x := ⟨_, List.getElem?_eq_getElem hin⟩
      obtain ⟨b, off, AH, cH, AC, cC, AS, cS, AL, cL, rfl, hbl, hat, hrd⟩ := HR.out i x hx
      have hat := hat.below HB.out (show b < w.heap.size by omega)
      obtain ⟨d0, d1, d2, d3, d4, d5, d6, d7, d8, d9, d10⟩ := hat.eleven
      have HC := Lib.hid (says_at id B wr x _ _ _ _ AH AC AS AL cH cC cS cL (aH x).length (aR x).2.2.1.length (aR x).2.2.2.length (aS x).length rfl rfl rfl rfl (HK.out.below HB.out hBw))
      have HYES := Lib.hid (fun he => findA_some hx he HN.out)
      have HNO := Lib.hid (fun he => takeA_next (id := id) hx he HN.out)
      clear hx hat hrd
      have g1 : (i : Int) < (l.length : Int) := by omega
      have g2 : 0 ≤ (i : Int) := by omega
      obtain ⟨px, hpx⟩ : ∃ px, px = decide (aId x = id) := ⟨_, rfl⟩
      rw [← hpx] at HC
      have HPX := Lib.hid hpx
      clear hpx
      go_wp2_with fail
      refine HC.out.mono ?_
      rintro e w1 ⟨rfl, hb1⟩
      have z1 := hb1.size
      have HB1 : Hid (Below w.heap.size w w1) := Lib.hid (HB.out.trans (hb1.mono (by omega)))
      clear hb1 d0 d1 d2 d3 d4 d5 d6 d7 d8 d9 d10
      cases px
      · have HN2 := Lib.hid (HNO.out (of_decide_eq_false HPX.out.symm))
        go_wp2
        go_roundw
        case rel => exact ⟨i + 1, by omega, by go_num, HN2, HB1, by omega⟩
        case measure => simp [intOf] <;> omega
      · have HV := Lib.hid (HYES.out (of_decide_eq_true HPX.out.symm))
        go_wp2
        go_ret
        exact ⟨ret_int HV.out.symm, HB1.out⟩
    · obtain rfl : i = l.length := by omega
      have HV : Hid (findA l id = -1) := Lib.hid (findA_none (by have := HN.out; rwa [List.take_length] at this))
      go_wp2
      go_ret
      exact ⟨ret_int HV.out.symm, HB.out⟩
set_option maxRecDepth 100000 in
set_option maxHeartbeats 1600000 in
theorem implBookAt_any (hi : Nat) (v : Value) (l : BookD) (id : ByteArray) (w : World) (hn : l.length ≤ 1048576) (h : AcctsR.rd hi w [v] l) (hh : hi ≤ w.heap.size) :
    Calls Try.prog 8 #[.agg #[v], .string id] w fun e w' => e = .returned (.int .i64 (findA l id)) ∧ Below w.heap.size w w' := by
  obtain ⟨A, c, rfl, hc⟩ := Rep.slice_form h
  obtain ⟨W, hW⟩ : ∃ W, W = (w.alloc (.cells #[.slice A l.length c] 29)).alloc (.cells #[.string id] 9) := ⟨_, rfl⟩
  have b1 : bk W (w.heap.size + 1) 9 [.string id] := by rw [hW]; simpa using bk.new (w.alloc _) _ _
  have b0 : bk W w.heap.size 29 [.slice A l.length c] := by rw [hW]; exact (bk.new w _ _).alloc _
  have HB0 : Hid (Below w.heap.size w W) := Lib.hid (by rw [hW]; exact ((Below.refl _ _).alloc (Nat.le_refl _) _).alloc (by simp) _)
  have HQ := Lib.hid (indexAccts_any id (w.heap.size + 1) hi _ l W b1 hn (Rep.below (R := AcctsR) h HB0.out hh) (Nat.le_trans hh HB0.out.size))
  have q0 := b0.cell 0
  simp only [List.getElem?_cons_zero] at q0
  clear h b0 b1
  go_enter Try.func8, Try.ntmps8
  go_upto_region 1 with fail
  rw [← hW]
  clear hW
  go_wp2_with fail
  refine HQ.out.mono ?_
  rintro e w2 ⟨rfl, hb2⟩
  have HB2 : Hid (Below w.heap.size w w2) := Lib.hid (HB0.out.trans (hb2.mono HB0.out.size))
  clear hb2
  go_wp2
  go_ret
  exact ⟨rfl, HB2.out⟩
end Go.Proofs.Ythnimmagaocipaa
