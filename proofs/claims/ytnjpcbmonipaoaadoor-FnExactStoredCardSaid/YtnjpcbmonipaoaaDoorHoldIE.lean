/- slices.DeleteFunc over holds; HoldDrop, LiveOnes of the program; no conditions. -/
import Derived.Test.YtnjpcbmonipaoaaDoorHoldID
import Derived.Test.YtnjpcbmonipaoaaDoorHoldIO
import Derived.Shelf.Abstract
set_option linter.unusedVariables false
namespace Go.Proofs.YtnjpcbmonipaoaaDoor
open Go.ChangeShapes Go.WideShapes Go.ChangeAt Go.RowKit

/-- the holds that stay -/
def staysP (p : HoldD → Bool) (l : List HoldD) : List HoldD := l.filter fun x => !p x
set_option maxRecDepth 100000 in
theorem stays_all {p : HoldD → Bool} {l : List HoldD} (h : ∀ x ∈ l, p x = false) : staysP p l = l := List.filter_eq_self.2 fun x hx => by rw [h x hx]; rfl
set_option maxRecDepth 100000 in
theorem stays_next {p : HoldD → Bool} {l : List HoldD} {j : Nat} {x : HoldD} (hx : l[j]? = some x) : staysP p (l.take (j + 1)) = if p x = true then staysP p (l.take j) else staysP p (l.take j) ++ [x] := by
  obtain ⟨hj, rfl⟩ := List.getElem?_eq_some_iff.1 hx
  unfold staysP
  rw [List.take_succ_eq_append_getElem hj, List.filter_append]
  cases hp : p l[j] <;> simp [hp]
set_option maxRecDepth 100000 in
theorem stays_len (p : HoldD → Bool) (l : List HoldD) : (staysP p l).length ≤ l.length := List.length_filter_le _ _
set_option maxRecDepth 100000 in
theorem findP_cases (p : HoldD → Bool) (l : List HoldD) : (findP p l = -1 ∧ ∀ x ∈ l, p x = false) ∨ ∃ (i : Nat) (x : HoldD), l[i]? = some x ∧ findP p l = (i : Int) ∧ p x = true ∧ ∀ y ∈ l.take i, p y = false := by
  unfold findP
  cases h : l.findIdx? p with
  | none => exact .inl ⟨rfl, List.findIdx?_eq_none_iff.1 h⟩
  | some i =>
    obtain ⟨hi, h1, h2⟩ := List.findIdx?_eq_some_iff_getElem.1 h
    refine .inr ⟨i, l[i], List.getElem?_eq_getElem hi, rfl, h1, fun y hy => ?_⟩
    obtain ⟨k, hk, rfl⟩ := List.mem_take_iff_getElem.1 hy
    have := h2 k (by omega)
    simpa using this
/-- n holds in block g, the first i of them those of l's first j that stay, from j on l's own -/
def cutH (p : HoldD → Bool) (l : List HoldD) (g i j : Nat) (w : World) : Prop := ∃ L : List HoldD, L.length = l.length ∧ L.take i = staysP p (l.take j) ∧ L.drop j = l.drop j ∧ i < j ∧ j ≤ l.length ∧ filled w g 0 3 l.length l.length fun k => hCells (L.getD k noH)
set_option maxRecDepth 100000 in
theorem cutH.keep {p : HoldD → Bool} {l : List HoldD} {g i j : Nat} {w w' : World} (h : cutH p l g i j w) (hk : w'.heap[g]? = w.heap[g]?) : cutH p l g i j w' := by
  obtain ⟨L, h1, h2, h3, h4, h5, h6⟩ := h
  exact ⟨L, h1, h2, h3, h4, h5, h6.keep hk⟩
set_option maxRecDepth 100000 in
theorem cutH.lt {p : HoldD → Bool} {l : List HoldD} {g i j : Nat} {w : World} (h : cutH p l g i j w) : i < j ∧ j ≤ l.length := by
  obtain ⟨L, h1, h2, h3, h4, h5, h6⟩ := h
  exact ⟨h4, h5⟩
set_option maxRecDepth 100000 in
theorem cutH.start {p : HoldD → Bool} {l : List HoldD} {g i : Nat} {w : World} {x : HoldD} (hx : l[i]? = some x) (he : p x = true) (h : ∀ y ∈ l.take i, p y = false) (hr : filled w g 0 3 l.length l.length fun k => hCells (l.getD k noH)) : cutH p l g i (i + 1) w := by
  have hi := (List.getElem?_eq_some_iff.1 hx).1
  refine ⟨l, rfl, ?_, rfl, by omega, by omega, hr⟩
  rw [stays_next hx, if_pos he, stays_all h]
set_option maxRecDepth 100000 in
/-- the next element, as it lies -/
theorem cutH.next {p : HoldD → Bool} {l : List HoldD} {g i j : Nat} {w : World} (h : cutH p l g i j w) {x : HoldD} (hx : l[j]? = some x) : w.cell? ⟨g, j * 3, none⟩ = some (.string x.1) ∧ w.cell? ⟨g, j * 3 + 1, none⟩ = some (.int .i64 x.2.1) ∧ w.cell? ⟨g, j * 3 + 2, none⟩ = some (.int .i64 x.2.2) := by
  obtain ⟨L, h1, h2, h3, h4, h5, h6⟩ := h
  have hj := (List.getElem?_eq_some_iff.1 hx).1
  have e : L[j]? = some x := by
    have e1 : L[j]? = (L.drop j)[0]? := by rw [List.getElem?_drop, Nat.add_zero]
    rw [e1, h3, List.getElem?_drop, Nat.add_zero, hx]
  have ha := h6.at_ j hj
  have e2 : L.getD j noH = x := by rw [List.getD_eq_getElem?_getD, e]; rfl
  rw [e2, Nat.zero_add] at ha
  exact ⟨ha 0 _ rfl, ha 1 _ rfl, ha 2 _ rfl⟩
set_option maxRecDepth 100000 in
/-- the place that is written, as it lies -/
theorem cutH.place {p : HoldD → Bool} {l : List HoldD} {g i j : Nat} {w : World} (h : cutH p l g i j w) : ∀ t, t < 3 → (∃ u, w.cell? ⟨g, i * 3 + t, none⟩ = some u) ∧ w.frozen? ⟨g, i * 3 + t, none⟩ = false := by
  obtain ⟨L, h1, h2, h3, h4, h5, h6⟩ := h
  intro t ht
  have := h6.cells (show i < l.length by omega) t ht
  rwa [Nat.zero_add] at this
set_option maxRecDepth 100000 in
theorem cutH.skip {p : HoldD → Bool} {l : List HoldD} {g i j : Nat} {w : World} (h : cutH p l g i j w) {x : HoldD} (hx : l[j]? = some x) (hp : p x = true) : cutH p l g i (j + 1) w := by
  obtain ⟨L, h1, h2, h3, h4, h5, h6⟩ := h
  have hj := (List.getElem?_eq_some_iff.1 hx).1
  refine ⟨L, h1, ?_, ?_, by omega, by omega, h6⟩
  · rw [stays_next hx, if_pos hp]; exact h2
  · rw [← List.drop_drop, h3, List.drop_drop]
set_option maxRecDepth 100000 in
theorem cutH.stay {p : HoldD → Bool} {l : List HoldD} {g i j : Nat} {w : World} (h : cutH p l g i j w) {x : HoldD} (hx : l[j]? = some x) (hp : p x = false) : cutH p l g (i + 1) (j + 1) (setsAt w g (i * 3) (hCells x)) := by
  obtain ⟨L, h1, h2, h3, h4, h5, h6⟩ := h
  have hj := (List.getElem?_eq_some_iff.1 hx).1
  have hi : i < L.length := by omega
  refine ⟨L.set i x, by simpa using h1, ?_, ?_, by omega, by omega, ?_⟩
  · rw [stays_next hx, if_neg (by rw [hp]; exact Bool.false_ne_true), ← h2, List.take_succ_eq_append_getElem (by simpa using hi), List.getElem_set_self]
    congr 1
    rw [List.take_set_of_le (Nat.le_refl _)]
  · rw [List.drop_set_of_lt (by omega), ← List.drop_drop, h3, List.drop_drop]
  · have e : hCells ((L.set i x).getD i noH) = hCells x := by rw [List.getD_eq_getElem?_getD, List.getElem?_set_self hi]; rfl
    have := h6.put (E' := fun k => hCells ((L.set i x).getD k noH)) (show i < l.length by omega) (fun _ _ => rfl) rfl (fun j _ hne => by
      show hCells _ = hCells _
      rw [List.getD_eq_getElem?_getD, List.getD_eq_getElem?_getD, List.getElem?_set_ne (fun e => hne e.symm)])
    rw [Nat.zero_add] at this
    simp only [e] at this
    exact this
set_option maxRecDepth 100000 in
theorem cutH.tail {p : HoldD → Bool} {l : List HoldD} {g i j : Nat} {w : World} (h : cutH p l g i j w) : roomL w g (i * 3) ((l.length - i) * 3) := by
  obtain ⟨L, h1, h2, h3, h4, h5, h6⟩ := h
  exact h6.room.sub (by omega) (by omega)
set_option maxRecDepth 100000 in
theorem cutH.done {p : HoldD → Bool} {l : List HoldD} {g i : Nat} {w : World} (h : cutH p l g i l.length w) (us : List Value) : i = (staysP p l).length ∧ filled (setsAt w g (i * 3) us) g 0 3 i i fun k => hCells ((staysP p l).getD k noH) := by
  obtain ⟨L, h1, h2, h3, h4, h5, h6⟩ := h
  rw [List.take_length] at h2
  have e : i = (staysP p l).length := by rw [← h2, List.length_take]; omega
  have hf := h6.ahead (i := i) (by omega) (fun _ _ => rfl) us
  refine ⟨e, hf.room, fun k hk => ?_⟩
  have hk2 : (staysP p l).getD k noH = L.getD k noH := by rw [← h2, List.getD_eq_getElem?_getD, List.getD_eq_getElem?_getD, List.getElem?_take, if_pos hk]
  show atL _ _ _ (hCells _)
  rw [hk2]
  exact hf.at_ k hk
set_option maxRecDepth 100000 in
theorem nil_own {lo hi : Nat} {w : World} (l : List HoldD) (A : Option Addr) (c : Nat) (h : l.length = 0) : HoldsR.mine lo hi w [.slice A l.length c] l := by
  obtain rfl := List.eq_nil_of_length_eq_zero h
  exact ⟨[], ⟨A, c, rfl, Nat.zero_le _, .inl ⟨rfl, rfl⟩⟩, List.nodup_nil, by simp⟩
set_option maxRecDepth 100000 in
theorem infoHold2 : (Tryd.prog.info? 34).map (fun i => (i.zero.map (·.cells), i.size)) = some (some #[.string ⟨#[]⟩, .int .i64 0, .int .i64 0], 3) := by kernel_rfl
set_option maxRecDepth 100000 in
set_option maxHeartbeats 1600000 in
theorem deleteHolds_any (g0 : Nat) (lb : Array Value) (B : Nat) (t : TypeId) (cs : List Value) (p : HoldD → Bool) (A : Option Addr) (c : Nat) (l : List HoldD) (base : Nat) (w : World) (hp : saysH g0 lb B t cs p) (eg : ∀ args w, (callFunc g0 args).run Tryd.prog w = .ok (.enter g0 args) w) (hbk : bk w B t cs) (hB : B < base) (hn : l.length ≤ 1048576) (ho : owE 34 3 hCells base w (.slice A l.length c) l) (hbase : base ≤ w.heap.size) :
    Calls Tryd.prog 25 #[.slice A l.length c, .func (.func g0) #[] lb] w fun e w' => ∃ u, e = .returned u ∧ HoldsR.mine base w'.heap.size w' [u] (staysP p l) ∧ Below base w w' := by
  have HIX := Lib.hid (indexHolds_any g0 lb B t cs p w.heap.size _ l w hp eg hbk hn (owE_holds ho).rd (Nat.le_refl _))
  have HP := Lib.hid hp
  have HOW := Lib.hid ho
  have hBw := hbk.lt
  have HBK := Lib.hid hbk
  have hfi := ho.filled (fun _ => rfl) noH
  clear hp hbk ho
  rcases findP_cases p l with ⟨hv, hall⟩ | ⟨i0, x0, hx0, hv, hpx, hall⟩
  · have HST : Hid (staysP p l = l) := Lib.hid (stays_all hall)
    rw [hv] at HIX
    clear hfi hall hv
    go_enter Tryd.func25, Tryd.ntmps25
    go_wp2_with fail
    refine HIX.out.mono ?_
    rintro e w1 ⟨rfl, hb1⟩
    have HB1 : Hid (Below w.heap.size w w1) := Lib.hid hb1
    have HO1 := Lib.hid (HOW.out.below hb1 (Nat.le_refl _))
    clear hb1
    go_wp2
    go_ret
    exact ⟨_, rfl, by rw [HST.out]; exact owE_holds HO1.out, HB1.out.mono hbase⟩
  obtain ⟨g, rfl, hc, hgb, hgw, hfl⟩ : ∃ g, A = some ⟨g, 0, none⟩ ∧ l.length ≤ c ∧ base ≤ g ∧ g < w.heap.size ∧ filled w g 0 3 l.length l.length fun j => hCells (l.getD j noH) := by
    rcases hfi with ⟨rfl, -⟩ | ⟨b, c', e, h1, h2, h3, h4⟩
    · simp at hx0
    · simp only [Value.slice.injEq, true_and] at e
      obtain ⟨rfl, rfl⟩ := e
      exact ⟨b, rfl, h1, h2, h3, h4⟩
  have hi0 : i0 < l.length := (List.getElem?_eq_some_iff.1 hx0).1
  have HC0 := Lib.hid (cutH.start hx0 hpx hall hfl)
  rw [hv] at HIX
  clear hfi hfl hx0 hall hv HOW hpx
  have gm : ((i0 : Int) == -1) = false := beq_eq_false_iff_ne.2 (by omega)
  go_enter Tryd.func25, Tryd.ntmps25
  go_wp2_with fail
  refine HIX.out.mono ?_
  rintro e w1 ⟨rfl, hb1⟩
  have HB1 : Hid (Below base w w1) := Lib.hid (hb1.mono hbase)
  have HC1 := Lib.hid (HC0.out.keep (hb1.block g hgw))
  have HK1 := Lib.hid (HBK.out.below hb1 hBw)
  have z1 := hb1.size
  clear hb1 HC0
  go_wp2
  go_loopw [5, 6, 7] (fun iv jv _ wr => ∃ i j : Nat, i < j ∧ j ≤ l.length ∧ iv = .int .i64 i ∧ jv = .int .i64 j ∧ Hid (cutH p l g i j wr) ∧ Hid (bk wr B t cs) ∧ Hid (Below base w wr) ∧ w.heap.size ≤ wr.heap.size) (fun _ jv _ _ => l.length - (intOf jv).toNat)
  case atStart => exact ⟨i0, i0 + 1, by omega, by omega, rfl, by go_num, HC1, HK1, HB1, z1⟩
  case round =>
    obtain ⟨i, j, hij, hjl, rfl, rfl, HC, HK, HB, hz⟩ := hrel
    by_cases hin : j < l.length
    · obtain ⟨x, hx⟩ : ∃ x, l[j]? = some x := ⟨_, List.getElem?_eq_getElem hin⟩
      obtain ⟨c0, c1, c2⟩ := HC.out.next hx
      have HSK := Lib.hid (fun W (h : cutH p l g i j W) hpx => h.skip hx hpx)
      have HSY := Lib.hid (fun W (h : cutH p l g i j W) hpx => h.stay hx hpx)
      have HP2 := Lib.hid (fun W (h : bk W B t cs) => HP.out W x h)
      clear hx
      have g1 : (j : Int) < (l.length : Int) := by omega
      have g2 : 0 ≤ (j : Int) := by omega
      have g3 : (i : Int) < (l.length : Int) := by omega
      have g4 : 0 ≤ (i : Int) := by omega
      generalize p x = px at HSK HSY HP2
      go_upto_region 8 with fail
      obtain ⟨W, hW⟩ : ∃ W, W = wr.alloc (.cells #[.string x.1, .int .i64 x.2.1, .int .i64 x.2.2] 34) := ⟨_, rfl⟩
      have b0 : bk W wr.heap.size 34 [.string x.1, .int .i64 x.2.1, .int .i64 x.2.2] := by rw [hW]; exact bk.new wr _ _
      have HB0 : Hid (Below base w W) := Lib.hid (by rw [hW]; exact HB.out.alloc (by omega) _)
      have HC2 : Hid (cutH p l g i j W) := Lib.hid (HC.out.keep (by rw [hW]; exact Below.heap_alloc _ _ _ (by omega)))
      have HK2 : Hid (bk W B t cs) := Lib.hid (by rw [hW]; exact HK.out.alloc _)
      have z0 := b0.lt
      rw [← hW]
      clear hW c0 c1 c2
      obtain ⟨p0, p1, p2⟩ := b0.cells3
      go_wp2_with fail
      refine (HP2.out W HK2.out).mono ?_
      rintro e w2 ⟨rfl, hb2⟩
      have z2 := hb2.size
      have HB2 : Hid (Below base w w2) := Lib.hid (HB0.out.trans (hb2.mono (by omega)))
      have HC3 : Hid (cutH p l g i j w2) := Lib.hid (HC2.out.keep (hb2.block _ (by omega)))
      have HK3 := Lib.hid (HK2.out.below hb2 (by omega))
      replace b0 := b0.below hb2 z0
      clear hb2 p0 p1 p2 HC HK HB HB0 HC2 HK2
      obtain ⟨p0, p1, p2⟩ := b0.cells3
      cases px
      · obtain ⟨⟨u0, d0⟩, f0⟩ := HC3.out.place 0 (by omega)
        obtain ⟨⟨u1, d1⟩, f1⟩ := HC3.out.place 1 (by omega)
        obtain ⟨⟨u2, d2⟩, f2⟩ := HC3.out.place 2 (by omega)
        simp only [Nat.add_zero] at d0 f0
        have HC4 := Lib.hid (HSY.out w2 HC3.out rfl)
        clear b0
        go_wp2
        go_roundw
        case rel => exact ⟨i + 1, j + 1, by omega, by omega, by go_num, by go_num, HC4, Lib.hid (((HK3.out.far (p := ⟨g, _, none⟩) (by simp; omega) _).far (p := ⟨g, _, none⟩) (by simp; omega) _).far (p := ⟨g, _, none⟩) (by simp; omega) _), Lib.hid (((HB2.out.setCell (p := ⟨g, _, none⟩) hgb _).setCell (p := ⟨g, _, none⟩) hgb _).setCell (p := ⟨g, _, none⟩) hgb _), by simp [World.setCell]; omega⟩
        case measure => simp [intOf] <;> omega
      · have HC4 := Lib.hid (HSK.out w2 HC3.out rfl)
        go_wp2
        go_roundw
        case rel => exact ⟨i, j + 1, by omega, by omega, rfl, by go_num, HC4, HK3, HB2, by omega⟩
        case measure => simp [intOf] <;> omega
    · obtain rfl : j = l.length := by omega
      have g3 : (i : Int) < (l.length : Int) := by omega
      have g4 : 0 ≤ (i : Int) := by omega
      go_wp2_with (refine wpList_clear_tail hCells 3 (fun _ => rfl) hCells_one rfl _ _ rfl 34 Tryd.underlying25 #[.string ⟨#[]⟩, .int .i64 0, .int .i64 0] infoHold2 noH rfl wr g (i * 3) (l.length - i) (c - i) HC.out.tail (by omega) rfl ?_)
      · obtain ⟨us, hus⟩ : ∃ us, us = (List.replicate (l.length - i) noH).flatMap hCells := ⟨_, rfl⟩
        rw [← hus]
        obtain ⟨he, hf⟩ := HC.out.done us
        have ht := setsAt_turned us wr g (i * 3) (Turned.refl g (g + 1) wr) (Nat.le_refl _) (by omega)
        have hsz := ht.size
        have HF := Lib.hid hf
        have HE := Lib.hid he
        have HBW : Hid (Below base w (setsAt wr g (i * 3) us)) := Lib.hid (HB.out.trans (setsAt_below us wr g (i * 3) (Below.refl _ _) hgb))
        generalize setsAt wr g (i * 3) us = wf at HF HBW hsz
        clear hf he ht hus HC HB HK
        go_wp2
        go_ret
        exact ⟨_, rfl, holds_mine HE.out (by omega) hgb (by omega) HF.out, HBW.out⟩
set_option maxRecDepth 100000 in
theorem stays_drop (l : List HoldD) (id : ByteArray) : staysP (fun x => decide (x.1 = id)) l = dropL l id := by
  unfold staysP dropL
  congr 1
  funext x
  simp
set_option maxRecDepth 100000 in
theorem stays_live (l : List HoldD) (now : Int) : staysP (fun x => !live now x) l = liveL l now := by
  unfold staysP liveL
  congr 1
  funext x
  simp
set_option maxRecDepth 100000 in
theorem says_live (now : Int) (B : Nat) : saysH 27 #[.pointer (some ⟨B, 0, none⟩)] B 3 [.int .i64 now] (fun x => !live now x) := by
  intro W x hb
  show Calls Tryd.prog 27 #[.agg #[.string x.1, .int .i64 x.2.1, .int .i64 x.2.2], .pointer (some ⟨B, 0, none⟩)] W _
  have HB0 : Hid (Below W.heap.size W (W.alloc (.cells #[.string x.1, .int .i64 x.2.1, .int .i64 x.2.2] 34))) := Lib.hid ((Below.refl _ _).alloc (Nat.le_refl _) _)
  have c0 : (W.alloc (.cells #[.string x.1, .int .i64 x.2.1, .int .i64 x.2.2] 34)).cell? ⟨B, 0, none⟩ = some (.int .i64 now) := (hb.alloc _).cell 0
  clear hb
  have HL := Lib.hid (fun V => implLive_any x now V)
  go_enter Tryd.func27, Tryd.ntmps27
  go_wp2_with fail
  refine (HL.out _).mono ?_
  rintro e w1 ⟨rfl, hb1⟩
  have HB1 : Hid (Below W.heap.size W w1) := Lib.hid (HB0.out.trans (hb1.mono (by simp)))
  clear hb1
  go_wp2
  go_ret
  exact ⟨rfl, HB1.out⟩
set_option maxRecDepth 100000 in
theorem implLiveOnes_any (hi : Nat) (v : Value) (l : List HoldD) (now : Int) (w : World) (hn : l.length ≤ 1048576) (h : HoldsR.rd hi w [v] l) (hh : hi ≤ w.heap.size) :
    Calls Tryd.prog 18 #[v, .int .i64 now] w (holdsOne (liveL l now) w) := by
  obtain ⟨W, hW⟩ : ∃ W, W = w.alloc (.cells #[.int .i64 now] 3) := ⟨_, rfl⟩
  have b0 : bk W w.heap.size 3 [.int .i64 now] := by rw [hW]; exact bk.new w _ _
  have HB0 : Hid (Below w.heap.size w W) := Lib.hid (by rw [hW]; exact (Below.refl _ _).alloc (Nat.le_refl _) _)
  have z0 := b0.lt
  have HCL := Lib.hid (cloneHolds_any hi v l W hn (Rep.below (R := HoldsR) h HB0.out hh) (Nat.le_trans hh HB0.out.size))
  have eg := Go.Proofs.enters_of Tryd.func27 (by kernel_rfl) rfl
  have HB := Lib.hid b0
  clear h b0
  go_enter Tryd.func18, Tryd.ntmps18
  go_upto_region 1 with fail
  rw [← hW]
  clear hW
  go_wp2_with fail
  refine HCL.out.mono ?_
  rintro e w1 ⟨A, c, rfl, ho, hb1⟩
  have z1 := hb1.size
  have HDL := Lib.hid (deleteHolds_any _ _ w.heap.size 3 [.int .i64 now] _ A c l W.heap.size w1 (says_live now w.heap.size) eg (HB.out.below hb1 z0) z0 hn ho z1)
  have HB1 : Hid (Below w.heap.size w w1) := Lib.hid (HB0.out.trans (hb1.mono (by omega)))
  clear ho hb1 HCL HB HB0
  go_wp2_with fail
  refine HDL.out.mono ?_
  rintro e w2 ⟨u, rfl, hm, hb2⟩
  have HM := Lib.hid hm
  have HB2 : Hid (Below w.heap.size w w2) := Lib.hid (HB1.out.trans (hb2.mono (by omega)))
  clear hm hb2 HDL HB1
  go_wp2
  go_ret
  exact ⟨_, rfl, by rw [← stays_live]; exact HM.out.mono (by omega) (Nat.le_refl _), HB2.out⟩
end Go.Proofs.YtnjpcbmonipaoaaDoor
