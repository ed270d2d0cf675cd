/- Maps from numbers to texts: what one holds, its keys collected and sorted, a look-up. No conditions. -/
import Derived.Test.YtiolebpoofkpmaaGreatDoorMrp8
import Derived.Test.YtiolebpoofkpmaaGreatDoorMrp17
import Derived.Maps.StringElems
import Derived.Test.YtiolebpoofkpmaaGreatDoorMrp16
import Derived.Test.YtiolebpoofkpmaaGreatDoorMrp19
import Derived.Test.YtiolebpoofkpmaaGreatDoorShelf
import Derived.Sort.OwnSortedInts
import Derived.Maps.RangeWalk
import Derived.Deep.RegionHeld3
import Derived.Carry
set_option linter.unusedVariables false
namespace Go.Proofs.YtiolebpoofkpmaaGreatDoor
open Go.ChangeShapes Go.WideShapes Go.ChangeAt Go.RowKit
open Go.Maps (Keyed IsMap)

/-- the map as read holds just the pairs of the list -/
structure mapIs (D : DataW Unit) (L : List FieldD) : Prop where
  isMap : IsMap D
  has_ : ∀ k : Int, Maps.has D (.int .i64 k) = fldHas L k
  at_ : ∀ x ∈ L, ∀ z, D.atKey (.int .i64 x.1) z = .lit (.string x.2.data.toList)
set_option maxRecDepth 100000 in
theorem mapIs.start : mapIs (.map [] : DataW Unit) [] := ⟨Maps.isMap_empty, fun k => rfl, fun x hx => absurd hx (by simp)⟩
set_option maxRecDepth 100000 in
theorem keyLit (k : Int) : WideAt.IsKeyLit (.int .i64 k) := by simp [WideAt.IsKeyLit]
set_option maxRecDepth 100000 in
theorem lit_ne {a b : Int} (h : a ≠ b) : (Lit.int .i64 a) ≠ .int .i64 b := fun e => h (by cases e; rfl)
set_option maxRecDepth 100000 in
/-- a pair with a new key comes behind -/
theorem mapIs.snoc {D : DataW Unit} {L : List FieldD} (h : mapIs D L) {x : FieldD} (hx : ∀ y ∈ L, y.1 ≠ x.1) : mapIs (D.put (.int .i64 x.1) (.lit (.string x.2.data.toList))) (L ++ [x]) := by
  refine ⟨h.isMap.put _ _, fun k => ?_, fun y hy z => ?_⟩
  · unfold fldHas
    rw [List.any_append]
    by_cases e : k = x.1
    · subst e
      rw [Maps.has_put_same h.isMap (keyLit _)]
      simp
    · rw [Maps.has_put_other (lit_ne e), h.has_ k]
      have : ¬ x.1 = k := fun g => e g.symm
      simp [fldHas, this]
  · rcases List.mem_append.1 hy with hy | hy
    · rw [Maps.atKey_put_other (lit_ne (hx y hy))]
      exact h.at_ y hy z
    · obtain rfl : y = x := by simpa using hy
      exact Maps.atKey_put_same h.isMap (keyLit _) _ _
set_option maxRecDepth 100000 in
/-- a pair is put; the list is any that holds the same -/
theorem mapIs.put {D : DataW Unit} {L L' : List FieldD} (h : mapIs D L) (no : Int) (s : ByteArray) (hm : ∀ x, x ∈ L' ↔ x = (no, s) ∨ (x ∈ L ∧ x.1 ≠ no)) : mapIs (D.put (.int .i64 no) (.lit (.string s.data.toList))) L' := by
  refine ⟨h.isMap.put _ _, fun k => ?_, fun y hy z => ?_⟩
  · rw [Bool.eq_iff_iff]
    by_cases e : k = no
    · subst e
      rw [Maps.has_put_same h.isMap (keyLit _)]
      unfold fldHas
      rw [List.any_eq_true]
      exact ⟨fun _ => ⟨(k, s), (hm _).2 (Or.inl rfl), by simp⟩, fun _ => rfl⟩
    · rw [Maps.has_put_other (lit_ne e), h.has_ k]
      unfold fldHas
      rw [List.any_eq_true, List.any_eq_true]
      constructor
      · rintro ⟨x, hx, hk⟩
        have hk' : x.1 = k := by simpa using hk
        exact ⟨x, (hm x).2 (Or.inr ⟨hx, fun g => e (by rw [← hk', g])⟩), hk⟩
      · rintro ⟨x, hx, hk⟩
        have hk' : x.1 = k := by simpa using hk
        rcases (hm x).1 hx with rfl | hx
        · exact absurd hk'.symm e
        · exact ⟨x, hx.1, hk⟩
  · rcases (hm y).1 hy with rfl | hy
    · exact Maps.atKey_put_same h.isMap (keyLit _) _ _
    · rw [Maps.atKey_put_other (lit_ne hy.2)]
      exact h.at_ y hy.1 z
/-- the keys met so far -/
def metI (D : DataW Unit) (left : Lit → Bool) (zs : List Int) : Prop := zs.Nodup ∧ ∀ x, x ∈ zs ↔ (Maps.has D (.int .i64 x) = true ∧ left (.int .i64 x) = false)
set_option maxRecDepth 100000 in
theorem metI.start (D : DataW Unit) : metI D (Maps.has D) [] := ⟨List.nodup_nil, fun x => ⟨fun h => absurd h (by simp), fun h => by rw [h.1] at h; exact absurd h.2 (by simp)⟩⟩
set_option maxRecDepth 100000 in
theorem metI.step {D d : DataW Unit} {left : Lit → Bool} {zs : List Int} {x : Int} (h : metI D left zs) (hl : left (.int .i64 x) = true) (hat : ∀ zd, D.atKey (.int .i64 x) zd = d) :
    metI D (fun z => left z && !z.sameKey (.int .i64 x)) (zs ++ [x]) := by
  have hn : x ∉ zs := fun hx => by rw [((h.2 x).1 hx).2] at hl; cases hl
  refine ⟨?_, fun y => ?_⟩
  · rw [List.nodup_append]
    exact ⟨h.1, by simp, fun a ha b hb e => hn (by rw [List.mem_singleton.1 hb] at e; rw [← e]; exact ha)⟩
  · rw [List.mem_append, List.mem_singleton, h.2 y]
    by_cases e : y = x
    · subst e
      show _ ↔ _ ∧ (left (.int .i64 y) && !(Lit.int .i64 y).sameKey (.int .i64 y)) = false
      rw [WideAt.sameKey_self (keyLit _)]
      exact ⟨fun _ => ⟨Maps.has_true_of_atKey hat, by simp⟩, fun _ => Or.inr rfl⟩
    · show _ ↔ _ ∧ (left (.int .i64 y) && !(Lit.int .i64 y).sameKey (.int .i64 x)) = false
      rw [Maps.sameKey_ne (lit_ne e)]
      simp [e]
set_option maxRecDepth 100000 in
theorem asc_keys {L : List FieldD} (h : asc L) : (L.map (·.1)).Pairwise (fun a b => a < b) := by
  rw [List.pairwise_map]; exact h
set_option maxRecDepth 100000 in
theorem mem_has {L : List FieldD} {k : Int} : k ∈ L.map (·.1) ↔ fldHas L k = true := by
  unfold fldHas
  rw [List.any_eq_true, List.mem_map]
  exact ⟨fun ⟨x, hx, he⟩ => ⟨x, hx, by simpa using he⟩, fun ⟨x, hx, he⟩ => ⟨x, hx, by simpa using he⟩⟩
set_option maxRecDepth 100000 in
/-- sorted, the keys are the list's own -/
theorem sorted_keys {L : List FieldD} (h : asc L) {zs : List Int} (hn : zs.Nodup) (hm : ∀ x, x ∈ zs ↔ fldHas L x = true) : zs.mergeSort (fun x y => decide (x ≤ y)) = L.map (·.1) := by
  have hk := asc_keys h
  have hnd : (L.map (·.1)).Nodup := hk.imp (fun {a b} hab e => by omega)
  have hp : zs.Perm (L.map (·.1)) := (List.perm_ext_iff_of_nodup hn hnd).2 fun x => by rw [hm x, mem_has]
  have tr : ∀ a b c : Int, decide (a ≤ b) = true → decide (b ≤ c) = true → decide (a ≤ c) = true := fun a b c h1 h2 => by simp only [decide_eq_true_eq] at *; omega
  have tl : ∀ a b : Int, (decide (a ≤ b) || decide (b ≤ a)) = true := fun a b => by simp only [Bool.or_eq_true, decide_eq_true_eq]; omega
  refine List.Perm.eq_of_pairwise (le := fun a b => decide (a ≤ b) = true) (fun a b _ _ h1 h2 => ?_) (List.pairwise_mergeSort tr tl zs) (hk.imp fun {a b} hab => by simp only [decide_eq_true_eq]; omega) ((List.mergeSort_perm zs _).trans hp)
  simp only [decide_eq_true_eq] at h1 h2
  omega
set_option maxRecDepth 100000 in
/-- the look-up of a text, at the operation -/
theorem look_text {H : Type} {P : Program} (w : World) {ops : Array Oper} {rest : List Oper} {o : Oper} {a : Act} {Q : Exit → Act → World → Prop}
    (hg : o.guard = none) (m x : Operand) (t : TypeId) (hop : o.op = Op.lookup t m x false)
    (k e : TypeId) (K : Keyed P k) (ht : P.underlying t = some (.map k e)) (he : P.underlying e = some .string) (hz : (zeroValue e).run P w = .ok (.string ⟨#[]⟩) w) (b n : Nat) (D : DataW H)
    (hm : a.eval m = .map (some b)) (hown : w.ownsMap P k (plainElem P e) b n D) (key : Value) (kl : Lit) (hx : a.eval x = key) (hkey : keyOf P k key = some kl) (s : ByteArray) (hat : ∀ z, D.atKey kl z = .lit (.string s.data.toList))
    (hK : wpList P ops Q rest (a.put o.dst (.string s)) w) :
    wpList P ops Q (o :: rest) a w := by
  refine wpList_plain hg fun K' hK' => ?_
  obtain ⟨v, ps, hrun, hv⟩ := hown.lookup K ht hz (plainElem_string he (s := ⟨#[]⟩) (Nat.zero_le _)) hkey
  obtain ⟨c, rfl, hc, hwc⟩ := plainElem_string_inv he hv
  rw [hat] at hc
  simp only [Prod.mk.injEq] at hc
  obtain rfl : c = s := by
    have := hc.1
    simp only [DataW.lit.injEq, Lit.string.injEq] at this
    exact ByteArray.ext (Array.toList_inj.1 this.symm)
  unfold Oper.wp
  simp [execOp, hop, hm, hx, hrun, Result.andThen]
  exact hK' _ _ hK
set_option maxRecDepth 100000 in
theorem ownsMap_below {H : Type} {P : Program} {k : TypeId} {R : Value → Option (DataW H × List MemPlace)} {w w' : World} {b n C : Nat} {D : DataW H} (h : w.ownsMap P k R b n D) (hb : Below C w w') (hC : b < C) : w'.ownsMap P k R b n D := by
  obtain ⟨es, clock, h1, rest⟩ := h
  exact ⟨es, clock, (hb.block b hC).trans h1, rest⟩
end Go.Proofs.YtiolebpoofkpmaaGreatDoor
set_option linter.unusedVariables false
namespace Go.Proofs.YtiolebpoofkpmaaGreatDoor
open Go.ChangeShapes Go.WideShapes Go.ChangeAt Go.RowKit
open Go.Maps (Keyed IsMap)

set_option maxRecDepth 100000 in
theorem lawI : Keyed Tryz.prog 3 := Maps.int_keyed Tryz.underlying3
set_option maxRecDepth 100000 in
theorem zeroS (w : World) : (zeroValue 9).run Tryz.prog w = .ok (.string ⟨#[]⟩) w := by kernel_rfl
/-- block b holds a map from numbers to texts -/
abbrev mapAt (w : World) (b n : Nat) (D : DataW Unit) : Prop := w.ownsMap Tryz.prog 3 (plainElem Tryz.prog 9) b n D
set_option maxRecDepth 100000 in
theorem mapAt_size {w : World} {b n : Nat} {D : DataW Unit} (h : mapAt w b n D) : Maps.size D ≤ n := by
  obtain ⟨es, clock, hb, F, hs, rfl⟩ := h
  simp only [Maps.size, length_sorted, List.length_map, Array.length_toList]
  exact hs
set_option maxRecDepth 100000 in
theorem row_iter {w : World} {v : Value} {l : List Int} {B b r n cnt : Nat} {D : DataW Unit} {left : Lit → Bool} (h : owE 3 1 iCells B w v l) (hr : w.ranges Tryz.prog 3 (plainElem Tryz.prog 9) b r n D left cnt) : some r ≠ v.ownBlock := row_ne_iter h hr
set_option maxRecDepth 100000 in
theorem ow_of_row {w : World} {B g c n : Nat} {l : List Int} (h : w.ownsRow B 3 1 (.slice (some ⟨g, 0, none⟩) n c) n (l.map (Value.int .i64))) (hn : n = l.length) : ow 3 .i64 B w (.slice (some ⟨g, 0, none⟩) n c) l := by
  subst hn; exact h
set_option maxRecDepth 100000 in
set_option maxHeartbeats 6400000 in
theorem implFieldsOf_any (b n : Nat) (D : DataW Unit) (L : List FieldD) (w : World) (hown : mapAt w b n D) (hD : mapIs D L) (hL : asc L) (hn : n ≤ 4000000) (hl : L.length ≤ 4000000) (hk : ∀ x ∈ L, (Lit.int .i64 x.1).wf = true) :
    Calls Tryz.prog 56 #[.map (some b)] w fun e w' => ∃ u, e = .returned u ∧ FieldsR.mine w.heap.size w'.heap.size w' [u] L ∧ Below w.heap.size w w' := by
  have hbl := hown.lt
  have hsz := mapAt_size hown
  have HO := Lib.hid hown
  have HD := Lib.hid hD
  have HL := Lib.hid hL
  have HK := Lib.hid hk
  clear hD hL hk
  go_enter Tryz.func56, Tryz.ntmps56
  go_wp2_with (at_range; refine wpList_range_own _ rfl _ 78 rfl 3 9 lawI Tryz.underlying78 _ b n D rfl hown ?_)
  intro w0 hrg0 hg0 hs0
  have hz0 : w.heap.size ≤ w0.heap.size := hg0.size
  have HB0 : Hid (Below w.heap.size w w0) := Lib.hid ((Below.refl _ _).grown hg0 (Nat.le_refl _) (fun j hj => by cases hj))
  clear hs0 hown
  go_wp2
  go_loopw [3] (fun v wr => ∃ (left : Lit → Bool) (cnt : Nat) (A : Option Addr) (c : Nat) (zs : List Int), wr.ranges Tryz.prog 3 (plainElem Tryz.prog 9) b w.heap.size n D left cnt ∧ zs.length + cnt ≤ Maps.size D ∧ v = .slice A zs.length c ∧
      Hid (owE 3 1 iCells w.heap.size wr (.slice A zs.length c) zs) ∧ Hid (metI D left zs) ∧ Hid (Below w.heap.size w wr) ∧ w.heap.size ≤ wr.heap.size)
    (fun _ wr => wr.rangeLeft b w.heap.size)
  case atStart => exact ⟨_, _, none, 0, [], hrg0, by simp, rfl, Lib.hid (owE_none _ _ _ _ _), Lib.hid (metI.start D), HB0, hz0⟩
  case round =>
    obtain ⟨left, cnt, A, c, zs, hrg, hcs, rfl, HR, HM, HB, hz⟩ := hrel
    go_wp2_with (at_next; refine wpList_next_ranges_is _ rfl _ rfl 3 9 .i64 lawI Tryz.underlying3 Tryz.underlying9 b w.heap.size n _ _ _ rfl hrg ?_ ?_)
    · intro hc0 hl0
      have hzs : Hid (zs.Nodup ∧ ∀ x, x ∈ zs ↔ fldHas L x = true) := Lib.hid ⟨HM.out.1, fun x => by rw [HM.out.2 x, HD.out.has_ x]; simp [hl0]⟩
      have HS := Lib.hid (sorted_keys HL.out hzs.out.1 hzs.out.2)
      have hlen : zs.length = L.length := by
        have := congrArg List.length HS.out
        simpa using this
      clear hl0 hrg
      -- behind the sort: the slice holds the list's numbers
      have HC : Hid (Calls Tryz.prog 77 #[.slice A zs.length c] wr fun e w' => e = .returned (.tuple #[]) ∧ rd .i64 w'.heap.size w' (.slice A zs.length c) (L.map (·.1)) ∧ Below w.heap.size w w' ∧ w.heap.size ≤ w'.heap.size) := Lib.hid (by
        have hrow := HR.out.ints
        have hb0 := HB.out
        rcases hrow.2 with ⟨hnil, h0⟩ | ⟨g, cap, cur, hv, hbase, hb, h1, h2, h3, h4⟩
        · have hL0 : L.map (·.1) = [] := by rw [← HS.out, List.eq_nil_of_length_eq_zero h0, List.mergeSort_nil]
          rw [hnil]
          refine (Tryz.slices_Sort_int_none none 0 wr).mono ?_
          rintro e w' ⟨rfl, rfl⟩
          rw [hL0]
          exact ⟨rfl, (nums_none _ 0 _ _).rd, hb0, hz⟩
        · simp only [Value.slice.injEq] at hv
          obtain ⟨rfl, -, rfl⟩ := hv
          have hH : Go.Sort.Holds (Value.int .i64) wr g 0 zs.toArray := holds_of_blockI hb (by simpa using h4)
          refine (Tryz.slices_Sort_int g 0 c zs wr hH (Array.getElem?_eq_some_iff.1 hb).1 (by omega)).mono ?_
          rintro e w' ⟨rfl, nn, os, rfl⟩
          have hs := ownsRow_sortedI (n := nn) (os := os) (ts := zs.mergeSort (fun x y => decide (x ≤ y))) (ss := zs) (List.length_mergeSort zs) hbase hb h1 h2 h3
          rw [HS.out] at hs ⊢
          have hb' := hb0.grown (grownBy_sortedI (w := wr) (g := g) (n := nn) (os := os) (L.map (·.1)).toArray) hz (fun j hj => by cases hj; exact hbase)
          exact ⟨rfl, (ow_of_row hs (by rw [List.length_map, hlen])).nums.rd, hb', hb'.size⟩)
      have HLEN := Lib.hid hlen
      clear hlen
      go_wp2_with fail
      refine HC.out.mono ?_
      rintro e w2 ⟨rfl, hrd, hb2, hz2⟩
      have HRD := Lib.hid hrd
      have HB2 := Lib.hid hb2
      have HO2 : Hid (mapAt w2 b n D) := Lib.hid (ownsMap_below HO.out hb2 hbl)
      clear hrd hb2 HC
      rw [HLEN.out] at HRD ⊢
      clear hzs HM HR hcs HLEN HS
      go_wp2
      go_loopw [5, 22] (fun lv iv wr => ∃ (i : Nat) (A4 : Option Addr) (c4 : Nat) (M : List FieldD), i ≤ L.length ∧ iv = .int .i64 i ∧ lv = .slice A4 M.length c4 ∧ M.length ≤ i ∧ Hid (M = L.take i) ∧ Hid (owE 48 2 fCells w2.heap.size wr (.slice A4 M.length c4) M) ∧ Hid (Below w2.heap.size w2 wr) ∧ w2.heap.size ≤ wr.heap.size) (fun _ iv _ => L.length - (intOf iv).toNat)
      case atStart => exact ⟨0, none, 0, [], Nat.zero_le _, rfl, rfl, Nat.le_refl _, Lib.hid rfl, Lib.hid (owE_none _ _ _ _ _), Lib.hid (Below.refl _ _), Nat.le_refl _⟩
      case round =>
        obtain ⟨i, A4, c4, M, hi', rfl, rfl, hMl, HM, HW, HB3, hz3⟩ := hrel
        by_cases hin : i < L.length
        · obtain ⟨x, hx⟩ : ∃ x, L[i]? = some x := ⟨_, List.getElem?_eq_getElem hin⟩
          have hxk : (L.map (·.1))[i]? = some x.1 := by rw [List.getElem?_map, hx]; rfl
          obtain ⟨p, off, hA, hp, d0⟩ := HRD.out.at (n := L.length) (by simpa using hxk)
          subst hA
          have d0 := (HB3.out.cell (p := ⟨p, off + i, none⟩) hp).trans d0
          have hmem := List.mem_of_getElem? hx
          have HX := Lib.hid (take_next hx)
          have HKX := Lib.hid (HK.out x hmem)
          have HAT := Lib.hid (HD.out.at_ x hmem)
          have HO3 : Hid (mapAt wr b n D) := Lib.hid (ownsMap_below HO2.out HB3.out (by omega))
          have g1 : (i : Int) < (L.length : Int) := by omega
          have g2 : 0 ≤ (i : Int) := by omega
          clear hx hxk hmem
          go_wp2_with (first
            | (at_lookup; refine look_text _ rfl _ _ 78 rfl 3 9 lawI Tryz.underlying78 Tryz.underlying9 (zeroS _) b n D rfl HO3.out _ _ rfl (Maps.keyOf_int_mk Tryz.underlying3 HKX.out) x.2 HAT.out ?_)
            | (at_builtin; refine app_elem fCells 2 (fun _ => rfl) (by decide) fCells_one 31 48 #[.int .i64 0, .string ⟨#[]⟩] 24 Tryz.underlying31 infoField rfl _ _ rfl (by rfl) w2.heap.size _ _ M x _ _ (by rfl) (by rfl) (by rfl) (by simp) HW.out (by unfold maxLen; omega) (by omega) (by first | omega | (simp; omega)) ?_))
          intro A5 c5 w5 hown5 hc5 hg5 _
          have hs5 : wr.heap.size + 1 ≤ w5.heap.size := by have := hg5.size; simpa using this
          have HB5 : Hid (Below w2.heap.size w2 w5) := Lib.hid ((HB3.out.alloc hz3 _).grown hg5 (by simp; omega) (fun g hg => (HW.out.lt g hg).1))
          have HO5 := Lib.hid hown5
          clear hown5 hg5
          go_wp2
          go_roundw
          case rel => exact ⟨i + 1, A5, c5, M ++ [x], by omega, by go_num, by rw [List.length_append]; rfl, by simp; omega, Lib.hid (by rw [HX.out, ← HM.out]), Lib.hid (by rw [List.length_append]; exact HO5.out), HB5, by omega⟩
          case measure => simp [intOf] <;> omega
        · obtain rfl : i = L.length := by omega
          have HLL : Hid (M = L) := Lib.hid (by have := HM.out; rwa [List.take_length] at this)
          go_wp2
          go_ret
          refine ⟨_, rfl, ?_, HB2.out.trans (HB3.out.mono hz2)⟩
          have hq := mine_own HW.out (Nat.le_refl _)
          rw [HLL.out] at hq ⊢
          exact hq.mono hz2 (Nat.le_refl _)
    · intro x s w2 cnt2 hwx hwc hlx hat hrg2 hlt hg2 hs2 hen
      have HRW2 : Hid (owE 3 1 iCells w.heap.size w2 (.slice A zs.length c) zs) := Lib.hid (HR.out.grown hg2 (fun g hg e => row_iter HR.out hrg (by rw [hg]; exact e)))
      have hz2 : wr.heap.size ≤ w2.heap.size := hg2.size
      have HB2 : Hid (Below w.heap.size w w2) := Lib.hid (HB.out.grown hg2 hz (fun j hj => by cases hj; exact Nat.le_refl _))
      have HM2 := Lib.hid (HM.out.step hlx hat)
      have hd := hrg.left_eq
      clear hs2 hat hlx hg2
      go_wp2_with (at_builtin; refine app_elem iCells 1 (fun _ => rfl) (by decide) iCells_one 44 3 #[.int .i64 0] 8 Tryz.underlying44 infoInt rfl _ _ rfl (by rfl) w.heap.size _ _ zs x _ _ (by rfl) (by rfl) (by rfl) (by simp) HRW2.out (by unfold maxLen; omega) (by omega) (by first | omega | (simp; omega)) ?_)
      intro A3 c3 w3 hown3 hc3 hg3 _
      have hz3 : w2.heap.size + 1 ≤ w3.heap.size := by have := hg3.size; simpa using this
      have hrg3 := (hrg2.alloc _).kept hg3 (fun e => by have := (HRW2.out.lt b e.symm).1; omega) (row_iter HRW2.out hrg2)
      have HB3 : Hid (Below w.heap.size w w3) := Lib.hid ((HB2.out.alloc (by omega) _).grown hg3 (by simp; omega) (fun g hg => (HRW2.out.lt g hg).1))
      have HO3 := Lib.hid hown3
      clear hown3 hg3
      go_wp2
      go_roundw
      case rel => exact ⟨_, cnt2, A3, c3, zs ++ [x], hrg3, by simp; omega, by rw [List.length_append]; rfl, Lib.hid (by rw [List.length_append]; exact HO3.out), HM2, HB3, by omega⟩
      case measure => rw [hrg3.left_eq, hd]; exact hlt
end Go.Proofs.YtiolebpoofkpmaaGreatDoor
