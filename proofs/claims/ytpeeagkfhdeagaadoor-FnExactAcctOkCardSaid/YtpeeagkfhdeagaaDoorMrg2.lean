/- HoldsOk of the program; no conditions. -/
import Derived.Test.YtpeeagkfhdeagaaDoorMrg1
import Derived.Test.YtpeeagkfhdeagaaDoorAppS
import Derived.Laws.CopyRow
import Derived.Test.YtpeeagkfhdeagaaDoorHoldA
import Derived.Test.YtpeeagkfhdeagaaDoorAppAll
import Derived.Test.YtpeeagkfhdeagaaDoorRowS
import Derived.Laws.IdiomCopy
import Derived.Lib.SliceRun
import Derived.Shelf.Abstract
import Derived.Test.YtpeeagkfhdeagaaDoorSlotF
import Derived.Laws.StructEq
import Derived.DeepKeys4
import Derived.Maps.Own
import Derived.Maps.Views
import Derived.Test.YtpeeagkfhdeagaaDoorSlotK
import Derived.Maps.OwnOps
import Derived.Carry
import Derived.Test.YtpeeagkfhdeagaaDoorRingH
import Derived.Test.YtpeeagkfhdeagaaDoorSlotMk
import Derived.Test.YtpeeagkfhdeagaaDoorMemT
import Derived.Test.YtpeeagkfhdeagaaDoorNums
import Derived.OpenShut
import Derived.ChangeSlices
import Derived.Test.YtpeeagkfhdeagaaDoorOpens
import Derived.Test.YtpeeagkfhdeagaaDoorHold
import Derived.Test.YtpeeagkfhdeagaaDoorSlot
import Derived.Test.YtpeeagkfhdeagaaDoorAcctE
import Derived.Test.YtpeeagkfhdeagaaDoorRingT
import Derived.Test.YtpeeagkfhdeagaaDoorBase
import Derived.OpenVars
set_option linter.unusedVariables false
namespace Go.Proofs.YtpeeagkfhdeagaaDoor
open Go.ChangeShapes Go.WideShapes Go.ChangeAt Go.RowKit

set_option maxRecDepth 100000 in
set_option maxHeartbeats 1600000 in
theorem implHoldsOk_any (hi : Nat) (v : Value) (l : List HoldD) (w : World) (hn : l.length ≤ 1048576) (hs : ∀ x ∈ l, x.1.size ≤ maxLen) (h : HoldsR.rd hi w [v] l) (hh : hi ≤ w.heap.size) :
    Calls Tryd.prog 65 #[v] w fun e w' => e = .returned (.bool (holdsOk l)) ∧ Below w.heap.size w w' := by
  obtain ⟨A, c, rfl, hc, h⟩ := holds_rd h
  have HR := Lib.hid h
  have HS := Lib.hid hs
  clear h hs
  by_cases hbig : 4 < l.length
  · have HV : Hid (holdsOk l = false) := Lib.hid (by unfold holdsOk; rw [decide_eq_false (by omega), Bool.and_false])
    have g0 : (4 : Int) < (l.length : Int) := by omega
    go_enter Tryd.func65, Tryd.ntmps65
    go_wp2
    go_ret
    exact ⟨ret_bool HV.out.symm, Below.refl _ _⟩
  have g0 : ¬ (4 : Int) < (l.length : Int) := by omega
  have HST : Hid (Value.string ⟨#[]⟩ = .string (befH l 0)) := Lib.hid rfl
  go_enter Tryd.func65, Tryd.ntmps65
  go_wp2
  go_loopw [3, 11] (fun bv iv wr => ∃ i : Nat, i ≤ l.length ∧ iv = .int .i64 i ∧ bv = .string (befH l i) ∧ Hid ((List.range i).all (holdAtOk l) = true) ∧ Hid (Below w.heap.size w wr) ∧ w.heap.size ≤ wr.heap.size) (fun _ iv _ => l.length - (intOf iv).toNat)
  case atStart => exact ⟨0, Nat.zero_le _, rfl, HST.out, Lib.hid rfl, Lib.hid (Below.refl _ _), Nat.le_refl _⟩
  case round =>
    obtain ⟨i, hi', rfl, rfl, HN, HB, hz⟩ := hrel
    by_cases hin : i < l.length
    · obtain ⟨x, hx⟩ : ∃ x, l[i]? = some x := ⟨_, List.getElem?_eq_getElem hin⟩
      obtain ⟨b, off, rfl, hbl, c0, c1, c2⟩ := HR.out i x hx
      have HXD := Lib.hid (holdAt_bef hx)
      have HNX := Lib.hid (befH_next hx)
      have hxs := HS.out x (List.mem_of_getElem? hx)
      have HOK := Lib.hid (fun W => implHoldOk_any x W hxs)
      have HNO := Lib.hid (fun h => holds_ok_not (l := l) hin h)
      have HSN := Lib.hid (fun h => range_snoc (l := l) HN.out h)
      clear hx
      generalize befH l i = bf at HXD
      generalize holdOk x = hk at HXD HOK
      have c0 := (HB.out.cell (p := ⟨b, off + i * 3, none⟩) (show b < w.heap.size by omega)).trans c0
      have c1 := (HB.out.cell (p := ⟨b, off + i * 3 + 1, none⟩) (show b < w.heap.size by omega)).trans c1
      have c2 := (HB.out.cell (p := ⟨b, off + i * 3 + 2, none⟩) (show b < w.heap.size by omega)).trans c2
      have g1 : (i : Int) < (l.length : Int) := by omega
      have g2 : 0 ≤ (i : Int) := by omega
      go_upto_region 7 with fail
      obtain ⟨W, hW⟩ : ∃ W, W = wr.alloc (.cells #[.string x.1, .int .i64 x.2.1, .int .i64 x.2.2] 73) := ⟨_, rfl⟩
      have b0 : bk W wr.heap.size 73 [.string x.1, .int .i64 x.2.1, .int .i64 x.2.2] := by rw [hW]; exact bk.new wr _ _
      have HB0 : Hid (Below w.heap.size w W) := Lib.hid (by rw [hW]; exact HB.out.alloc hz _)
      have z0 := b0.lt
      rw [← hW]
      clear hW c0 c1 c2
      obtain ⟨p0, p1, p2⟩ := b0.cells3
      go_wp2_with fail
      refine (HOK.out _).mono ?_
      rintro e w1 ⟨rfl, hb1⟩
      have HB1 : Hid (Below w.heap.size w w1) := Lib.hid (HB0.out.trans (hb1.mono (by omega)))
      have z1 := hb1.size
      replace b0 := b0.below hb1 z0
      clear hb1 p0 p1 p2
      obtain ⟨p0, p1, p2⟩ := b0.cells3
      clear b0
      cases hk
      · have HF : Hid (holdsOk l = false) := Lib.hid (HNO.out (by rw [HXD.out]; rfl))
        go_wp2
        go_ret
        exact ⟨ret_bool HF.out.symm, HB1.out⟩
      rcases str_cmp x.1 bf with ⟨-, h2, h3, h4⟩ | ⟨-, h2⟩ | ⟨-, h2, h3, h4⟩
      · have HF : Hid (holdsOk l = false) := Lib.hid (HNO.out (by rw [HXD.out, h3]; rfl))
        have h5 : Op.bytesLess x.1.toList bf.toList = true := h2
        clear h2 h3 h4
        go_wp2
        go_ret
        exact ⟨ret_bool HF.out.symm, HB1.out⟩
      · have HF : Hid (holdsOk l = false) := Lib.hid (HNO.out (by rw [HXD.out, h2, strLt_irrefl]; rfl))
        have h5 : (x.1.toList == bf.toList) = true := by rw [h2]; simp
        clear h2
        go_wp2
        go_ret
        exact ⟨ret_bool HF.out.symm, HB1.out⟩
      · have HT : Hid ((List.range (i + 1)).all (holdAtOk l) = true) := Lib.hid (HSN.out (by rw [HXD.out, h2]; rfl))
        have h5 : Op.bytesLess x.1.toList bf.toList = false := h3
        have h6 : (x.1.toList == bf.toList) = false := by simpa using fun e => h4 (str_eq_list.1 e)
        have h7 : ¬ x.1.toList = bf.toList := fun e => h4 (str_eq_list.1 e)
        clear h2 h3 h4
        go_wp2
        go_roundw
        case rel => exact ⟨i + 1, by omega, by go_num, by rw [HNX.out], HT, HB1, by omega⟩
        case measure => simp [intOf] <;> omega
    · obtain rfl : i = l.length := by omega
      have HV : Hid (holdsOk l = true) := Lib.hid (by rw [holds_ok_end HN.out]; exact decide_eq_true (by omega))
      go_wp2
      go_ret
      exact ⟨ret_bool HV.out.symm, HB.out⟩
end Go.Proofs.YtpeeagkfhdeagaaDoor
/- copy and clear over a row of structs of the call's own; no conditions. -/
set_option linter.unusedVariables false
namespace Go.Proofs.YtpeeagkfhdeagaaDoor
open Go.ChangeShapes Go.WideShapes Go.ChangeAt Go.RowKit

set_option maxRecDepth 100000 in
theorem flat_len {α : Type} {k : Nat} {enc : α → List Value} (hk : ∀ x, (enc x).length = k) (l : List α) : (l.flatMap enc).length = l.length * k := by
  induction l with
  | nil => simp
  | cons x l ih => rw [List.flatMap_cons, List.length_append, hk, ih, List.length_cons, Nat.add_mul]; omega
set_option maxRecDepth 100000 in
theorem flat_take {α : Type} {k : Nat} {enc : α → List Value} (hk : ∀ x, (enc x).length = k) (l : List α) : ∀ n : Nat, (l.flatMap enc).take (n * k) = (l.take n).flatMap enc := by
  induction l with
  | nil => intro n; simp
  | cons x l ih =>
    intro n
    cases n with
    | zero => simp
    | succ n =>
      rw [List.flatMap_cons, List.take_succ_cons, List.flatMap_cons, ← ih n, List.take_append, hk, List.take_of_length_le (by rw [hk, Nat.add_mul]; omega), Nat.add_mul, Nat.one_mul, Nat.add_sub_cancel]
set_option maxRecDepth 100000 in
theorem flat_drop {α : Type} {k : Nat} {enc : α → List Value} (hk : ∀ x, (enc x).length = k) (l : List α) : ∀ n : Nat, (l.flatMap enc).drop (n * k) = (l.drop n).flatMap enc := by
  induction l with
  | nil => intro n; simp
  | cons x l ih =>
    intro n
    cases n with
    | zero => simp
    | succ n =>
      rw [List.flatMap_cons, List.drop_succ_cons, ← ih n, List.drop_append, hk, List.drop_of_length_le (by rw [hk, Nat.add_mul]; omega), Nat.add_mul, Nat.one_mul, Nat.add_sub_cancel, List.nil_append]
set_option maxRecDepth 100000 in
theorem take_over {β : Type} (L M : List β) (a n : Nat) (h : a + M.length ≤ n) (hn : n ≤ L.length) : (L.take a ++ M ++ L.drop (a + M.length)).take n = (L.take n).take a ++ M ++ (L.take n).drop (a + M.length) := by
  have hX : (L.take a ++ M).length = a + M.length := by rw [List.length_append, List.length_take]; omega
  rw [List.take_append, List.take_of_length_le (by rw [hX]; exact h), hX, List.take_take, Nat.min_eq_left (by omega), List.drop_take]
set_option maxRecDepth 100000 in
/-- cells laid over such a row -/
theorem owE.over {α : Type} {T : TypeId} {k B g c : Nat} {enc : α → List Value} {w : World} {l : List α} (h : owE T k enc B w (.slice (some ⟨g, 0, none⟩) l.length c) l) (hk : ∀ x, (enc x).length = k) (m : List α) (d : Nat) (hd : d + m.length ≤ l.length) :
    ∃ cur : Array Value, w.heap[g]? = some (.cells cur T (0, 0)) ∧ d * k + (m.flatMap enc).length ≤ cur.size ∧ cur.toList.take (l.length * k) = l.flatMap enc ∧
      owE T k enc B (w.setRow g (cur.toList.take (d * k) ++ m.flatMap enc ++ cur.toList.drop (d * k + (m.flatMap enc).length)).toArray) (.slice (some ⟨g, 0, none⟩) l.length c) (l.take d ++ m ++ l.drop (d + m.length)) := by
  obtain ⟨h1, h2⟩ := h
  rcases h2 with ⟨h', _⟩ | ⟨g', cap, cur, h', hB, hg, hn, hm, hs, ht⟩
  · simp at h'
  simp only [Value.slice.injEq, Option.some.injEq, Addr.mk.injEq, and_true, true_and] at h'
  obtain ⟨rfl, rfl⟩ := h'
  have hml := flat_len hk m
  have hmul : (d + m.length) * k ≤ l.length * k := Nat.mul_le_mul_right k hd
  have hcap : l.length * k ≤ c * k := Nat.mul_le_mul_right k hn
  rw [Nat.add_mul] at hmul
  refine ⟨cur, hg, by omega, ht, ?_, Or.inr ⟨g, c, _, ?_, hB, setRow_heap w g cur _ T _ hg, ?_, hm, ?_, ?_⟩⟩
  · rw [flat_len hk]
  · have e : l.length = (l.take d ++ m ++ l.drop (d + m.length)).length := by
      simp only [List.length_append, List.length_take, List.length_drop]
      omega
    rw [← e]
  · simp only [List.length_append, List.length_take, List.length_drop]
    omega
  · simp only [List.size_toArray, List.length_append, List.length_take, List.length_drop, Array.length_toList]
    omega
  · have e : (l.take d ++ m ++ l.drop (d + m.length)).length = l.length := by
      simp only [List.length_append, List.length_take, List.length_drop]
      omega
    rw [e, take_over _ _ _ _ (by omega) (by simp; omega), ht, flat_take hk, hml, ← Nat.add_mul, flat_drop hk, List.flatMap_append, List.flatMap_append]
set_option maxRecDepth 100000 in
theorem setRow_turned {w : World} {g : Nat} (cs : Array Value) : Turned g (g + 1) w (w.setRow g cs) := ⟨rfl, rfl, rfl, by simp [World.setRow], fun b hb h => setRow_other w g b cs (by omega)⟩
set_option maxRecDepth 100000 in
theorem zero_flat {α : Type} {k : Nat} {enc : α → List Value} (hk : ∀ x, (enc x).length = k) (zs : Array Value) (z : α) (hz : zs.toList = enc z) (m : Nat) : (Builtin.zeroCells zs m).toList = (List.replicate m z).flatMap enc := by
  have hs : zs.size = k := by rw [← Array.length_toList, hz, hk]
  apply List.ext_getElem?
  intro i
  have hl : ((List.replicate m z).flatMap enc).length = m * k := by rw [flat_len hk, List.length_replicate]
  by_cases hi : i < m * k
  · have hk0 : 0 < k := by rcases Nat.eq_zero_or_pos k with h | h; subst h; omega; exact h
    have e : i = i / k * k + i % k := by rw [Nat.mul_comm]; exact (Nat.div_add_mod i k).symm
    have hlt : i % k < k := Nat.mod_lt _ hk0
    have hd : i / k < m := by rw [Nat.div_lt_iff_lt_mul hk0]; exact hi
    have h1 : (enc z)[i % k]? = some zs[i % k]! := by
      rw [← hz, Array.getElem?_toList, getElem!_pos zs (i % k) (by omega)]
      exact Array.getElem?_eq_getElem _
    have h2 := flat_at hk (List.replicate m z) (i / k) z (by rw [List.getElem?_replicate, if_pos hd]) (i % k) _ h1
    rw [← e] at h2
    rw [h2]
    simp only [Builtin.zeroCells, Array.toList_map, Array.toList_range, List.getElem?_map, hs]
    rw [List.getElem?_range hi]
    rfl
  · rw [List.getElem?_eq_none (by simp [Builtin.zeroCells, hs]; omega), List.getElem?_eq_none (by rw [hl]; omega)]
section
variable {P : Program} {ops : Array Oper} {rest : List Oper} {o : Oper} {a : Act} {Q : Exit → Act → World → Prop}
set_option maxRecDepth 100000 in
/-- copy(s[m:], s) -/
theorem wpList_copy_over {α : Type} (enc : α → List Value) (k : Nat) (hk : ∀ x, (enc x).length = k) (hone : ∀ x, ∀ u ∈ enc x, u.oneCell' = true) (hgd : o.guard = none) (d s : Operand) (dT sT : TypeId)
    (ho : o.op = .call { callee := .builtin .copy, args := #[d, s], argTypes := #[dT, sT] }) (e : TypeId) (hu : P.underlying dT = some (.slice e)) (hsz : (P.info? e).map (·.size) = some k)
    (B : Nat) (W : World) (g m c c' : Nat) (dp : Option Addr) (l : List α) (hown : owE e k enc B W (.slice (some ⟨g, 0, none⟩) l.length c) l) (hm : m ≤ l.length)
    (hd : a.eval d = .slice dp (l.length - m) c') (hdp : m < l.length → dp = some ⟨g, m * k, none⟩) (hs : a.eval s = .slice (some ⟨g, 0, none⟩) l.length c)
    (h : ∀ w', owE e k enc B w' (.slice (some ⟨g, 0, none⟩) l.length c) (l.take m ++ l.take (l.length - m)) → Turned g (g + 1) W w' → wpList P ops Q rest (a.put o.dst (goInt ((l.length - m : Nat) : Int))) w') : wpList P ops Q (o :: rest) a W := by
  obtain ⟨i, hi, hsi⟩ := Option.map_eq_some_iff.1 hsz
  have hmin : Nat.min l.length (l.length - m) = l.length - m := Nat.min_eq_right (by omega)
  have hcells : (Builtin.firstCells k (l.length - m) (.slice (some ⟨g, 0, none⟩) l.length c)).run P W = .ok ((l.take (l.length - m)).flatMap enc).toArray W := by
    refine run_firstCells_some (P := P) W k (l.length - m) ⟨g, 0, none⟩ l.length c ((l.take (l.length - m)).flatMap enc) (by rw [flat_len hk, List.length_take]; congr 1; omega) ?_
    intro j v hj
    have hlt := (List.getElem?_eq_some_iff.1 hj).1
    rw [flat_len hk, List.length_take, Nat.min_eq_left (by omega)] at hlt
    have hle : (l.length - m) * k ≤ l.length * k := Nat.mul_le_mul_right k (by omega)
    have hh : W.ownsRow B e k (.slice (some ⟨g, 0, none⟩) l.length c) l.length (l.flatMap enc) := hown
    have e1 : (⟨g, 0, none⟩ : Addr).add j = ⟨g, j, none⟩ := by
      unfold Addr.add
      split
      · next h0 => rw [h0]
      · simp
    rw [e1, hh.cellAt j (by omega)]
    rw [← flat_take hk] at hj
    rw [List.getElem?_take, if_pos hlt] at hj
    exact hj
  by_cases hz : m = l.length
  · have h0 : l.length - m = 0 := by omega
    refine wpList_plain hgd fun K hK => ?_
    have e0 : l.take m ++ l.take (l.length - m) = l := by rw [h0, hz]; simp
    have hw := h W (by rw [e0]; exact hown) (Turned.refl _ _ _)
    rw [h0] at hcells hw hd hmin
    have hrun : (Builtin.copy_ #[dT, sT] o.type #[.slice dp 0 c', .slice (some ⟨g, 0, none⟩) l.length c]).run P W = .ok (goInt 0) W := by
      cases dp <;> simp [Builtin.copy_, run_underlying hu, Builtin.lenOf, sizeOf, typeInfo, hi, hsi, hcells, storeCells]
    unfold Oper.wp
    simp [execOp, ho, resolve, invoke, builtin, hd, hs, hrun]
    exact hK _ _ hw
  · obtain rfl := hdp (by omega)
    obtain ⟨cur, hg, hfit, -, hnew⟩ := hown.over hk (l.take (l.length - m)) m (by rw [List.length_take]; omega)
    have hdrop : l.drop (m + (l.take (l.length - m)).length) = [] := List.drop_of_length_le (by rw [List.length_take]; omega)
    rw [hdrop, List.append_nil] at hnew
    have hst := run_storeCells_at P g (m * k) e ((l.take (l.length - m)).flatMap enc) 0 cur W hg (by omega) (fun v hv => by obtain ⟨x, -, hx⟩ := List.mem_flatMap.1 hv; exact hone x v hx)
    rw [Nat.add_zero] at hst
    generalize (cur.toList.take (m * k) ++ (l.take (l.length - m)).flatMap enc ++ cur.toList.drop (m * k + ((l.take (l.length - m)).flatMap enc).length)).toArray = X at hst hnew
    generalize (l.take (l.length - m)).flatMap enc = us at hst hcells
    refine wpList_plain hgd fun K hK => ?_
    have hrun : (Builtin.copy_ #[dT, sT] o.type #[.slice (some ⟨g, m * k, none⟩) (l.length - m) c', .slice (some ⟨g, 0, none⟩) l.length c]).run P W = .ok (goInt ((l.length - m : Nat) : Int)) (W.setRow g X) := by
      simp [Builtin.copy_, run_underlying hu, Builtin.lenOf, sizeOf, typeInfo, hi, hsi, hmin, hcells, hst]
    unfold Oper.wp
    simp [execOp, ho, resolve, invoke, builtin, hd, hs, hrun]
    exact hK _ _ (h _ hnew (setRow_turned _))
set_option maxRecDepth 100000 in
/-- clear(s[:m]) -/
theorem wpList_clear_over {α : Type} (enc : α → List Value) (k : Nat) (hk : ∀ x, (enc x).length = k) (hone : ∀ x, ∀ u ∈ enc x, u.oneCell' = true) (hgd : o.guard = none) (x : Operand) (t : TypeId)
    (ho : o.op = .call { callee := .builtin .clear, args := #[x], argTypes := #[t] }) (e : TypeId) (hu : P.underlying t = some (.slice e)) (zs : Array Value) (hinfo : (P.info? e).map (fun i => (i.zero.map (·.cells), i.size)) = some (some zs, k)) (z : α) (hz : zs.toList = enc z)
    (B : Nat) (W : World) (g m c c' n : Nat) (l : List α) (hn : l.length = n) (hown : owE e k enc B W (.slice (some ⟨g, 0, none⟩) n c) l) (hm : m ≤ n) (hm0 : 0 < m)
    (hx : a.eval x = .slice (some ⟨g, 0, none⟩) m c')
    (h : ∀ w', owE e k enc B w' (.slice (some ⟨g, 0, none⟩) n c) (List.replicate m z ++ l.drop m) → Turned g (g + 1) W w' → wpList P ops Q rest (a.put o.dst (.tuple #[])) w') : wpList P ops Q (o :: rest) a W := by
  subst hn
  obtain ⟨i, hi, hxx⟩ := Option.map_eq_some_iff.1 hinfo
  simp only [Prod.mk.injEq] at hxx
  obtain ⟨hz1, hsize⟩ := hxx
  obtain ⟨zz, hzz, hzc⟩ := Option.map_eq_some_iff.1 hz1
  obtain ⟨cur, hg, hfit, -, hnew⟩ := hown.over hk (List.replicate m z) 0 (by rw [List.length_replicate]; omega)
  rw [Nat.zero_add, List.length_replicate, List.take_zero, List.nil_append] at hnew
  have hst := run_storeCells_at P g 0 e ((List.replicate m z).flatMap enc) 0 cur W hg (by omega) (fun v hv => by obtain ⟨x, -, hx⟩ := List.mem_flatMap.1 hv; exact hone x v hx)
  rw [Nat.zero_mul] at hnew
  rw [Nat.add_zero] at hst
  obtain ⟨p, rfl⟩ : ∃ p, m = p + 1 := ⟨m - 1, by omega⟩
  refine wpList_plain hgd fun K hK => ?_
  have hzf := zero_flat hk zs z hz (p + 1)
  generalize (cur.toList.take 0 ++ (List.replicate (p + 1) z).flatMap enc ++ cur.toList.drop (0 + ((List.replicate (p + 1) z).flatMap enc).length)).toArray = X at hst hnew
  generalize (List.replicate (p + 1) z).flatMap enc = us at hst hzf
  have hrun : (Builtin.clear_ #[t] o.type #[.slice (some ⟨g, 0, none⟩) (p + 1) c']).run P W = .ok (.tuple #[]) (W.setRow g X) := by
    simp [Builtin.clear_, run_underlying hu, zeroValue, typeInfo, hi, hzz, hzc, hzf, hst]
  unfold Oper.wp
  simp [execOp, ho, resolve, invoke, builtin, hx, hrun]
  exact hK _ _ (h _ hnew (setRow_turned _))
end
end Go.Proofs.YtpeeagkfhdeagaaDoor
/- append of a whole slice of structs; no conditions. -/
set_option linter.unusedVariables false
namespace Go.Proofs.YtpeeagkfhdeagaaDoor
open Go.ChangeShapes Go.WideShapes Go.ChangeAt Go.RowKit

set_option maxRecDepth 100000 in
/-- append(s, src...) onto a row of structs of the call's own -/
theorem app_rows {P : Program} {ops : Array Oper} {rest : List Oper} {o : Oper} {a : Act} {Q : Exit → Act → World → Prop} {α : Type} (enc : α → List Value) (k : Nat) (hk : ∀ x, (enc x).length = k) (hk0 : 0 < k) (hone : ∀ x, ∀ u ∈ enc x, u.oneCell' = true)
    (t e : TypeId) (zs : Array Value) (bytes : Nat) (ht : P.underlying t = some (.slice e)) (hinfo : (P.info? e).map (fun i => (i.zero.map (·.cells), i.size, i.bytes)) = some (some zs, k, bytes)) (hzs : zs.size = k)
    (s x : Operand) (hgd : o.guard = none) (ho : o.op = .call { callee := .builtin .append, args := #[s, x], argTypes := #[t, t] })
    (base : Nat) (W : World) (v : Value) (l m : List α) (A0 : Option Addr) (c0 : Nat) (hs : a.eval s = v) (hx : a.eval x = .slice A0 m.length c0) (hown : owE e k enc base W v l)
    (hsrc : ∀ j y, m[j]? = some y → ∃ b off, A0 = some ⟨b, off, none⟩ ∧ atL W b (off + j * k) (enc y)) (h63 : l.length + m.length ≤ maxLen) (hbytes : (l.length + m.length) * bytes ≤ 140737488355328) (hbase : base ≤ W.heap.size)
    (h : ∀ A c w', owE e k enc base w' (.slice A (l.length + m.length) c) (l ++ m) → W.grownBy w' v.ownBlock → Below base W w' → wpList P ops Q rest (a.put o.dst (.slice A (l.length + m.length) c)) w') : wpList P ops Q (o :: rest) a W := by
  obtain ⟨i, hi, hxx⟩ := Option.map_eq_some_iff.1 hinfo
  simp only [Prod.mk.injEq] at hxx
  obtain ⟨hz, hsize, hby⟩ := hxx
  obtain ⟨z, hzz, hzc⟩ := Option.map_eq_some_iff.1 hz
  have key : ∃ v' w', (Builtin.append_ #[t, t] o.type #[v, .slice A0 m.length c0]).run P W = .ok v' w' ∧ owE e k enc base w' v' (l ++ m) ∧ W.grownBy w' v.ownBlock := by
    cases A0 with
    | none =>
      have hm : m = [] := by
        cases m with
        | nil => rfl
        | cons y m => obtain ⟨b, off, e', -⟩ := hsrc 0 y rfl; cases e'
      subst hm
      exact ⟨v, W, run_app_void W base t o.type e i ht hi v l.length _ k hown c0, by simpa using hown, World.grownBy.refl W _⟩
    | some ad =>
      have hcells : ∀ j u, (m.flatMap enc)[j]? = some u → W.cell? (ad.add j) = some u := by
        intro j u hu
        have hlt := (List.getElem?_eq_some_iff.1 hu).1
        have hlen := flat_len hk m
        rw [hlen] at hlt
        have hq : j / k < m.length := by rw [Nat.div_lt_iff_lt_mul hk0]; exact hlt
        have hr : j % k < k := Nat.mod_lt _ hk0
        have hj : j = j / k * k + j % k := by rw [Nat.mul_comm]; exact (Nat.div_add_mod j k).symm
        obtain ⟨b, off, e', hat⟩ := hsrc (j / k) _ (List.getElem?_eq_getElem hq)
        obtain rfl := Option.some.inj e'
        obtain ⟨u', hu'⟩ : ∃ u', (enc m[j / k])[j % k]? = some u' := ⟨_, List.getElem?_eq_getElem (show j % k < (enc m[j / k]).length by have := hk m[j / k]; omega)⟩
        have h2 := flat_at hk m (j / k) _ (List.getElem?_eq_getElem hq) (j % k) u' hu'
        rw [← hj, hu] at h2
        obtain rfl := Option.some.inj h2
        have h3 := hat (j % k) u hu'
        rw [add_off, show off + j = off + j / k * k + j % k by omega]
        exact h3
      obtain ⟨v', w1, hr, hown', hgrow, -, -⟩ := run_append_own_at (P := P) W base t o.type e i z k bytes ht hi hzz hsize hby (by rw [hzc, hzs]) hk0 v l.length (l.flatMap enc) hown ad m.length c0 (m.flatMap enc) (flat_len hk m) hcells (fun u hu => by obtain ⟨y, -, hy⟩ := List.mem_flatMap.1 hu; exact hone y u hy) h63 hbytes hbase
      refine ⟨v', w1, hr, ?_, hgrow⟩
      unfold owE
      rw [List.length_append, List.flatMap_append]
      exact hown'
  obtain ⟨v', w1, hr, ho', hgrow⟩ := key
  obtain ⟨A, c, rfl, hc'⟩ := ho'.form
  rw [List.length_append] at ho' hr
  refine wpList_plain hgd fun Kn hKn => ?_
  unfold Oper.wp execOp
  simp only [ho, resolve, invoke, builtin, Sem.run_bind, Sem.run_pure, Result.andThen_ok, List.map_toArray, List.map_cons, List.map_nil, hs, hx, hr]
  exact hKn _ _ (h A c w1 ho' hgrow ((Below.refl base W).grown hgrow hbase fun k hk => (hown.lt k hk).1))
end Go.Proofs.YtpeeagkfhdeagaaDoor
/- An element of a row laid anew; the end of a row cleared; no conditions. -/
set_option linter.unusedVariables false
namespace Go.Proofs.YtpeeagkfhdeagaaDoor
open Go.ChangeShapes Go.WideShapes Go.ChangeAt Go.RowKit

set_option maxRecDepth 100000 in
theorem setsAt_cells (us : List Value) : ∀ (w : World) (b o : Nat), w.setCells b o us = setsAt w b o us := by
  induction us with
  | nil => intro w b o; rfl
  | cons u us ih => intro w b o; exact ih _ b (o + 1)
set_option maxRecDepth 100000 in
/-- element i of a row laid anew -/
theorem filled.put {w : World} {b off k n i m : Nat} {E E' : Nat → List Value} (h : filled w b off k n m E) (hi : i < n) (hE : ∀ j, j < m → (E j).length = k) (hE' : (E' i).length = k) (hs : ∀ j, j < m → j ≠ i → E' j = E j) : filled (setsAt w b (off + i * k) (E' i)) b off k n m E' := by
  have hik := mul_step (k := k) hi
  refine ⟨setsAt_room _ _ _ _ _ _ h.room, fun j hj => ?_⟩
  by_cases e : j = i
  · subst e
    exact setsAt_at _ _ _ _ (h.room.sub (by omega) (by omega))
  · rw [hs j hj e]
    have hl := hE j hj
    rcases Nat.lt_or_gt_of_ne e with h1 | h1
    · have hjk := mul_step (k := k) h1
      exact setsAt_far _ _ _ _ _ _ (h.at_ j hj) (.inl (by omega))
    · have hjk := mul_step (k := k) h1
      exact setsAt_far _ _ _ _ _ _ (h.at_ j hj) (.inr (by omega))
set_option maxRecDepth 100000 in
/-- its first elements, where only what is behind them was laid anew -/
theorem filled.ahead {w : World} {b k n i : Nat} {E : Nat → List Value} (h : filled w b 0 k n n E) (hi : i ≤ n) (hE : ∀ j, j < n → (E j).length = k) (us : List Value) : filled (setsAt w b (i * k) us) b 0 k i i E := by
  have hle : i * k ≤ n * k := Nat.mul_le_mul_right k hi
  refine ⟨(setsAt_room _ _ _ _ _ _ h.room).sub (Nat.le_refl _) (by omega), fun j hj => ?_⟩
  have hjk := mul_step (k := k) hj
  exact setsAt_far _ _ _ _ _ _ (h.at_ j (by omega)) (.inl (by rw [hE j (by omega)]; omega))
section
variable {P : Program} {ops : Array Oper} {rest : List Oper} {o : Oper} {a : Act} {Q : Exit → Act → World → Prop}
set_option maxRecDepth 100000 in
/-- clear(s[i:]) -/
theorem wpList_clear_tail {α : Type} (enc : α → List Value) (k : Nat) (hk : ∀ x, (enc x).length = k) (hone : ∀ x, ∀ u ∈ enc x, u.oneCell' = true) (hgd : o.guard = none) (x : Operand) (t : TypeId)
    (ho : o.op = .call { callee := .builtin .clear, args := #[x], argTypes := #[t] }) (e : TypeId) (hu : P.underlying t = some (.slice e)) (zs : Array Value) (hinfo : (P.info? e).map (fun i => (i.zero.map (·.cells), i.size)) = some (some zs, k)) (z : α) (hz : zs.toList = enc z)
    (W : World) (g off m c' : Nat) (hroom : roomL W g off (m * k)) (hm0 : 0 < m) (hx : a.eval x = .slice (some ⟨g, off, none⟩) m c')
    (h : wpList P ops Q rest (a.put o.dst (.tuple #[])) (setsAt W g off ((List.replicate m z).flatMap enc))) : wpList P ops Q (o :: rest) a W := by
  obtain ⟨i, hi, hxx⟩ := Option.map_eq_some_iff.1 hinfo
  simp only [Prod.mk.injEq] at hxx
  obtain ⟨hz1, hsize⟩ := hxx
  obtain ⟨zz, hzz, hzc⟩ := Option.map_eq_some_iff.1 hz1
  have hzf := zero_flat hk zs z hz m
  have hl : ((List.replicate m z).flatMap enc).length = m * k := by rw [flat_len hk, List.length_replicate]
  have hst := run_storeCells_cells (P := P) g off ((List.replicate m z).flatMap enc) 0 W (fun j hj => by rw [hl] at hj; obtain ⟨⟨u, hu⟩, -⟩ := hroom j hj; rw [Nat.add_zero, hu]; rfl) (fun j hj => by rw [hl] at hj; rw [Nat.add_zero]; exact (hroom j hj).2) (fun v hv => by obtain ⟨x, -, hx⟩ := List.mem_flatMap.1 hv; exact hone x v hx)
  rw [Nat.add_zero, setsAt_cells] at hst
  obtain ⟨p, rfl⟩ : ∃ p, m = p + 1 := ⟨m - 1, by omega⟩
  generalize (List.replicate (p + 1) z).flatMap enc = us at hst hzf h
  refine wpList_plain hgd fun K hK => ?_
  have hrun : (Builtin.clear_ #[t] o.type #[.slice (some ⟨g, off, none⟩) (p + 1) c']).run P W = .ok (.tuple #[]) (setsAt W g off us) := by
    simp [Builtin.clear_, run_underlying hu, zeroValue, typeInfo, hi, hzz, hzc, hzf, hst]
  unfold Oper.wp
  simp [execOp, ho, resolve, invoke, builtin, hx, hrun]
  exact hK _ _ h
end
end Go.Proofs.YtpeeagkfhdeagaaDoor
/- slices.Clone, slices.IndexFunc, slices.DeleteFunc over holds; no conditions. -/
set_option linter.unusedVariables false
namespace Go.Proofs.YtpeeagkfhdeagaaDoor
open Go.ChangeShapes Go.WideShapes Go.ChangeAt Go.RowKit

/-- a row of holds of the call's own -/
def holdsOwn (l : List HoldD) (w : World) (e : Ending) (w' : World) : Prop := ∃ A c, e = .returned (.slice A l.length c) ∧ owE 73 3 hCells w.heap.size w' (.slice A l.length c) l ∧ Below w.heap.size w w'
set_option maxRecDepth 100000 in
theorem holds_at {hi : Nat} {w : World} {A : Option Addr} {n c : Nat} {l : List HoldD} (h : HoldsR.rd hi w [.slice A n c] l) : ∀ (j : Nat) (y : HoldD), l[j]? = some y → ∃ b off, A = some ⟨b, off, none⟩ ∧ b < hi ∧ atL w b (off + j * 3) (hCells y) := by
  intro j y hy
  obtain ⟨A', c', hv, -, hr⟩ := holds_rd h
  simp only [Value.slice.injEq] at hv
  obtain ⟨rfl, -, -⟩ := hv
  obtain ⟨b, off, e, hb, q0, q1, q2⟩ := hr j y hy
  refine ⟨b, off, e, hb, fun t u hu => ?_⟩
  match t, hu with
  | 0, hu => cases hu; exact q0
  | 1, hu => cases hu; exact q1
  | 2, hu => cases hu; exact q2
  | n + 3, hu => simp [hCells] at hu
/-- what a function says of a hold, wherever block B holds cs -/
def saysH (g : Nat) (lb : Array Value) (B : Nat) (t : TypeId) (cs : List Value) (p : HoldD → Bool) : Prop :=
  ∀ (W : World) (x : HoldD), bk W B t cs → Calls Tryd.prog g (#[.agg #[.string x.1, .int .i64 x.2.1, .int .i64 x.2.2]] ++ lb) W fun e w' => e = .returned (.bool (p x)) ∧ Below W.heap.size W w'
def findP (p : HoldD → Bool) (l : List HoldD) : Int := match l.findIdx? p with | some i => (i : Int) | none => -1
set_option maxRecDepth 100000 in
theorem findP_none {p : HoldD → Bool} {l : List HoldD} (h : ∀ x ∈ l, p x = false) : findP p l = -1 := by
  unfold findP
  rw [List.findIdx?_eq_none_iff.2 h]
set_option maxRecDepth 100000 in
theorem findP_some {p : HoldD → Bool} {l : List HoldD} {i : Nat} {x : HoldD} (hx : l[i]? = some x) (he : p x = true) (h : ∀ y ∈ l.take i, p y = false) : findP p l = (i : Int) := by
  obtain ⟨hi, rfl⟩ := List.getElem?_eq_some_iff.1 hx
  have h1 : l.findIdx? p = some i := by
    rw [List.findIdx?_eq_some_iff_getElem]
    refine ⟨hi, he, fun j hj => ?_⟩
    have hm : l[j] ∈ l.take i := by rw [List.mem_take_iff_getElem]; exact ⟨j, by omega, rfl⟩
    simpa using h _ hm
  unfold findP
  rw [h1]
set_option maxRecDepth 100000 in
theorem take_all_next {p : HoldD → Bool} {l : List HoldD} {i : Nat} {x : HoldD} (hx : l[i]? = some x) (he : p x = false) (h : ∀ y ∈ l.take i, p y = false) : ∀ y ∈ l.take (i + 1), p y = false := by
  obtain ⟨h5, h6⟩ := List.getElem?_eq_some_iff.1 hx
  rw [List.take_succ_eq_append_getElem h5, h6]
  intro y hy
  rcases List.mem_append.1 hy with hy | hy
  · exact h y hy
  · rw [List.mem_singleton.1 hy]; exact he
end Go.Proofs.YtpeeagkfhdeagaaDoor
/- slices.DeleteFunc over holds; HoldDrop, LiveOnes of the program; no conditions. -/
set_option linter.unusedVariables false
namespace Go.Proofs.YtpeeagkfhdeagaaDoor
open Go.ChangeShapes Go.WideShapes Go.ChangeAt Go.RowKit

/-- the holds that stay -/
def staysP (p : HoldD → Bool) (l : List HoldD) : List HoldD := l.filter fun x => !p x
set_option maxRecDepth 100000 in
theorem stays_all {p : HoldD → Bool} {l : List HoldD} (h : ∀ x ∈ l, p x = false) : staysP p l = l := List.filter_eq_self.2 fun x hx => by rw [h x hx]; rfl
set_option maxRecDepth 100000 in
theorem stays_next {p : HoldD → Bool} {l : List HoldD} {j : Nat} {x : HoldD} (hx : l[j]? = some x) : staysP p (l.take (j + 1)) = if p x = true then staysP p (l.take j) else staysP p (l.take j) ++ [x] := by
  obtain ⟨hj, rfl⟩ := List.getElem?_eq_some_iff.1 hx
  unfold staysP
  rw [List.take_succ_eq_append_getElem hj, List.filter_append]
  cases hp : p l[j] <;> simp [hp]
set_option maxRecDepth 100000 in
theorem stays_len (p : HoldD → Bool) (l : List HoldD) : (staysP p l).length ≤ l.length := List.length_filter_le _ _
set_option maxRecDepth 100000 in
theorem findP_cases (p : HoldD → Bool) (l : List HoldD) : (findP p l = -1 ∧ ∀ x ∈ l, p x = false) ∨ ∃ (i : Nat) (x : HoldD), l[i]? = some x ∧ findP p l = (i : Int) ∧ p x = true ∧ ∀ y ∈ l.take i, p y = false := by
  unfold findP
  cases h : l.findIdx? p with
  | none => exact .inl ⟨rfl, List.findIdx?_eq_none_iff.1 h⟩
  | some i =>
    obtain ⟨hi, h1, h2⟩ := List.findIdx?_eq_some_iff_getElem.1 h
    refine .inr ⟨i, l[i], List.getElem?_eq_getElem hi, rfl, h1, fun y hy => ?_⟩
    obtain ⟨k, hk, rfl⟩ := List.mem_take_iff_getElem.1 hy
    have := h2 k (by omega)
    simpa using this
/-- n holds in block g, the first i of them those of l's first j that stay, from j on l's own -/
def cutH (p : HoldD → Bool) (l : List HoldD) (g i j : Nat) (w : World) : Prop := ∃ L : List HoldD, L.length = l.length ∧ L.take i = staysP p (l.take j) ∧ L.drop j = l.drop j ∧ i < j ∧ j ≤ l.length ∧ filled w g 0 3 l.length l.length fun k => hCells (L.getD k noH)
set_option maxRecDepth 100000 in
theorem cutH.keep {p : HoldD → Bool} {l : List HoldD} {g i j : Nat} {w w' : World} (h : cutH p l g i j w) (hk : w'.heap[g]? = w.heap[g]?) : cutH p l g i j w' := by
  obtain ⟨L, h1, h2, h3, h4, h5, h6⟩ := h
  exact ⟨L, h1, h2, h3, h4, h5, h6.keep hk⟩
set_option maxRecDepth 100000 in
theorem cutH.lt {p : HoldD → Bool} {l : List HoldD} {g i j : Nat} {w : World} (h : cutH p l g i j w) : i < j ∧ j ≤ l.length := by
  obtain ⟨L, h1, h2, h3, h4, h5, h6⟩ := h
  exact ⟨h4, h5⟩
set_option maxRecDepth 100000 in
theorem cutH.start {p : HoldD → Bool} {l : List HoldD} {g i : Nat} {w : World} {x : HoldD} (hx : l[i]? = some x) (he : p x = true) (h : ∀ y ∈ l.take i, p y = false) (hr : filled w g 0 3 l.length l.length fun k => hCells (l.getD k noH)) : cutH p l g i (i + 1) w := by
  have hi := (List.getElem?_eq_some_iff.1 hx).1
  refine ⟨l, rfl, ?_, rfl, by omega, by omega, hr⟩
  rw [stays_next hx, if_pos he, stays_all h]
set_option maxRecDepth 100000 in
/-- the next element, as it lies -/
theorem cutH.next {p : HoldD → Bool} {l : List HoldD} {g i j : Nat} {w : World} (h : cutH p l g i j w) {x : HoldD} (hx : l[j]? = some x) : w.cell? ⟨g, j * 3, none⟩ = some (.string x.1) ∧ w.cell? ⟨g, j * 3 + 1, none⟩ = some (.int .i64 x.2.1) ∧ w.cell? ⟨g, j * 3 + 2, none⟩ = some (.int .i64 x.2.2) := by
  obtain ⟨L, h1, h2, h3, h4, h5, h6⟩ := h
  have hj := (List.getElem?_eq_some_iff.1 hx).1
  have e : L[j]? = some x := by
    have e1 : L[j]? = (L.drop j)[0]? := by rw [List.getElem?_drop, Nat.add_zero]
    rw [e1, h3, List.getElem?_drop, Nat.add_zero, hx]
  have ha := h6.at_ j hj
  have e2 : L.getD j noH = x := by rw [List.getD_eq_getElem?_getD, e]; rfl
  rw [e2, Nat.zero_add] at ha
  exact ⟨ha 0 _ rfl, ha 1 _ rfl, ha 2 _ rfl⟩
set_option maxRecDepth 100000 in
/-- the place that is written, as it lies -/
theorem cutH.place {p : HoldD → Bool} {l : List HoldD} {g i j : Nat} {w : World} (h : cutH p l g i j w) : ∀ t, t < 3 → (∃ u, w.cell? ⟨g, i * 3 + t, none⟩ = some u) ∧ w.frozen? ⟨g, i * 3 + t, none⟩ = false := by
  obtain ⟨L, h1, h2, h3, h4, h5, h6⟩ := h
  intro t ht
  have := h6.cells (show i < l.length by omega) t ht
  rwa [Nat.zero_add] at this
set_option maxRecDepth 100000 in
theorem cutH.skip {p : HoldD → Bool} {l : List HoldD} {g i j : Nat} {w : World} (h : cutH p l g i j w) {x : HoldD} (hx : l[j]? = some x) (hp : p x = true) : cutH p l g i (j + 1) w := by
  obtain ⟨L, h1, h2, h3, h4, h5, h6⟩ := h
  have hj := (List.getElem?_eq_some_iff.1 hx).1
  refine ⟨L, h1, ?_, ?_, by omega, by omega, h6⟩
  · rw [stays_next hx, if_pos hp]; exact h2
  · rw [← List.drop_drop, h3, List.drop_drop]
set_option maxRecDepth 100000 in
theorem cutH.stay {p : HoldD → Bool} {l : List HoldD} {g i j : Nat} {w : World} (h : cutH p l g i j w) {x : HoldD} (hx : l[j]? = some x) (hp : p x = false) : cutH p l g (i + 1) (j + 1) (setsAt w g (i * 3) (hCells x)) := by
  obtain ⟨L, h1, h2, h3, h4, h5, h6⟩ := h
  have hj := (List.getElem?_eq_some_iff.1 hx).1
  have hi : i < L.length := by omega
  refine ⟨L.set i x, by simpa using h1, ?_, ?_, by omega, by omega, ?_⟩
  · rw [stays_next hx, if_neg (by rw [hp]; exact Bool.false_ne_true), ← h2, List.take_succ_eq_append_getElem (by simpa using hi), List.getElem_set_self]
    congr 1
    rw [List.take_set_of_le (Nat.le_refl _)]
  · rw [List.drop_set_of_lt (by omega), ← List.drop_drop, h3, List.drop_drop]
  · have e : hCells ((L.set i x).getD i noH) = hCells x := by rw [List.getD_eq_getElem?_getD, List.getElem?_set_self hi]; rfl
    have := h6.put (E' := fun k => hCells ((L.set i x).getD k noH)) (show i < l.length by omega) (fun _ _ => rfl) rfl (fun j _ hne => by
      show hCells _ = hCells _
      rw [List.getD_eq_getElem?_getD, List.getD_eq_getElem?_getD, List.getElem?_set_ne (fun e => hne e.symm)])
    rw [Nat.zero_add] at this
    simp only [e] at this
    exact this
set_option maxRecDepth 100000 in
theorem cutH.tail {p : HoldD → Bool} {l : List HoldD} {g i j : Nat} {w : World} (h : cutH p l g i j w) : roomL w g (i * 3) ((l.length - i) * 3) := by
  obtain ⟨L, h1, h2, h3, h4, h5, h6⟩ := h
  exact h6.room.sub (by omega) (by omega)
set_option maxRecDepth 100000 in
theorem cutH.done {p : HoldD → Bool} {l : List HoldD} {g i : Nat} {w : World} (h : cutH p l g i l.length w) (us : List Value) : i = (staysP p l).length ∧ filled (setsAt w g (i * 3) us) g 0 3 i i fun k => hCells ((staysP p l).getD k noH) := by
  obtain ⟨L, h1, h2, h3, h4, h5, h6⟩ := h
  rw [List.take_length] at h2
  have e : i = (staysP p l).length := by rw [← h2, List.length_take]; omega
  have hf := h6.ahead (i := i) (by omega) (fun _ _ => rfl) us
  refine ⟨e, hf.room, fun k hk => ?_⟩
  have hk2 : (staysP p l).getD k noH = L.getD k noH := by rw [← h2, List.getD_eq_getElem?_getD, List.getD_eq_getElem?_getD, List.getElem?_take, if_pos hk]
  show atL _ _ _ (hCells _)
  rw [hk2]
  exact hf.at_ k hk
set_option maxRecDepth 100000 in
theorem nil_own {lo hi : Nat} {w : World} (l : List HoldD) (A : Option Addr) (c : Nat) (h : l.length = 0) : HoldsR.mine lo hi w [.slice A l.length c] l := by
  obtain rfl := List.eq_nil_of_length_eq_zero h
  exact ⟨[], ⟨A, c, rfl, Nat.zero_le _, .inl ⟨rfl, rfl⟩⟩, List.nodup_nil, by simp⟩
set_option maxRecDepth 100000 in
theorem infoHold2 : (Tryd.prog.info? 73).map (fun i => (i.zero.map (·.cells), i.size)) = some (some #[.string ⟨#[]⟩, .int .i64 0, .int .i64 0], 3) := by kernel_rfl
set_option maxRecDepth 100000 in
theorem stays_drop (l : List HoldD) (id : ByteArray) : staysP (fun x => decide (x.1 = id)) l = dropL l id := by
  unfold staysP dropL
  congr 1
  funext x
  simp
set_option maxRecDepth 100000 in
theorem stays_live (l : List HoldD) (now : Int) : staysP (fun x => !live now x) l = liveL l now := by
  unfold staysP liveL
  congr 1
  funext x
  simp
end Go.Proofs.YtpeeagkfhdeagaaDoor
/- Stored and LiveSum of the program. The library's table of type handles holds what its text lays. -/
set_option linter.unusedVariables false
namespace Go.Proofs.YtpeeagkfhdeagaaDoor
open Go.ChangeShapes Go.WideShapes Go.ChangeAt Go.RowKit

set_option maxRecDepth 100000 in
set_option maxHeartbeats 1600000 in
theorem implStored_any (hi : Nat) (v : Value) (l : List HoldD) (w : World) (hg : Handle w) (hn : l.length ≤ 1048576) (h : HoldsR.rd hi w [v] l) (hh : hi ≤ w.heap.size) :
    Calls Tryd.prog 69 #[v] w fun e w' => e = .returned (.int .i64 (storedL l)) ∧ Below w.heap.size w w' := by
  obtain ⟨A, c, rfl, hc, h⟩ := holds_rd h
  have HR := Lib.hid h
  have HG := Lib.hid hg
  clear h hg
  go_enter Tryd.func69, Tryd.ntmps69
  go_wp2
  go_loopw [3, 8] (fun nv iv wr => ∃ i : Nat, i ≤ l.length ∧ iv = .int .i64 i ∧ nv = .int .i64 (storedL (l.take i)) ∧ Hid (Below w.heap.size w wr) ∧ w.heap.size ≤ wr.heap.size) (fun _ iv _ => l.length - (intOf iv).toNat)
  case atStart => exact ⟨0, Nat.zero_le _, rfl, rfl, Lib.hid (Below.refl _ _), Nat.le_refl _⟩
  case round =>
    obtain ⟨i, hi', rfl, rfl, HB, hz⟩ := hrel
    by_cases hin : i < l.length
    · obtain ⟨x, hx⟩ : ∃ x, l[i]? = some x := ⟨_, List.getElem?_eq_getElem hin⟩
      obtain ⟨b, off, rfl, hbl, c0, c1, c2⟩ := HR.out i x hx
      have HNX := Lib.hid (storedL_next hx)
      clear hx
      have c0 := (HB.out.cell (p := ⟨b, off + i * 3, none⟩) (show b < w.heap.size by omega)).trans c0
      have c1 := (HB.out.cell (p := ⟨b, off + i * 3 + 1, none⟩) (show b < w.heap.size by omega)).trans c1
      have c2 := (HB.out.cell (p := ⟨b, off + i * 3 + 2, none⟩) (show b < w.heap.size by omega)).trans c2
      have g1 : (i : Int) < (l.length : Int) := by omega
      have g2 : 0 ≤ (i : Int) := by omega
      have HSA := Lib.hid (fun W (hW : Below w.heap.size w W) => implSat_any (storedL (l.take i)) x.2.1 W (HG.out.below hW (Nat.le_refl _)))
      have HB2 : Hid (Below w.heap.size w (wr.alloc (.cells #[.string x.1, .int .i64 x.2.1, .int .i64 x.2.2] 73))) := Lib.hid (HB.out.alloc hz _)
      go_wp2_with fail
      refine (HSA.out _ HB2.out).mono ?_
      rintro e w5 ⟨rfl, hb5⟩
      have HB5 : Hid (Below w.heap.size w w5) := Lib.hid (HB2.out.trans (hb5.mono (by simp; omega)))
      have z5 := hb5.size
      have z6 : w.heap.size ≤ w5.heap.size := by simp at z5; omega
      clear hb5 z5
      go_wp2
      go_roundw
      case rel => exact ⟨i + 1, by omega, by go_num, by rw [HNX.out], HB5, z6⟩
      case measure => simp [intOf] <;> omega
    · obtain rfl : i = l.length := by omega
      rw [List.take_length]
      go_wp2
      go_ret
      exact ⟨rfl, HB.out⟩
end Go.Proofs.YtpeeagkfhdeagaaDoor
/- A message's type: four digits; no conditions. -/
set_option linter.unusedVariables false
namespace Go.Proofs.YtpeeagkfhdeagaaDoor
open Go.ChangeShapes Go.WideShapes Go.ChangeAt Go.RowKit

def mtiOk (s : ByteArray) : Bool := digs s && decide (s.size = 4)
set_option maxRecDepth 100000 in
theorem isMti_any (s : ByteArray) (w : World) (hs : s.size ≤ maxLen) :
    Calls Tryd.prog 89 #[.string s] w fun e w' => e = .returned (.bool (mtiOk s)) ∧ Below w.heap.size w w' := by
  by_cases h4 : s.size = 4
  · have HM : Hid (mtiOk s = digs s) := Lib.hid (by simp [mtiOk, h4])
    rw [HM.out]
    have h4' : ((s.size : Int) == 4) = true := by simp [h4]
    have HD := Lib.hid (fun w' => implDigits_any s w' hs)
    clear h4
    go_enter Tryd.func89, Tryd.ntmps89
    go_wp2_with fail
    refine (HD.out _).mono ?_
    rintro e w1 ⟨rfl, hb⟩
    go_wp2
    go_ret
    exact ⟨rfl, hb⟩
  · have HM : Hid (mtiOk s = false) := Lib.hid (by simp [mtiOk, h4])
    rw [HM.out]
    have h4' : ((s.size : Int) == 4) = false := by simp; omega
    clear h4
    go_enter Tryd.func89, Tryd.ntmps89
    go_wp2
    go_ret
    exact ⟨rfl, Below.refl _ _⟩
end Go.Proofs.YtpeeagkfhdeagaaDoor
/- SlotOk of the program and what it calls; no conditions. -/
set_option linter.unusedVariables false
namespace Go.Proofs.YtpeeagkfhdeagaaDoor
open Go.ChangeShapes Go.WideShapes Go.ChangeAt Go.RowKit

def traceOk (s : ByteArray) : Bool := digs s && decide (s.size = 6)
set_option maxRecDepth 100000 in
theorem isTrace_any (s : ByteArray) (w : World) (hs : s.size ≤ maxLen) :
    Calls Tryd.prog 88 #[.string s] w fun e w' => e = .returned (.bool (traceOk s)) ∧ Below w.heap.size w w' := by
  by_cases h4 : s.size = 6
  · have HM : Hid (traceOk s = digs s) := Lib.hid (by simp [traceOk, h4])
    rw [HM.out]
    have h4' : ((s.size : Int) == 6) = true := by simp [h4]
    have HD := Lib.hid (fun w' => implDigits_any s w' hs)
    clear h4
    go_enter Tryd.func88, Tryd.ntmps88
    go_wp2_with fail
    refine (HD.out _).mono ?_
    rintro e w1 ⟨rfl, hb⟩
    go_wp2
    go_ret
    exact ⟨rfl, hb⟩
  · have HM : Hid (traceOk s = false) := Lib.hid (by simp [traceOk, h4])
    rw [HM.out]
    have h4' : ((s.size : Int) == 6) = false := by simp; omega
    clear h4
    go_enter Tryd.func88, Tryd.ntmps88
    go_wp2
    go_ret
    exact ⟨rfl, Below.refl _ _⟩
set_option maxRecDepth 100000 in
theorem slotOk_parts (x : SlotD) : slotOk x = (traceOk x.1 && (mtiOk x.2.1 && inB (x.2.2.length : Int) 1 200)) := by
  unfold slotOk traceOk mtiOk
  simp only [Bool.and_assoc]
set_option maxRecDepth 100000 in
set_option maxHeartbeats 1600000 in
theorem implSlotOk_any (hi : Nat) (v : Value) (x : SlotD) (w : World) (hs1 : x.1.size ≤ maxLen) (hs2 : x.2.1.size ≤ maxLen) (h : rd .u8 hi w v x.2.2) :
    Calls Tryd.prog 83 #[.agg #[.string x.1, .string x.2.1, v]] w fun e w' => e = .returned (.bool (slotOk x)) ∧ Below w.heap.size w w' := by
  obtain ⟨A, c, rfl, -⟩ := h.form
  clear h
  have HT := Lib.hid (fun w => isTrace_any x.1 w hs1)
  have HM := Lib.hid (fun w => isMti_any x.2.1 w hs2)
  have HV := Lib.hid (slotOk_parts x)
  generalize traceOk x.1 = b1 at HT HV
  generalize mtiOk x.2.1 = b2 at HM HV
  rw [HV.out]
  clear hs1 hs2
  go_enter Tryd.func83, Tryd.ntmps83
  go_upto_region 1 with fail
  obtain ⟨W, hW⟩ : ∃ W, W = w.alloc (.cells #[.string x.1, .string x.2.1, .slice A x.2.2.length c] 78) := ⟨_, rfl⟩
  have b0 : bk W w.heap.size 78 [.string x.1, .string x.2.1, .slice A x.2.2.length c] := by rw [hW]; exact bk.new w _ _
  have HB0 : Hid (Below w.heap.size w W) := Lib.hid (by rw [hW]; exact (Below.refl _ _).alloc (Nat.le_refl _) _)
  have z0 := b0.lt
  rw [← hW]
  clear hW
  have B0 := Lib.hid b0
  obtain ⟨p0, p1, p2⟩ := b0.cells3
  clear b0
  go_wp2_with fail
  refine (HT.out W).mono ?_
  rintro e w1 ⟨rfl, hb1⟩
  have z1 := hb1.size
  have HB1 : Hid (Below w.heap.size w w1) := Lib.hid (HB0.out.trans (hb1.mono (by omega)))
  have B1 := Lib.hid (B0.out.below hb1 z0)
  clear hb1 p0 p1 p2 B0 HB0
  obtain ⟨p0, p1, p2⟩ := B1.out.cells3
  cases b1
  · go_wp2
    go_ret
    exact ⟨rfl, HB1.out⟩
  go_wp2_with fail
  refine (HM.out w1).mono ?_
  rintro e w2 ⟨rfl, hb2⟩
  have z2 := hb2.size
  have HB2 : Hid (Below w.heap.size w w2) := Lib.hid (HB1.out.trans (hb2.mono (by omega)))
  have B2 := Lib.hid (B1.out.below hb2 (by omega))
  clear hb2 p0 p1 p2 B1 HB1
  obtain ⟨p0, p1, p2⟩ := B2.out.cells3
  cases b2
  · go_wp2
    go_ret
    exact ⟨rfl, HB2.out⟩
  by_cases e1 : (1 : Int) ≤ (x.2.2.length : Int)
  · by_cases e2 : (x.2.2.length : Int) ≤ 200
    all_goals
      go_wp2
      go_ret
      exact ⟨by simp [inB]; omega, HB2.out⟩
  · go_wp2
    go_ret
    exact ⟨by simp [inB]; omega, HB2.out⟩
end Go.Proofs.YtpeeagkfhdeagaaDoor
/- The key of a slot: compared as a struct, and what it reads as in a map; no conditions. -/
set_option linter.unusedVariables false
namespace Go.Proofs.YtpeeagkfhdeagaaDoor
open Go.ChangeShapes Go.WideShapes Go.ChangeAt Go.RowKit
open Go.Maps (Keyed IsMap)

set_option maxRecDepth 100000 in
theorem str_beq (a b : ByteArray) : (a.toList == b.toList) = decide (a = b) := by
  by_cases h : a = b
  · subst h; simp
  · have h' : ¬ a.toList = b.toList := fun e => h (str_eq_list.1 e)
    rw [decide_eq_false h]; simpa using h'
set_option maxRecDepth 100000 in
theorem keyFields : (Tryd.prog.fieldsOf 100).toList.map (fun f => (f.type, f.offset, decide (f.name ≠ "_"))) = [(9, 0, true), (9, 1, true)] := by kernel_rfl
set_option maxRecDepth 100000 in
theorem keyUnder : Tryd.prog.underlying 100 = some (.struct (Tryd.prog.fieldsOf 100)) := by kernel_rfl
set_option maxRecDepth 100000 in
theorem keyEql (a b c d : ByteArray) (w : World) : (binOp .eql 100 (.agg #[.string a, .string b]) (.agg #[.string c, .string d])).run Tryd.prog w = .ok (.bool (decide (a = c) && decide (b = d))) w := by
  have hs : Tryd.prog.stoodInHeld 100 = false := by kernel_rfl
  rw [run_eql_struct, run_equalIn_struct w 9999 _ _ _ keyUnder hs, ← str_beq, ← str_beq]
  have hf := keyFields
  generalize (Tryd.prog.fieldsOf 100).toList = fs at hf
  have hl : fs.length = 2 := by simpa using congrArg List.length hf
  match fs, hl, hf with
  | [f, g], _, hf =>
    simp only [List.map_cons, List.map_nil, List.cons.injEq, Prod.mk.injEq, and_true, decide_eq_true_eq] at hf
    obtain ⟨⟨f1, f2, f3⟩, g1, g2, g3⟩ := hf
    have p1 : ∀ u v : Value, (Go.part 9 #[u, v] 0).run Tryd.prog w = .ok u w := fun u v => by kernel_rfl
    have p2 : ∀ u v : Value, (Go.part 9 #[u, v] 1).run Tryd.prog w = .ok v w := fun u v => by kernel_rfl
    have s1 := fun a b => run_equalIn_string (P := Tryd.prog) w 9998 9 a b Tryd.underlying9
    simp only [Op.eqFields, f1, f2, f3, g1, g2, g3, if_true, Sem.run_bind, Sem.run_ite, Sem.run_pure, p1, p2, s1, Result.andThen_ok, ne_eq, not_false_eq_true]
    cases (a.toList == c.toList) <;> cases (b.toList == d.toList) <;> simp
set_option maxRecDepth 100000 in
theorem keyLaidOut : laidOutB Tryd.prog = true := by kernel_rfl
set_option maxRecDepth 100000 in
theorem keyRow : (100 : TypeId) < Tryd.prog.types.size := of_decide_eq_true (by kernel_rfl)
set_option maxRecDepth 100000 in
theorem keyWide : (match Tryd.prog.underlying 100 with | some (.array _ _) | some (.struct _) => true | _ => false) = true := by rw [keyUnder]
set_option maxRecDepth 100000 in
theorem lawKey : Keyed Tryd.prog 100 := Keyed.of_law (deep_law_laid keyLaidOut (m := 2) (by omega) keyRow (by kernel_rfl) keyWide)
/-- what a key reads as -/
def keyLit (t m : ByteArray) : Lit := .string (keyBytes [.string t.data.toList, .string m.data.toList])
set_option maxRecDepth 100000 in
theorem keyFormed (u v : Value) : (Value.agg #[u, v]).formed Tryd.prog 100 = true := by
  have hc : Tryd.prog.cellsOf 100 = 2 := by kernel_rfl
  simp [Value.formed, hc]
set_option maxRecDepth 100000 in
theorem keyDeep : Tryd.prog.keyType 100 = true := by kernel_rfl
set_option maxRecDepth 100000 in
theorem keyOf_slot (t m : ByteArray) (ht : t.size ≤ maxLen) (hm : m.size ≤ maxLen) : keyOf Tryd.prog 100 (.agg #[.string t, .string m]) = some (keyLit t m) := by
  obtain ⟨N, hN⟩ : ∃ N, Tryd.prog.types.size = N + 1 := ⟨_, (Nat.succ_pred_eq_of_pos (Nat.lt_of_le_of_lt (Nat.zero_le _) keyRow)).symm⟩
  have hc : Tryd.prog.cellsOf 100 = 2 := by kernel_rfl
  have hcs : Tryd.prog.cellsOf 9 = 1 := by kernel_rfl
  have hk : Tryd.prog.keyLits (Tryd.prog.types.size + 1) 100 [.string t, .string m] = some [.string t.data.toList, .string m.data.toList] := by
    rw [hN]
    unfold Program.keyLits
    rw [keyUnder]
    have hf := keyFields
    have hall : (Tryd.prog.fieldsOf 100).all (·.name != "_") = true := by kernel_rfl
    simp only [List.length_cons, List.length_nil, hc, hall, and_self, if_true]
    generalize (Tryd.prog.fieldsOf 100).toList = fs at hf ⊢
    have hl : fs.length = 2 := by simpa using congrArg List.length hf
    match fs, hl, hf with
    | [f, g], _, hf =>
      simp only [List.map_cons, List.map_nil, List.cons.injEq, Prod.mk.injEq, and_true, decide_eq_true_eq] at hf
      obtain ⟨⟨f1, f2, -⟩, g1, g2, -⟩ := hf
      have h1 : ∀ s : ByteArray, s.size ≤ maxLen → Tryd.prog.keyLits (N + 1) 9 [.string s] = some [.string s.data.toList] := fun s hs => by
        unfold Program.keyLits
        rw [Tryd.underlying9]
        simp [hs]
      simp [f1, f2, g1, g2, hcs, h1 t ht, h1 m hm]
  unfold keyOf
  rw [keyUnder]
  have hcells : (Value.agg #[.string t, .string m]).cells.toList = [.string t, .string m] := rfl
  simp only [keyDeep, keyFormed, Bool.and_self, if_true, hcells, hk, Option.map_some]
  rfl
set_option maxRecDepth 100000 in
theorem keyLit_inj {t m t' m' : ByteArray} (ht : t.size ≤ maxLen) (hm : m.size ≤ maxLen) (ht' : t'.size ≤ maxLen) (hm' : m'.size ≤ maxLen) (h : keyLit t m = keyLit t' m') : t = t' ∧ m = m' := by
  have h1 := keyOf_slot t m ht hm
  have h2 := keyOf_slot t' m' ht' hm'
  rw [h] at h1
  have := lawKey.inj h1 h2
  simp only [Value.agg.injEq, Array.mk.injEq, List.cons.injEq, Value.string.injEq, and_true] at this
  exact this
set_option maxRecDepth 100000 in
theorem keyLit_key (t m : ByteArray) : WideAt.IsKeyLit (keyLit t m) := by simp [keyLit, WideAt.IsKeyLit]
/-- the map holds just the keys of the slots of the list -/
structure keysAre (D : DataW Unit) (L : List SlotD) : Prop where
  isMap : IsMap D
  at_ : ∀ t m : ByteArray, t.size ≤ maxLen → m.size ≤ maxLen → D.atKey (keyLit t m) (.lit (.bool false)) = .lit (.bool (L.any (isSlot t m)))
set_option maxRecDepth 100000 in
theorem keysAre.start : keysAre (.map [] : DataW Unit) [] := ⟨Maps.isMap_empty, fun t m _ _ => rfl⟩
set_option maxRecDepth 100000 in
theorem keysAre.snoc {D : DataW Unit} {L : List SlotD} {x : SlotD} (h : keysAre D L) (h1 : x.1.size ≤ maxLen) (h2 : x.2.1.size ≤ maxLen) : keysAre (D.put (keyLit x.1 x.2.1) (.lit (.bool true))) (L ++ [x]) := by
  refine ⟨h.isMap.put _ _, fun t m ht hm => ?_⟩
  rw [List.any_append]
  by_cases e : t = x.1 ∧ m = x.2.1
  · obtain ⟨rfl, rfl⟩ := e
    rw [Maps.atKey_put_same h.isMap (keyLit_key _ _)]
    simp [isSlot]
  · have hne : keyLit t m ≠ keyLit x.1 x.2.1 := fun e' => e (keyLit_inj ht hm h1 h2 e')
    rw [Maps.atKey_put_other hne, h.at_ t m ht hm]
    have : isSlot t m x = false := by
      unfold isSlot
      rw [Bool.and_eq_false_iff]
      by_cases e1 : x.1 = t
      · exact .inr (decide_eq_false fun e2 => e ⟨e1.symm, e2.symm⟩)
      · exact .inl (decide_eq_false e1)
    simp [this]
set_option maxRecDepth 100000 in
theorem plainElem_bool_inv {P : Program} {e : TypeId} (he : P.underlying e = some .bool) {v : Value} {z : DataW Unit × List MemPlace} (h : plainElem P e v = some z) : ∃ b, v = .bool b ∧ z = (.lit (.bool b), []) := by
  unfold plainElem at h
  rw [he] at h
  split at h <;> simp_all
set_option maxRecDepth 100000 in
/-- the look-up of a bool, at the operation -/
theorem look_bool {P : Program} (w : World) {ops : Array Oper} {rest : List Oper} {o : Oper} {a : Act} {Q : Exit → Act → World → Prop}
    (hg : o.guard = none) (m x : Operand) (t : TypeId) (hop : o.op = Op.lookup t m x false)
    (k e : TypeId) (K : Keyed P k) (ht : P.underlying t = some (.map k e)) (he : P.underlying e = some .bool) (hz : (zeroValue e).run P w = .ok (.bool false) w) (b n : Nat) (D : DataW Unit)
    (hm : a.eval m = .map (some b)) (hown : w.ownsMap P k (plainElem P e) b n D) (key : Value) (kl : Lit) (hx : a.eval x = key) (hkey : keyOf P k key = some kl) (s : Bool) (hat : D.atKey kl (.lit (.bool false)) = .lit (.bool s))
    (hK : wpList P ops Q rest (a.put o.dst (.bool s)) w) :
    wpList P ops Q (o :: rest) a w := by
  refine wpList_plain hg fun K' hK' => ?_
  obtain ⟨v, ps, hrun, hv⟩ := hown.lookup K ht hz (plainElem_bool he false) hkey
  obtain ⟨c, rfl, hc⟩ := plainElem_bool_inv he hv
  rw [hat] at hc
  simp only [Prod.mk.injEq, DataW.lit.injEq, Lit.bool.injEq] at hc
  obtain rfl : s = c := hc.1
  unfold Oper.wp
  simp [execOp, hop, hm, hx, hrun, Result.andThen]
  exact hK' _ _ hK
set_option maxRecDepth 100000 in
theorem look_bool_run {P : Program} {w : World} {t k e : TypeId} (K : Keyed P k) (ht : P.underlying t = some (.map k e)) (he : P.underlying e = some .bool) (hz : (zeroValue e).run P w = .ok (.bool false) w) {b n : Nat} {D : DataW Unit}
    (hown : w.ownsMap P k (plainElem P e) b n D) {key : Value} {kl : Lit} (hkey : keyOf P k key = some kl) {s : Bool} (hat : D.atKey kl (.lit (.bool false)) = .lit (.bool s)) :
    (Instr.lookup t (.map (some b)) key false).run P w = .ok (.bool s) w := by
  obtain ⟨v, ps, hrun, hv⟩ := hown.lookup K ht hz (plainElem_bool he false) hkey
  obtain ⟨c, rfl, hc⟩ := plainElem_bool_inv he hv
  rw [hat] at hc
  simp only [Prod.mk.injEq, DataW.lit.injEq, Lit.bool.injEq] at hc
  obtain rfl : s = c := hc.1
  exact hrun
end Go.Proofs.YtpeeagkfhdeagaaDoor
/- SlotsOk of the program: a map keyed by a struct; no conditions. -/
set_option linter.unusedVariables false
namespace Go.Proofs.YtpeeagkfhdeagaaDoor
open Go.ChangeShapes Go.WideShapes Go.ChangeAt Go.RowKit
open Go.Maps (Keyed IsMap)

set_option maxRecDepth 100000 in
theorem implKeyOf_any (A : Option Addr) (n c : Nat) (s t : ByteArray) (w : World) :
    Calls Tryd.prog 82 #[.agg #[.string s, .string t, .slice A n c]] w fun e w' => e = .returned (.agg #[.string s, .string t]) ∧ Below w.heap.size w w' := by
  go_enter Tryd.func82, Tryd.ntmps82
  go_upto_region 1 with fail
  obtain ⟨W, hW⟩ : ∃ W, W = (w.alloc (.cells #[.string s, .string t, .slice A n c] 78)).alloc (.cells #[.string ⟨#[]⟩, .string ⟨#[]⟩] 100) := ⟨_, rfl⟩
  have b0 : bk W w.heap.size 78 [.string s, .string t, .slice A n c] := by rw [hW]; exact (bk.new w _ _).alloc _
  have b1 : bk W (w.heap.size + 1) 100 [.string ⟨#[]⟩, .string ⟨#[]⟩] := by rw [hW]; have := bk.new (w.alloc (.cells #[.string s, .string t, .slice A n c] 78)) 100 [.string ⟨#[]⟩, .string ⟨#[]⟩]; simpa using this
  have HB0 : Hid (Below w.heap.size w W) := Lib.hid (by rw [hW]; exact ((Below.refl _ _).alloc (Nat.le_refl _) _).alloc (by simp) _)
  rw [← hW]
  clear hW
  obtain ⟨p0, p1, p2⟩ := b0.cells3
  have q0 := b1.cell 0
  have q1 := b1.cell 1
  have f0 := b1.frozen 0
  have f1 := b1.frozen 1
  simp only [List.getElem?_cons_zero, List.getElem?_cons_succ] at q0 q1
  clear b0 b1
  go_wp2
  refine bodyPost_ret (v := .agg #[.string s, .string t]) (by simp [results, Tryd.results82, go_sem, q0, q1]) rfl ?_
  exact ⟨rfl, (HB0.out.setCell (p := ⟨w.heap.size + 1, 0, none⟩) (Nat.le_succ _) _).setCell (p := ⟨w.heap.size + 1, 1, none⟩) (Nat.le_succ _) _⟩
set_option maxRecDepth 100000 in
theorem zeroBool (w : World) : (zeroValue 4).run Tryd.prog w = .ok (.bool false) w := by kernel_rfl
/-- block b holds a map from keys to bools -/
abbrev keysAt (w : World) (b n : Nat) (D : DataW Unit) : Prop := w.ownsMap Tryd.prog 100 (plainElem Tryd.prog 4) b n D
set_option maxRecDepth 100000 in
theorem keys_look {w : World} {b n : Nat} {D : DataW Unit} {L : List SlotD} {x : SlotD} (ho : keysAt w b n D) (hk : keysAre D L) (h1 : x.1.size ≤ maxLen) (h2 : x.2.1.size ≤ maxLen) :
    (Instr.lookup 98 (.map (some b)) (.agg #[.string x.1, .string x.2.1]) false).run Tryd.prog w = .ok (.bool (L.any (isSlot x.1 x.2.1))) w :=
  look_bool_run lawKey Tryd.underlying98 Tryd.underlying4 (zeroBool w) ho (keyOf_slot _ _ h1 h2) (hk.at_ _ _ h1 h2)
set_option maxRecDepth 100000 in
theorem keysAt_below {w w' : World} {b n C : Nat} {D : DataW Unit} (h : keysAt w b n D) (hb : Below C w w') (hC : b < C) : keysAt w' b n D := by
  obtain ⟨es, clock, h1, rest⟩ := h
  exact ⟨es, clock, (hb.block b hC).trans h1, rest⟩
set_option maxRecDepth 100000 in
set_option maxHeartbeats 3200000 in
theorem implSlotsOk_any (hi : Nat) (v : Value) (l : List SlotD) (w : World) (hn : l.length ≤ 2000000) (hs : ∀ x ∈ l, x.1.size ≤ maxLen ∧ x.2.1.size ≤ maxLen) (h : SlotsR.rd hi w [v] l) (hh : hi ≤ w.heap.size) :
    Calls Tryd.prog 67 #[v] w fun e w' => e = .returned (.bool (slotsOk l)) ∧ Below w.heap.size w w' := by
  obtain ⟨A, c, rfl, hc, h⟩ := slots_rd h
  have HR := Lib.hid h
  have HS := Lib.hid hs
  clear h hs
  by_cases hbig : 6 < l.length
  · have HV : Hid (slotsOk l = false) := Lib.hid (by unfold slotsOk; rw [decide_eq_false (by omega), Bool.and_false])
    have g0 : (6 : Int) < (l.length : Int) := by omega
    go_enter Tryd.func67, Tryd.ntmps67
    go_wp2
    go_ret
    exact ⟨ret_bool HV.out.symm, Below.refl _ _⟩
  have g0 : ¬ (6 : Int) < (l.length : Int) := by omega
  have hmm := @run_makeMap Tryd.prog
  have HO0 := Lib.hid (World.ownsMap_made w Tryd.prog 100 (plainElem (H := Unit) Tryd.prog 4))
  have HB0 : Hid (Below w.heap.size w (w.alloc (.map #[] 0))) := Lib.hid ((Below.refl _ _).alloc (Nat.le_refl _) _)
  have z0 : w.heap.size < (w.alloc (.map #[] 0)).heap.size := by simp
  go_enter Tryd.func67, Tryd.ntmps67
  go_wp2
  go_loopw [13] (fun iv wr => ∃ (i : Nat) (D : DataW Unit), i ≤ l.length ∧ iv = .int .i64 i ∧ Hid (∀ j, j < i → slotAtOk l j = true) ∧ Hid (keysAt wr w.heap.size i D) ∧ Hid (keysAre D (l.take i)) ∧ Hid (Below w.heap.size w wr) ∧ w.heap.size < wr.heap.size) (fun iv _ => l.length - (intOf iv).toNat)
  case atStart => exact ⟨0, _, Nat.zero_le _, rfl, Lib.hid (fun j hj => absurd hj (by omega)), HO0, Lib.hid keysAre.start, HB0, z0⟩
  case round =>
    obtain ⟨i, D, hi', rfl, HN, HO, HD, HB, hz⟩ := hrel
    by_cases hin : i < l.length
    · obtain ⟨x, hx⟩ : ∃ x, l[i]? = some x := ⟨_, List.getElem?_eq_getElem hin⟩
      obtain ⟨b, off, A', c', rfl, hbl, d0, d1, d2, hrd⟩ := HR.out i x hx
      obtain ⟨hs1, hs2⟩ := HS.out x (List.mem_of_getElem? hx)
      have d0 := (HB.out.cell (p := ⟨b, off + i * 3, none⟩) (show b < w.heap.size by omega)).trans d0
      have d1 := (HB.out.cell (p := ⟨b, off + i * 3 + 1, none⟩) (show b < w.heap.size by omega)).trans d1
      have d2 := (HB.out.cell (p := ⟨b, off + i * 3 + 2, none⟩) (show b < w.heap.size by omega)).trans d2
      have HRD := Lib.hid hrd
      have HAT := Lib.hid (slot_at hx)
      have HTK : Hid (l.take (i + 1) = l.take i ++ [x]) := Lib.hid (by
        obtain ⟨h1, h2⟩ := List.getElem?_eq_some_iff.1 hx
        rw [List.take_succ_eq_append_getElem h1, h2])
      have HALL : Hid (((l.take i).all fun y => !isSlot x.1 x.2.1 y) = !(l.take i).any (isSlot x.1 x.2.1)) := Lib.hid (by rw [List.all_eq_not_any_not]; simp)
      have HSZ := Lib.hid (And.intro hs1 hs2)
      have g1 : (i : Int) < (l.length : Int) := by omega
      have g2 : 0 ≤ (i : Int) := by omega
      have g3 : (i : Int) ≤ (c : Int) := by omega
      clear hx hrd
      go_upto_region 7 with fail
      obtain ⟨W3, hW3⟩ : ∃ W3, W3 = wr.alloc (.cells #[.string x.1, .string x.2.1, .slice A' x.2.2.length c'] 78) := ⟨_, rfl⟩
      have b3 : bk W3 wr.heap.size 78 [.string x.1, .string x.2.1, .slice A' x.2.2.length c'] := by rw [hW3]; exact bk.new wr _ _
      have hb3 : Below wr.heap.size wr W3 := by rw [hW3]; exact (Below.refl _ _).alloc (Nat.le_refl _) _
      rw [← hW3]
      clear hW3
      have z3 := b3.lt
      have HB3 : Hid (Below w.heap.size w W3) := Lib.hid (HB.out.trans (hb3.mono (by omega)))
      have HO3 : Hid (keysAt W3 w.heap.size i D) := Lib.hid (keysAt_below HO.out hb3 (by omega))
      have HX3 := Lib.hid b3
      obtain ⟨q0, q1, q2⟩ := b3.cells3
      have HKY := Lib.hid (implKeyOf_any A' x.2.2.length c' x.1 x.2.1 W3)
      clear b3 hb3 HB HO d0 d1 d2
      go_wp2_with fail
      refine HKY.out.mono ?_
      rintro e w4 ⟨rfl, hb4⟩
      have z4 := hb4.size
      have HB4 : Hid (Below w.heap.size w w4) := Lib.hid (HB3.out.trans (hb4.mono (by omega)))
      have HX4 := Lib.hid (HX3.out.below hb4 z3)
      have HO4 : Hid (keysAt w4 w.heap.size i D) := Lib.hid (keysAt_below HO3.out hb4 (by omega))
      clear hb4 HX3 HB3 q0 q1 q2 HKY HO3
      go_upto_region 8 with fail
      obtain ⟨W5, hW5⟩ : ∃ W5, W5 = w4.alloc (.cells #[.string x.1, .string x.2.1] 100) := ⟨_, rfl⟩
      have b5 : bk W5 w4.heap.size 100 [.string x.1, .string x.2.1] := by rw [hW5]; exact bk.new w4 _ _
      have hb5 : Below w4.heap.size w4 W5 := by rw [hW5]; exact (Below.refl _ _).alloc (Nat.le_refl _) _
      rw [← hW5]
      clear hW5
      have z5 := b5.lt
      have HB5 : Hid (Below w.heap.size w W5) := Lib.hid (HB4.out.trans (hb5.mono (by omega)))
      have HX5 := Lib.hid (HX4.out.below hb5 (by omega))
      have HO5 : Hid (keysAt W5 w.heap.size i D) := Lib.hid (keysAt_below HO4.out hb5 (by omega))
      have HOK := Lib.hid (implSlotOk_any hi _ x W5 hs1 hs2 (HRD.out.below HB5.out hh))
      have HK5 := Lib.hid b5
      obtain ⟨q0, q1, q2⟩ := HX5.out.cells3
      clear b5 hb5 HX4 HB4 HO4 HRD
      generalize slotOk x = ok at HOK HAT
      go_wp2_with fail
      refine HOK.out.mono ?_
      rintro e w6 ⟨rfl, hb6⟩
      have z6 := hb6.size
      have HB6 : Hid (Below w.heap.size w w6) := Lib.hid (HB5.out.trans (hb6.mono (by omega)))
      have HO6 : Hid (keysAt w6 w.heap.size i D) := Lib.hid (keysAt_below HO5.out hb6 (by omega))
      have b6 := HK5.out.below hb6 (by omega)
      have k0 := b6.cell 0
      have k1 := b6.cell 1
      simp only [List.getElem?_cons_zero, List.getElem?_cons_succ] at k0 k1
      clear hb6 HX5 HB5 q0 q1 q2 HOK HO5 HK5 b6
      cases ok
      · have HV : Hid (slotsOk l = false) := Lib.hid (slots_ok_not hin (by rw [HAT.out]; rfl))
        go_wp2
        go_ret
        exact ⟨ret_bool HV.out.symm, HB6.out⟩
      have hlk := keys_look HO6.out HD.out HSZ.out.1 HSZ.out.2
      have HA2 := Lib.hid HALL.out
      clear HALL
      generalize (l.take i).any (isSlot x.1 x.2.1) = met at hlk HA2
      cases met
      · have HN2 : Hid (∀ j, j < i + 1 → slotAtOk l j = true) := Lib.hid (fun j hj => by
          by_cases e : j = i
          · subst e; rw [HAT.out, HA2.out]; rfl
          · exact HN.out j (by omega))
        have HD2 : Hid (keysAre (D.put (keyLit x.1 x.2.1) (.lit (.bool true))) (l.take (i + 1))) := Lib.hid (by rw [HTK.out]; exact HD.out.snoc HSZ.out.1 HSZ.out.2)
        have hkey := keyOf_slot x.1 x.2.1 HSZ.out.1 HSZ.out.2
        go_wp2_with (at_mapUpdate; refine wpList_mapUpdate_own _ rfl _ _ _ 98 rfl 100 4 lawKey Tryd.underlying98 _ w.heap.size i D rfl HO6.out (by unfold maxLen; omega) _ _ _ rfl rfl hkey _ [] (plainElem_bool Tryd.underlying4 true) ?_)
        intro w7 hown7 hg7
        have z7 : w6.heap.size ≤ w7.heap.size := hg7.size
        have HB7 : Hid (Below w.heap.size w w7) := Lib.hid (HB6.out.grown hg7 (by omega) (fun j hj => by cases hj; exact Nat.le_refl _))
        have HO7 : Hid (keysAt w7 w.heap.size (i + 1) (D.put (keyLit x.1 x.2.1) (.lit (.bool true)))) := Lib.hid hown7
        clear hown7 hg7 hkey hlk k0 k1
        go_wp2
        go_roundw
        case rel => exact ⟨i + 1, _, by omega, by go_num, HN2, HO7, HD2, HB7, by omega⟩
        case measure => simp [intOf] <;> omega
      · have HV : Hid (slotsOk l = false) := Lib.hid (slots_ok_not hin (by rw [HAT.out, HA2.out]; rfl))
        go_wp2
        go_ret
        exact ⟨ret_bool HV.out.symm, HB6.out⟩
    · obtain rfl : i = l.length := by omega
      have HV : Hid (slotsOk l = true) := Lib.hid (by rw [slots_ok_end HN.out]; exact decide_eq_true (by omega))
      go_wp2
      go_ret
      exact ⟨ret_bool HV.out.symm, HB.out⟩
end Go.Proofs.YtpeeagkfhdeagaaDoor
/- The checks of an account in the program: ok, AcctOk, hasState; no conditions but the library's handle. -/
set_option linter.unusedVariables false
namespace Go.Proofs.YtpeeagkfhdeagaaDoor
open Go.ChangeShapes Go.WideShapes Go.ChangeAt Go.RowKit

set_option maxRecDepth 100000 in
theorem acctOk_amts (a : AcctD) : acctOk a = (acctIdB (aId a) && (amtsB (aLim a) (aPos a) (aMost a) (aSum a) && (holdsOk (aH a) && (ringOk (aR a) && (slotsOk (aS a) && decide (satVal (aPos a) (storedL (aH a)) ≤ aLim a)))))) := by
  unfold acctOk acctHead acctTail amtsB
  cases acctIdB (aId a) <;> cases inB (aLim a) 0 9007199254740992 <;> cases inB (aMost a) 0 1000 <;> cases inB (aSum a) 0 9007199254740992 <;> cases isMon (aPos a) <;> rfl
set_option maxRecDepth 100000 in
set_option maxHeartbeats 8000000 in
theorem implOk_any (hi : Nat) (id : ByteArray) (lim pos most sum : Int) (hs : List HoldD) (sp hd : Int) (cs ss : List Int) (sl : List SlotD) (vh vc vs vl : Value) (w : World) (hg : Handle w) (y0 : id.size ≤ maxLen) (z1 : hs.length ≤ 1048576) (y1 : ∀ x ∈ hs, x.1.size ≤ maxLen) (z2 : cs.length ≤ 1048576) (z3 : ss.length ≤ 1048576) (z4 : sl.length ≤ 1048576) (y4 : ∀ x ∈ sl, x.1.size ≤ maxLen ∧ x.2.1.size ≤ maxLen) (r1 : HoldsR.rd hi w [vh] hs) (r2 : rd .i64 hi w vc cs) (r3 : rd .i64 hi w vs ss) (r4 : SlotsR.rd hi w [vl] sl) (hh : hi ≤ w.heap.size) :
    Calls Tryd.prog 40 #[.agg #[.int .i64 lim, .int .i64 pos, .int .i64 most, .int .i64 sum, .string id, vh, .int .i64 sp, .int .i64 hd, vc, vs, vl]] w fun e w' => e = .returned (.bool (acctOk (id, lim, pos, most, sum, hs, (sp, hd, cs, ss), sl))) ∧ Below w.heap.size w w' := by
  have HE : Hid (acctOk (id, lim, pos, most, sum, hs, (sp, hd, cs, ss), sl) = (acctIdB id && (amtsB lim pos most sum && (holdsOk hs && (ringOk (sp, hd, cs, ss) && (slotsOk sl && decide (satVal pos (storedL hs) ≤ lim))))))) := Lib.hid (acctOk_amts _)
  obtain ⟨AH, cH, rfl, -⟩ := Rep.slice_form r1
  obtain ⟨AC, cC, rfl, -⟩ := r2.form
  obtain ⟨AS, cS, rfl, -⟩ := r3.form
  obtain ⟨AL, cL, rfl, -⟩ := Rep.slice_form r4
  have HQ1 := Lib.hid (fun V (hV : Below w.heap.size w V) => implAcctIdOk_any id V y0)
  have HQ2 := Lib.hid (fun V (hV : Below w.heap.size w V) => implInRange_any lim pos most sum V)
  have HQ3 := Lib.hid (fun V (hV : Below w.heap.size w V) => implHoldsOk_any hi _ hs V z1 y1 (Rep.below (R := HoldsR) r1 hV hh) (Nat.le_trans hh hV.size))
  have HQ4 := Lib.hid (fun V (hV : Below w.heap.size w V) => implRingOk_any hi _ _ (sp, hd, cs, ss) V (r2.below hV hh) (r3.below hV hh) (Nat.le_trans hh hV.size) z2 z3)
  have HQ5 := Lib.hid (fun V (hV : Below w.heap.size w V) => implSlotsOk_any hi _ sl V (by omega) y4 (Rep.below (R := SlotsR) r4 hV hh) (Nat.le_trans hh hV.size))
  have HQ6 := Lib.hid (fun V (hV : Below w.heap.size w V) => implStored_any hi _ hs V (hg.below hV (Nat.le_refl _)) z1 (Rep.below (R := HoldsR) r1 hV hh) (Nat.le_trans hh hV.size))
  have HQ7 := Lib.hid (fun V (hV : Below w.heap.size w V) => implCovers_any lim pos most sum (storedL hs) V (hg.below hV (Nat.le_refl _)))
  clear r1 r2 r3 r4 y0 y1 y4 hg
  generalize decide (satVal pos (storedL hs) ≤ lim) = t6 at HE HQ7
  generalize storedL hs = st at HQ6 HQ7
  generalize acctOk (id, lim, pos, most, sum, hs, (sp, hd, cs, ss), sl) = res at HE ⊢
  generalize acctIdB id = t1 at HE HQ1
  generalize amtsB lim pos most sum = t2 at HE HQ2
  generalize holdsOk hs = t3 at HE HQ3
  generalize ringOk (sp, hd, cs, ss) = t4 at HE HQ4
  generalize slotsOk sl = t5 at HE HQ5
  go_enter Tryd.func40, Tryd.ntmps40
  go_upto_region 1 with fail
  obtain ⟨W, hW⟩ : ∃ W, W = w.alloc (.cells #[.int .i64 lim, .int .i64 pos, .int .i64 most, .int .i64 sum, .string id, .slice AH hs.length cH, .int .i64 sp, .int .i64 hd, .slice AC cs.length cC, .slice AS ss.length cS, .slice AL sl.length cL] 68) := ⟨_, rfl⟩
  have b0 : bk W w.heap.size 68 [.int .i64 lim, .int .i64 pos, .int .i64 most, .int .i64 sum, .string id, .slice AH hs.length cH, .int .i64 sp, .int .i64 hd, .slice AC cs.length cC, .slice AS ss.length cS, .slice AL sl.length cL] := by rw [hW]; exact bk.new w _ _
  have HB0 : Hid (Below w.heap.size w W) := Lib.hid (by rw [hW]; exact (Below.refl _ _).alloc (Nat.le_refl _) _)
  rw [← hW]
  clear hW
  obtain ⟨⟨p0, p1, p2, p3, p4, p5, p6, p7, p8, p9, p10⟩, -⟩ := b0.eleven
  have z0 := b0.lt
  have P0 := Lib.hid p0
  have P1 := Lib.hid p1
  have P2 := Lib.hid p2
  have P3 := Lib.hid p3
  have P4 := Lib.hid p4
  have P5 := Lib.hid p5
  have P6 := Lib.hid p6
  have P7 := Lib.hid p7
  have P8 := Lib.hid p8
  have P9 := Lib.hid p9
  have P10 := Lib.hid p10
  clear p0 p1 p2 p3 p4 p5 p6 p7 p8 p9 p10 b0
  have HBX : Hid (∀ V, Ext W V → Below w.heap.size w V) := Lib.hid fun V hV => HB0.out.trans (hV.below.mono (by omega))
  have HX : Hid (Ext W W.drew) := Lib.hid (Ext.refl W).drew
  cases t1
  · refine quiet_region (C := Ext W) (by kernel_rfl) (by kernel_rfl) HX.out ?_
    repeat (first
      | go_big_quiet_skip
      | (go_big_quiet_want; go_big_quiet_op; go_big_quiet_on)
      | (go_big_quiet_want; go_big_quiet_op; apply Exists.intro; refine ⟨fun _ _ => rfl, ?_⟩; go_big_quiet_on)
      | (go_big_quiet_want
         apply Exists.intro
         refine ⟨fun V hV => ?_, ?_⟩
         (have q0 := hV.cell P0.out (by omega)
          have q1 := hV.cell P1.out (by omega)
          have q2 := hV.cell P2.out (by omega)
          have q3 := hV.cell P3.out (by omega)
          have q4 := hV.cell P4.out (by omega)
          have q5 := hV.cell P5.out (by omega)
          have q6 := hV.cell P6.out (by omega)
          have q7 := hV.cell P7.out (by omega)
          have q8 := hV.cell P8.out (by omega)
          have q9 := hV.cell P9.out (by omega)
          have q10 := hV.cell P10.out (by omega)
          unfold Oper.quietAt
          go_simp
          rfl)
         simp only [Act.put, List.setIfInBounds_toArray, List.set_cons_zero, List.set_cons_succ]
         go_big_quiet_on)
      | (go_big_quiet_want
         apply Exists.intro
         refine ⟨fun V hV => ?_, ?_⟩
         (unfold Oper.quietAt
          go_simp
          go_at_call 63
          (with_reducible refine (HQ1.out V (HBX.out V hV)).mono ?_)
          rintro e w4 ⟨rfl, hb4⟩
          exact ⟨rfl, hV.step hb4⟩)
         simp only [Act.put, List.setIfInBounds_toArray, List.set_cons_zero, List.set_cons_succ]
         go_big_quiet_on)
      | (go_big_quiet_want
         apply Exists.intro
         refine ⟨fun V hV => ?_, ?_⟩
         (unfold Oper.quietAt
          go_simp
          go_at_call 64
          (with_reducible refine (HQ2.out V (HBX.out V hV)).mono ?_)
          rintro e w4 ⟨rfl, hb4⟩
          exact ⟨rfl, hV.step hb4⟩)
         simp only [Act.put, List.setIfInBounds_toArray, List.set_cons_zero, List.set_cons_succ]
         go_big_quiet_on)
      | (go_big_quiet_want
         apply Exists.intro
         refine ⟨fun V hV => ?_, ?_⟩
         (unfold Oper.quietAt
          go_simp
          go_at_call 65
          (with_reducible refine (HQ3.out V (HBX.out V hV)).mono ?_)
          rintro e w4 ⟨rfl, hb4⟩
          exact ⟨rfl, hV.step hb4⟩)
         simp only [Act.put, List.setIfInBounds_toArray, List.set_cons_zero, List.set_cons_succ]
         go_big_quiet_on)
      | (go_big_quiet_want
         apply Exists.intro
         refine ⟨fun V hV => ?_, ?_⟩
         (unfold Oper.quietAt
          go_simp
          go_at_call 66
          (with_reducible refine (HQ4.out V (HBX.out V hV)).mono ?_)
          rintro e w4 ⟨rfl, hb4⟩
          exact ⟨rfl, hV.step hb4⟩)
         simp only [Act.put, List.setIfInBounds_toArray, List.set_cons_zero, List.set_cons_succ]
         go_big_quiet_on)
      | (go_big_quiet_want
         apply Exists.intro
         refine ⟨fun V hV => ?_, ?_⟩
         (unfold Oper.quietAt
          go_simp
          go_at_call 67
          (with_reducible refine (HQ5.out V (HBX.out V hV)).mono ?_)
          rintro e w4 ⟨rfl, hb4⟩
          exact ⟨rfl, hV.step hb4⟩)
         simp only [Act.put, List.setIfInBounds_toArray, List.set_cons_zero, List.set_cons_succ]
         go_big_quiet_on)
      | (go_big_quiet_want
         apply Exists.intro
         refine ⟨fun V hV => ?_, ?_⟩
         (unfold Oper.quietAt
          go_simp
          go_at_call 69
          (with_reducible refine (HQ6.out V (HBX.out V hV)).mono ?_)
          rintro e w4 ⟨rfl, hb4⟩
          exact ⟨rfl, hV.step hb4⟩)
         simp only [Act.put, List.setIfInBounds_toArray, List.set_cons_zero, List.set_cons_succ]
         go_big_quiet_on)
      | (go_big_quiet_want
         apply Exists.intro
         refine ⟨fun V hV => ?_, ?_⟩
         (unfold Oper.quietAt
          go_simp
          go_at_call 68
          (with_reducible refine (HQ7.out V (HBX.out V hV)).mono ?_)
          rintro e w4 ⟨rfl, hb4⟩
          exact ⟨rfl, hV.step hb4⟩)
         simp only [Act.put, List.setIfInBounds_toArray, List.set_cons_zero, List.set_cons_succ]
         go_big_quiet_on)
      | fail)
    refine wpQuiet_nil ?_
    intro W4 hW4
    go_wp2
    go_ret
    exact ⟨by rw [HE.out]; rfl, HBX.out W4 hW4⟩
  cases t2
  · refine quiet_region (C := Ext W) (by kernel_rfl) (by kernel_rfl) HX.out ?_
    repeat (first
      | go_big_quiet_skip
      | (go_big_quiet_want; go_big_quiet_op; go_big_quiet_on)
      | (go_big_quiet_want; go_big_quiet_op; apply Exists.intro; refine ⟨fun _ _ => rfl, ?_⟩; go_big_quiet_on)
      | (go_big_quiet_want
         apply Exists.intro
         refine ⟨fun V hV => ?_, ?_⟩
         (have q0 := hV.cell P0.out (by omega)
          have q1 := hV.cell P1.out (by omega)
          have q2 := hV.cell P2.out (by omega)
          have q3 := hV.cell P3.out (by omega)
          have q4 := hV.cell P4.out (by omega)
          have q5 := hV.cell P5.out (by omega)
          have q6 := hV.cell P6.out (by omega)
          have q7 := hV.cell P7.out (by omega)
          have q8 := hV.cell P8.out (by omega)
          have q9 := hV.cell P9.out (by omega)
          have q10 := hV.cell P10.out (by omega)
          unfold Oper.quietAt
          go_simp
          rfl)
         simp only [Act.put, List.setIfInBounds_toArray, List.set_cons_zero, List.set_cons_succ]
         go_big_quiet_on)
      | (go_big_quiet_want
         apply Exists.intro
         refine ⟨fun V hV => ?_, ?_⟩
         (unfold Oper.quietAt
          go_simp
          go_at_call 63
          (with_reducible refine (HQ1.out V (HBX.out V hV)).mono ?_)
          rintro e w4 ⟨rfl, hb4⟩
          exact ⟨rfl, hV.step hb4⟩)
         simp only [Act.put, List.setIfInBounds_toArray, List.set_cons_zero, List.set_cons_succ]
         go_big_quiet_on)
      | (go_big_quiet_want
         apply Exists.intro
         refine ⟨fun V hV => ?_, ?_⟩
         (unfold Oper.quietAt
          go_simp
          go_at_call 64
          (with_reducible refine (HQ2.out V (HBX.out V hV)).mono ?_)
          rintro e w4 ⟨rfl, hb4⟩
          exact ⟨rfl, hV.step hb4⟩)
         simp only [Act.put, List.setIfInBounds_toArray, List.set_cons_zero, List.set_cons_succ]
         go_big_quiet_on)
      | (go_big_quiet_want
         apply Exists.intro
         refine ⟨fun V hV => ?_, ?_⟩
         (unfold Oper.quietAt
          go_simp
          go_at_call 65
          (with_reducible refine (HQ3.out V (HBX.out V hV)).mono ?_)
          rintro e w4 ⟨rfl, hb4⟩
          exact ⟨rfl, hV.step hb4⟩)
         simp only [Act.put, List.setIfInBounds_toArray, List.set_cons_zero, List.set_cons_succ]
         go_big_quiet_on)
      | (go_big_quiet_want
         apply Exists.intro
         refine ⟨fun V hV => ?_, ?_⟩
         (unfold Oper.quietAt
          go_simp
          go_at_call 66
          (with_reducible refine (HQ4.out V (HBX.out V hV)).mono ?_)
          rintro e w4 ⟨rfl, hb4⟩
          exact ⟨rfl, hV.step hb4⟩)
         simp only [Act.put, List.setIfInBounds_toArray, List.set_cons_zero, List.set_cons_succ]
         go_big_quiet_on)
      | (go_big_quiet_want
         apply Exists.intro
         refine ⟨fun V hV => ?_, ?_⟩
         (unfold Oper.quietAt
          go_simp
          go_at_call 67
          (with_reducible refine (HQ5.out V (HBX.out V hV)).mono ?_)
          rintro e w4 ⟨rfl, hb4⟩
          exact ⟨rfl, hV.step hb4⟩)
         simp only [Act.put, List.setIfInBounds_toArray, List.set_cons_zero, List.set_cons_succ]
         go_big_quiet_on)
      | (go_big_quiet_want
         apply Exists.intro
         refine ⟨fun V hV => ?_, ?_⟩
         (unfold Oper.quietAt
          go_simp
          go_at_call 69
          (with_reducible refine (HQ6.out V (HBX.out V hV)).mono ?_)
          rintro e w4 ⟨rfl, hb4⟩
          exact ⟨rfl, hV.step hb4⟩)
         simp only [Act.put, List.setIfInBounds_toArray, List.set_cons_zero, List.set_cons_succ]
         go_big_quiet_on)
      | (go_big_quiet_want
         apply Exists.intro
         refine ⟨fun V hV => ?_, ?_⟩
         (unfold Oper.quietAt
          go_simp
          go_at_call 68
          (with_reducible refine (HQ7.out V (HBX.out V hV)).mono ?_)
          rintro e w4 ⟨rfl, hb4⟩
          exact ⟨rfl, hV.step hb4⟩)
         simp only [Act.put, List.setIfInBounds_toArray, List.set_cons_zero, List.set_cons_succ]
         go_big_quiet_on)
      | fail)
    refine wpQuiet_nil ?_
    intro W4 hW4
    go_wp2
    go_ret
    exact ⟨by rw [HE.out]; rfl, HBX.out W4 hW4⟩
  cases t3
  · refine quiet_region (C := Ext W) (by kernel_rfl) (by kernel_rfl) HX.out ?_
    repeat (first
      | go_big_quiet_skip
      | (go_big_quiet_want; go_big_quiet_op; go_big_quiet_on)
      | (go_big_quiet_want; go_big_quiet_op; apply Exists.intro; refine ⟨fun _ _ => rfl, ?_⟩; go_big_quiet_on)
      | (go_big_quiet_want
         apply Exists.intro
         refine ⟨fun V hV => ?_, ?_⟩
         (have q0 := hV.cell P0.out (by omega)
          have q1 := hV.cell P1.out (by omega)
          have q2 := hV.cell P2.out (by omega)
          have q3 := hV.cell P3.out (by omega)
          have q4 := hV.cell P4.out (by omega)
          have q5 := hV.cell P5.out (by omega)
          have q6 := hV.cell P6.out (by omega)
          have q7 := hV.cell P7.out (by omega)
          have q8 := hV.cell P8.out (by omega)
          have q9 := hV.cell P9.out (by omega)
          have q10 := hV.cell P10.out (by omega)
          unfold Oper.quietAt
          go_simp
          rfl)
         simp only [Act.put, List.setIfInBounds_toArray, List.set_cons_zero, List.set_cons_succ]
         go_big_quiet_on)
      | (go_big_quiet_want
         apply Exists.intro
         refine ⟨fun V hV => ?_, ?_⟩
         (unfold Oper.quietAt
          go_simp
          go_at_call 63
          (with_reducible refine (HQ1.out V (HBX.out V hV)).mono ?_)
          rintro e w4 ⟨rfl, hb4⟩
          exact ⟨rfl, hV.step hb4⟩)
         simp only [Act.put, List.setIfInBounds_toArray, List.set_cons_zero, List.set_cons_succ]
         go_big_quiet_on)
      | (go_big_quiet_want
         apply Exists.intro
         refine ⟨fun V hV => ?_, ?_⟩
         (unfold Oper.quietAt
          go_simp
          go_at_call 64
          (with_reducible refine (HQ2.out V (HBX.out V hV)).mono ?_)
          rintro e w4 ⟨rfl, hb4⟩
          exact ⟨rfl, hV.step hb4⟩)
         simp only [Act.put, List.setIfInBounds_toArray, List.set_cons_zero, List.set_cons_succ]
         go_big_quiet_on)
      | (go_big_quiet_want
         apply Exists.intro
         refine ⟨fun V hV => ?_, ?_⟩
         (unfold Oper.quietAt
          go_simp
          go_at_call 65
          (with_reducible refine (HQ3.out V (HBX.out V hV)).mono ?_)
          rintro e w4 ⟨rfl, hb4⟩
          exact ⟨rfl, hV.step hb4⟩)
         simp only [Act.put, List.setIfInBounds_toArray, List.set_cons_zero, List.set_cons_succ]
         go_big_quiet_on)
      | (go_big_quiet_want
         apply Exists.intro
         refine ⟨fun V hV => ?_, ?_⟩
         (unfold Oper.quietAt
          go_simp
          go_at_call 66
          (with_reducible refine (HQ4.out V (HBX.out V hV)).mono ?_)
          rintro e w4 ⟨rfl, hb4⟩
          exact ⟨rfl, hV.step hb4⟩)
         simp only [Act.put, List.setIfInBounds_toArray, List.set_cons_zero, List.set_cons_succ]
         go_big_quiet_on)
      | (go_big_quiet_want
         apply Exists.intro
         refine ⟨fun V hV => ?_, ?_⟩
         (unfold Oper.quietAt
          go_simp
          go_at_call 67
          (with_reducible refine (HQ5.out V (HBX.out V hV)).mono ?_)
          rintro e w4 ⟨rfl, hb4⟩
          exact ⟨rfl, hV.step hb4⟩)
         simp only [Act.put, List.setIfInBounds_toArray, List.set_cons_zero, List.set_cons_succ]
         go_big_quiet_on)
      | (go_big_quiet_want
         apply Exists.intro
         refine ⟨fun V hV => ?_, ?_⟩
         (unfold Oper.quietAt
          go_simp
          go_at_call 69
          (with_reducible refine (HQ6.out V (HBX.out V hV)).mono ?_)
          rintro e w4 ⟨rfl, hb4⟩
          exact ⟨rfl, hV.step hb4⟩)
         simp only [Act.put, List.setIfInBounds_toArray, List.set_cons_zero, List.set_cons_succ]
         go_big_quiet_on)
      | (go_big_quiet_want
         apply Exists.intro
         refine ⟨fun V hV => ?_, ?_⟩
         (unfold Oper.quietAt
          go_simp
          go_at_call 68
          (with_reducible refine (HQ7.out V (HBX.out V hV)).mono ?_)
          rintro e w4 ⟨rfl, hb4⟩
          exact ⟨rfl, hV.step hb4⟩)
         simp only [Act.put, List.setIfInBounds_toArray, List.set_cons_zero, List.set_cons_succ]
         go_big_quiet_on)
      | fail)
    refine wpQuiet_nil ?_
    intro W4 hW4
    go_wp2
    go_ret
    exact ⟨by rw [HE.out]; rfl, HBX.out W4 hW4⟩
  cases t4
  · refine quiet_region (C := Ext W) (by kernel_rfl) (by kernel_rfl) HX.out ?_
    repeat (first
      | go_big_quiet_skip
      | (go_big_quiet_want; go_big_quiet_op; go_big_quiet_on)
      | (go_big_quiet_want; go_big_quiet_op; apply Exists.intro; refine ⟨fun _ _ => rfl, ?_⟩; go_big_quiet_on)
      | (go_big_quiet_want
         apply Exists.intro
         refine ⟨fun V hV => ?_, ?_⟩
         (have q0 := hV.cell P0.out (by omega)
          have q1 := hV.cell P1.out (by omega)
          have q2 := hV.cell P2.out (by omega)
          have q3 := hV.cell P3.out (by omega)
          have q4 := hV.cell P4.out (by omega)
          have q5 := hV.cell P5.out (by omega)
          have q6 := hV.cell P6.out (by omega)
          have q7 := hV.cell P7.out (by omega)
          have q8 := hV.cell P8.out (by omega)
          have q9 := hV.cell P9.out (by omega)
          have q10 := hV.cell P10.out (by omega)
          unfold Oper.quietAt
          go_simp
          rfl)
         simp only [Act.put, List.setIfInBounds_toArray, List.set_cons_zero, List.set_cons_succ]
         go_big_quiet_on)
      | (go_big_quiet_want
         apply Exists.intro
         refine ⟨fun V hV => ?_, ?_⟩
         (unfold Oper.quietAt
          go_simp
          go_at_call 63
          (with_reducible refine (HQ1.out V (HBX.out V hV)).mono ?_)
          rintro e w4 ⟨rfl, hb4⟩
          exact ⟨rfl, hV.step hb4⟩)
         simp only [Act.put, List.setIfInBounds_toArray, List.set_cons_zero, List.set_cons_succ]
         go_big_quiet_on)
      | (go_big_quiet_want
         apply Exists.intro
         refine ⟨fun V hV => ?_, ?_⟩
         (unfold Oper.quietAt
          go_simp
          go_at_call 64
          (with_reducible refine (HQ2.out V (HBX.out V hV)).mono ?_)
          rintro e w4 ⟨rfl, hb4⟩
          exact ⟨rfl, hV.step hb4⟩)
         simp only [Act.put, List.setIfInBounds_toArray, List.set_cons_zero, List.set_cons_succ]
         go_big_quiet_on)
      | (go_big_quiet_want
         apply Exists.intro
         refine ⟨fun V hV => ?_, ?_⟩
         (unfold Oper.quietAt
          go_simp
          go_at_call 65
          (with_reducible refine (HQ3.out V (HBX.out V hV)).mono ?_)
          rintro e w4 ⟨rfl, hb4⟩
          exact ⟨rfl, hV.step hb4⟩)
         simp only [Act.put, List.setIfInBounds_toArray, List.set_cons_zero, List.set_cons_succ]
         go_big_quiet_on)
      | (go_big_quiet_want
         apply Exists.intro
         refine ⟨fun V hV => ?_, ?_⟩
         (unfold Oper.quietAt
          go_simp
          go_at_call 66
          (with_reducible refine (HQ4.out V (HBX.out V hV)).mono ?_)
          rintro e w4 ⟨rfl, hb4⟩
          exact ⟨rfl, hV.step hb4⟩)
         simp only [Act.put, List.setIfInBounds_toArray, List.set_cons_zero, List.set_cons_succ]
         go_big_quiet_on)
      | (go_big_quiet_want
         apply Exists.intro
         refine ⟨fun V hV => ?_, ?_⟩
         (unfold Oper.quietAt
          go_simp
          go_at_call 67
          (with_reducible refine (HQ5.out V (HBX.out V hV)).mono ?_)
          rintro e w4 ⟨rfl, hb4⟩
          exact ⟨rfl, hV.step hb4⟩)
         simp only [Act.put, List.setIfInBounds_toArray, List.set_cons_zero, List.set_cons_succ]
         go_big_quiet_on)
      | (go_big_quiet_want
         apply Exists.intro
         refine ⟨fun V hV => ?_, ?_⟩
         (unfold Oper.quietAt
          go_simp
          go_at_call 69
          (with_reducible refine (HQ6.out V (HBX.out V hV)).mono ?_)
          rintro e w4 ⟨rfl, hb4⟩
          exact ⟨rfl, hV.step hb4⟩)
         simp only [Act.put, List.setIfInBounds_toArray, List.set_cons_zero, List.set_cons_succ]
         go_big_quiet_on)
      | (go_big_quiet_want
         apply Exists.intro
         refine ⟨fun V hV => ?_, ?_⟩
         (unfold Oper.quietAt
          go_simp
          go_at_call 68
          (with_reducible refine (HQ7.out V (HBX.out V hV)).mono ?_)
          rintro e w4 ⟨rfl, hb4⟩
          exact ⟨rfl, hV.step hb4⟩)
         simp only [Act.put, List.setIfInBounds_toArray, List.set_cons_zero, List.set_cons_succ]
         go_big_quiet_on)
      | fail)
    refine wpQuiet_nil ?_
    intro W4 hW4
    go_wp2
    go_ret
    exact ⟨by rw [HE.out]; rfl, HBX.out W4 hW4⟩
  cases t5
  · refine quiet_region (C := Ext W) (by kernel_rfl) (by kernel_rfl) HX.out ?_
    repeat (first
      | go_big_quiet_skip
      | (go_big_quiet_want; go_big_quiet_op; go_big_quiet_on)
      | (go_big_quiet_want; go_big_quiet_op; apply Exists.intro; refine ⟨fun _ _ => rfl, ?_⟩; go_big_quiet_on)
      | (go_big_quiet_want
         apply Exists.intro
         refine ⟨fun V hV => ?_, ?_⟩
         (have q0 := hV.cell P0.out (by omega)
          have q1 := hV.cell P1.out (by omega)
          have q2 := hV.cell P2.out (by omega)
          have q3 := hV.cell P3.out (by omega)
          have q4 := hV.cell P4.out (by omega)
          have q5 := hV.cell P5.out (by omega)
          have q6 := hV.cell P6.out (by omega)
          have q7 := hV.cell P7.out (by omega)
          have q8 := hV.cell P8.out (by omega)
          have q9 := hV.cell P9.out (by omega)
          have q10 := hV.cell P10.out (by omega)
          unfold Oper.quietAt
          go_simp
          rfl)
         simp only [Act.put, List.setIfInBounds_toArray, List.set_cons_zero, List.set_cons_succ]
         go_big_quiet_on)
      | (go_big_quiet_want
         apply Exists.intro
         refine ⟨fun V hV => ?_, ?_⟩
         (unfold Oper.quietAt
          go_simp
          go_at_call 63
          (with_reducible refine (HQ1.out V (HBX.out V hV)).mono ?_)
          rintro e w4 ⟨rfl, hb4⟩
          exact ⟨rfl, hV.step hb4⟩)
         simp only [Act.put, List.setIfInBounds_toArray, List.set_cons_zero, List.set_cons_succ]
         go_big_quiet_on)
      | (go_big_quiet_want
         apply Exists.intro
         refine ⟨fun V hV => ?_, ?_⟩
         (unfold Oper.quietAt
          go_simp
          go_at_call 64
          (with_reducible refine (HQ2.out V (HBX.out V hV)).mono ?_)
          rintro e w4 ⟨rfl, hb4⟩
          exact ⟨rfl, hV.step hb4⟩)
         simp only [Act.put, List.setIfInBounds_toArray, List.set_cons_zero, List.set_cons_succ]
         go_big_quiet_on)
      | (go_big_quiet_want
         apply Exists.intro
         refine ⟨fun V hV => ?_, ?_⟩
         (unfold Oper.quietAt
          go_simp
          go_at_call 65
          (with_reducible refine (HQ3.out V (HBX.out V hV)).mono ?_)
          rintro e w4 ⟨rfl, hb4⟩
          exact ⟨rfl, hV.step hb4⟩)
         simp only [Act.put, List.setIfInBounds_toArray, List.set_cons_zero, List.set_cons_succ]
         go_big_quiet_on)
      | (go_big_quiet_want
         apply Exists.intro
         refine ⟨fun V hV => ?_, ?_⟩
         (unfold Oper.quietAt
          go_simp
          go_at_call 66
          (with_reducible refine (HQ4.out V (HBX.out V hV)).mono ?_)
          rintro e w4 ⟨rfl, hb4⟩
          exact ⟨rfl, hV.step hb4⟩)
         simp only [Act.put, List.setIfInBounds_toArray, List.set_cons_zero, List.set_cons_succ]
         go_big_quiet_on)
      | (go_big_quiet_want
         apply Exists.intro
         refine ⟨fun V hV => ?_, ?_⟩
         (unfold Oper.quietAt
          go_simp
          go_at_call 67
          (with_reducible refine (HQ5.out V (HBX.out V hV)).mono ?_)
          rintro e w4 ⟨rfl, hb4⟩
          exact ⟨rfl, hV.step hb4⟩)
         simp only [Act.put, List.setIfInBounds_toArray, List.set_cons_zero, List.set_cons_succ]
         go_big_quiet_on)
      | (go_big_quiet_want
         apply Exists.intro
         refine ⟨fun V hV => ?_, ?_⟩
         (unfold Oper.quietAt
          go_simp
          go_at_call 69
          (with_reducible refine (HQ6.out V (HBX.out V hV)).mono ?_)
          rintro e w4 ⟨rfl, hb4⟩
          exact ⟨rfl, hV.step hb4⟩)
         simp only [Act.put, List.setIfInBounds_toArray, List.set_cons_zero, List.set_cons_succ]
         go_big_quiet_on)
      | (go_big_quiet_want
         apply Exists.intro
         refine ⟨fun V hV => ?_, ?_⟩
         (unfold Oper.quietAt
          go_simp
          go_at_call 68
          (with_reducible refine (HQ7.out V (HBX.out V hV)).mono ?_)
          rintro e w4 ⟨rfl, hb4⟩
          exact ⟨rfl, hV.step hb4⟩)
         simp only [Act.put, List.setIfInBounds_toArray, List.set_cons_zero, List.set_cons_succ]
         go_big_quiet_on)
      | fail)
    refine wpQuiet_nil ?_
    intro W4 hW4
    go_wp2
    go_ret
    exact ⟨by rw [HE.out]; rfl, HBX.out W4 hW4⟩
  · refine quiet_region (C := Ext W) (by kernel_rfl) (by kernel_rfl) HX.out ?_
    repeat (first
      | go_big_quiet_skip
      | (go_big_quiet_want; go_big_quiet_op; go_big_quiet_on)
      | (go_big_quiet_want; go_big_quiet_op; apply Exists.intro; refine ⟨fun _ _ => rfl, ?_⟩; go_big_quiet_on)
      | (go_big_quiet_want
         apply Exists.intro
         refine ⟨fun V hV => ?_, ?_⟩
         (have q0 := hV.cell P0.out (by omega)
          have q1 := hV.cell P1.out (by omega)
          have q2 := hV.cell P2.out (by omega)
          have q3 := hV.cell P3.out (by omega)
          have q4 := hV.cell P4.out (by omega)
          have q5 := hV.cell P5.out (by omega)
          have q6 := hV.cell P6.out (by omega)
          have q7 := hV.cell P7.out (by omega)
          have q8 := hV.cell P8.out (by omega)
          have q9 := hV.cell P9.out (by omega)
          have q10 := hV.cell P10.out (by omega)
          unfold Oper.quietAt
          go_simp
          rfl)
         simp only [Act.put, List.setIfInBounds_toArray, List.set_cons_zero, List.set_cons_succ]
         go_big_quiet_on)
      | (go_big_quiet_want
         apply Exists.intro
         refine ⟨fun V hV => ?_, ?_⟩
         (unfold Oper.quietAt
          go_simp
          go_at_call 63
          (with_reducible refine (HQ1.out V (HBX.out V hV)).mono ?_)
          rintro e w4 ⟨rfl, hb4⟩
          exact ⟨rfl, hV.step hb4⟩)
         simp only [Act.put, List.setIfInBounds_toArray, List.set_cons_zero, List.set_cons_succ]
         go_big_quiet_on)
      | (go_big_quiet_want
         apply Exists.intro
         refine ⟨fun V hV => ?_, ?_⟩
         (unfold Oper.quietAt
          go_simp
          go_at_call 64
          (with_reducible refine (HQ2.out V (HBX.out V hV)).mono ?_)
          rintro e w4 ⟨rfl, hb4⟩
          exact ⟨rfl, hV.step hb4⟩)
         simp only [Act.put, List.setIfInBounds_toArray, List.set_cons_zero, List.set_cons_succ]
         go_big_quiet_on)
      | (go_big_quiet_want
         apply Exists.intro
         refine ⟨fun V hV => ?_, ?_⟩
         (unfold Oper.quietAt
          go_simp
          go_at_call 65
          (with_reducible refine (HQ3.out V (HBX.out V hV)).mono ?_)
          rintro e w4 ⟨rfl, hb4⟩
          exact ⟨rfl, hV.step hb4⟩)
         simp only [Act.put, List.setIfInBounds_toArray, List.set_cons_zero, List.set_cons_succ]
         go_big_quiet_on)
      | (go_big_quiet_want
         apply Exists.intro
         refine ⟨fun V hV => ?_, ?_⟩
         (unfold Oper.quietAt
          go_simp
          go_at_call 66
          (with_reducible refine (HQ4.out V (HBX.out V hV)).mono ?_)
          rintro e w4 ⟨rfl, hb4⟩
          exact ⟨rfl, hV.step hb4⟩)
         simp only [Act.put, List.setIfInBounds_toArray, List.set_cons_zero, List.set_cons_succ]
         go_big_quiet_on)
      | (go_big_quiet_want
         apply Exists.intro
         refine ⟨fun V hV => ?_, ?_⟩
         (unfold Oper.quietAt
          go_simp
          go_at_call 67
          (with_reducible refine (HQ5.out V (HBX.out V hV)).mono ?_)
          rintro e w4 ⟨rfl, hb4⟩
          exact ⟨rfl, hV.step hb4⟩)
         simp only [Act.put, List.setIfInBounds_toArray, List.set_cons_zero, List.set_cons_succ]
         go_big_quiet_on)
      | (go_big_quiet_want
         apply Exists.intro
         refine ⟨fun V hV => ?_, ?_⟩
         (unfold Oper.quietAt
          go_simp
          go_at_call 69
          (with_reducible refine (HQ6.out V (HBX.out V hV)).mono ?_)
          rintro e w4 ⟨rfl, hb4⟩
          exact ⟨rfl, hV.step hb4⟩)
         simp only [Act.put, List.setIfInBounds_toArray, List.set_cons_zero, List.set_cons_succ]
         go_big_quiet_on)
      | (go_big_quiet_want
         apply Exists.intro
         refine ⟨fun V hV => ?_, ?_⟩
         (unfold Oper.quietAt
          go_simp
          go_at_call 68
          (with_reducible refine (HQ7.out V (HBX.out V hV)).mono ?_)
          rintro e w4 ⟨rfl, hb4⟩
          exact ⟨rfl, hV.step hb4⟩)
         simp only [Act.put, List.setIfInBounds_toArray, List.set_cons_zero, List.set_cons_succ]
         go_big_quiet_on)
      | fail)
    refine wpQuiet_nil ?_
    intro W4 hW4
    go_wp2
    go_ret
    exact ⟨by rw [HE.out]; rfl, HBX.out W4 hW4⟩
set_option maxRecDepth 100000 in
set_option maxHeartbeats 1600000 in
theorem implAcctOk_any (hi : Nat) (vh vc vs vl : Value) (a : AcctD) (w : World) (hg : Handle w) (hz : acctSmall 1048576 a) (hbig : acctBig a) (h : AcctR.rd hi w (aCells a vh vc vs vl) a) (hh : hi ≤ w.heap.size) :
    Calls Tryd.prog 13 #[.agg #[.string (aId a), .int .i64 (aLim a), .int .i64 (aPos a), .int .i64 (aMost a), .int .i64 (aSum a), vh, .int .i64 (aR a).1, .int .i64 (aR a).2.1, vc, vs, vl]] w fun e w' => e = .returned (.bool (acctOk a)) ∧ Below w.heap.size w w' := by
  obtain ⟨vh0, vc0, vs0, vl0, hcs, r1, r2, r3, r4⟩ := acct_rd h
  simp only [aCells, List.cons.injEq, and_true, true_and] at hcs
  obtain ⟨rfl, rfl, rfl, rfl⟩ := hcs
  clear h
  obtain ⟨z1, z2, z3, z4, z5⟩ := hz
  obtain ⟨y0, y1, y1', y2, y3, y4, y5⟩ := hbig
  obtain ⟨id, lim, pos, most, sum, hs, ⟨sp, hd, cs, ss⟩, sl⟩ := a
  simp only [aId, aLim, aPos, aMost, aSum, aH, aS] at r1 r2 r3 r4 z1 z2 z3 z4 z5 y0 y1 y1' y2 y3 y4 y5 ⊢
  have HQ := Lib.hid (fun V (hV : Below w.heap.size w V) => implOk_any hi id lim pos most sum hs sp hd cs ss sl vh vc vs vl V (hg.below hV (Nat.le_refl _)) y0 z1 y1' z2 z3 z4 (fun x hx => ⟨(y5 x hx).1, (y5 x hx).2.1⟩) (Rep.below (R := HoldsR) r1 hV hh) (r2.below hV hh) (r3.below hV hh) (Rep.below (R := SlotsR) r4 hV hh) (Nat.le_trans hh hV.size))
  obtain ⟨AH, cH, rfl, -⟩ := Rep.slice_form r1
  obtain ⟨AC, cC, rfl, -⟩ := r2.form
  obtain ⟨AS, cS, rfl, -⟩ := r3.form
  obtain ⟨AL, cL, rfl, -⟩ := Rep.slice_form r4
  have HAO := Lib.hid (fun V => implAccountOf_any id lim pos most sum AH hs.length cH sp hd AC cs.length cC AS ss.length cS AL sl.length cL V)
  clear r1 r2 r3 r4 z5 y0 y1 y1' y2 y3 y4 y5 hg
  generalize acctOk (id, lim, pos, most, sum, hs, (sp, hd, cs, ss), sl) = res at HQ ⊢
  go_enter Tryd.func13, Tryd.ntmps13
  go_upto_region 1 with fail
  obtain ⟨W, hW⟩ : ∃ W, W = w.alloc (.cells #[.string id, .int .i64 lim, .int .i64 pos, .int .i64 most, .int .i64 sum, .slice AH hs.length cH, .int .i64 sp, .int .i64 hd, .slice AC cs.length cC, .slice AS ss.length cS, .slice AL sl.length cL] 28) := ⟨_, rfl⟩
  have b0 : bk W w.heap.size 28 [.string id, .int .i64 lim, .int .i64 pos, .int .i64 most, .int .i64 sum, .slice AH hs.length cH, .int .i64 sp, .int .i64 hd, .slice AC cs.length cC, .slice AS ss.length cS, .slice AL sl.length cL] := by rw [hW]; exact bk.new w _ _
  have HB0 : Hid (Below w.heap.size w W) := Lib.hid (by rw [hW]; exact (Below.refl _ _).alloc (Nat.le_refl _) _)
  rw [← hW]
  clear hW
  obtain ⟨⟨p0, p1, p2, p3, p4, p5, p6, p7, p8, p9, p10⟩, -⟩ := b0.eleven
  have z0 := b0.lt
  clear b0
  go_wp2_with fail
  refine (HAO.out W).mono ?_
  rintro e w1 ⟨rfl, hb1⟩
  have HB1 : Hid (Below w.heap.size w w1) := Lib.hid (HB0.out.trans (hb1.mono (by omega)))
  have x1 := hb1.size
  clear hb1 p0 p1 p2 p3 p4 p5 p6 p7 p8 p9 p10
  go_wp2_with fail
  refine (HQ.out w1 HB1.out).mono ?_
  rintro e w2 ⟨rfl, hb2⟩
  have HB2 : Hid (Below w.heap.size w w2) := Lib.hid (HB1.out.trans (hb2.mono (by omega)))
  clear hb2
  go_wp2
  go_ret
  exact ⟨rfl, HB2.out⟩
end Go.Proofs.YtpeeagkfhdeagaaDoor
/- Accounts: marks and looks at them; no conditions. -/
set_option linter.unusedVariables false
namespace Go.Proofs.YtpeeagkfhdeagaaDoor
open Go.ChangeShapes Go.WideShapes Go.ChangeAt Go.RowKit

/-- the number with which the slots' marks begin -/
def kSl (a : AcctD) (k : Int) : Int := k + 3 * ((aH a).length : Int) + (aR a).2.2.1.length + (aR a).2.2.2.length
/-- the number behind the last mark -/
def kAcct (a : AcctD) (k : Int) : Int := kAt (kSl a k) (lensOf (aS a)) (aS a).length
def acctMark (a : AcctD) (k : Int) : AcctD := (aId a, aLim a, aPos a, aMost a, aSum a, holdsMark k (aH a).length, markedR (aR a) (k + 3 * ((aH a).length : Int)), slotsMark (kSl a k) (lensOf (aS a)))
set_option maxRecDepth 100000 in
set_option maxHeartbeats 4000000 in
theorem markAcct_any (lo hi : Nat) (vh vc vs vl : Value) (a : AcctD) (w : World) (hz : acctSmall 1048576 a) (hk : kAcct a 1 ≤ 1000000000) (h : AcctI lo hi w vh vc vs vl a) (hh : hi ≤ w.heap.size) :
    Calls Tryd.prog 8 #[.agg #[.string (aId a), .int .i64 (aLim a), .int .i64 (aPos a), .int .i64 (aMost a), .int .i64 (aSum a), vh, .int .i64 (aR a).1, .int .i64 (aR a).2.1, vc, vs, vl], .int .i64 1] w fun e w' => e = .returned (.int .i64 (kAcct a 1)) ∧ AcctI lo hi w' vh vc vs vl (acctMark a 1) ∧ Turned lo hi w w' := by
  obtain ⟨l1, h1, l2, h2, l3, h3, m1, m2, m3, ⟨x1, x2, x3, x4, x5, x6⟩, d1, d2, d3⟩ := h
  obtain ⟨id, lim, pos, most, sum, hs, ⟨sp, hd, cs, ss⟩, sl⟩ := a
  obtain ⟨z1, z2, z3, z4, -⟩ := hz
  simp only [aId, aLim, aPos, aMost, aSum, aH, aR, aS] at m1 m2 m3 z1 z2 z3 z4 ⊢
  obtain ⟨AH, cH, rfl, -⟩ := Rep.slice_form m1.rd
  obtain ⟨AC, cC, rfl, -⟩ := (ring2 m2.rd).1.form
  obtain ⟨AS, cS, rfl, -⟩ := (ring2 m2.rd).2.form
  obtain ⟨AL, cL, rfl, -⟩ := Rep.slice_form m3.rd
  simp only at m1 m2 m3
  have HM1 := Lib.hid (fun W (m : HoldsR.mine l1 h1 W [.slice AH hs.length cH] hs) (hW : h1 ≤ W.heap.size) => markHolds_any l1 h1 _ hs 1 W (by omega) (by decide) (by decide) m hW)
  have HM2 := Lib.hid (fun W (m : RingR.mine l2 h2 W [.int .i64 sp, .int .i64 hd, .slice AC cs.length cC, .slice AS ss.length cS] (sp, hd, cs, ss)) (hW : h2 ≤ W.heap.size) => markRing_r (r := (sp, hd, cs, ss)) (1 + 3 * (hs.length : Int)) (w := W) (by omega) (by omega) m hW (by simp only; omega) (by simp only; omega))
  have HM3 := Lib.hid (fun W (m : SlotsR.mine l3 h3 W [.slice AL sl.length cL] sl) (hW : h3 ≤ W.heap.size) => markSlots_any l3 h3 _ sl (kSl (id, lim, pos, most, sum, hs, (sp, hd, cs, ss), sl) 1) W (by unfold kSl; simp only [aH]; omega) hk m hW)
  have HK : Hid (kAcct (id, lim, pos, most, sum, hs, (sp, hd, cs, ss), sl) 1 = kAt (kSl (id, lim, pos, most, sum, hs, (sp, hd, cs, ss), sl) 1) (lensOf sl) sl.length) := Lib.hid rfl
  have HS : Hid (kSl (id, lim, pos, most, sum, hs, (sp, hd, cs, ss), sl) 1 = 1 + 3 * (hs.length : Int) + cs.length + ss.length) := Lib.hid rfl
  clear hk
  rw [HK.out]
  have HI : Hid (∀ W, HoldsR.mine l1 h1 W [.slice AH hs.length cH] (holdsMark 1 hs.length) → RingR.mine l2 h2 W [.int .i64 sp, .int .i64 hd, .slice AC cs.length cC, .slice AS ss.length cS] (markedR (sp, hd, cs, ss) (1 + 3 * (hs.length : Int))) → SlotsR.mine l3 h3 W [.slice AL sl.length cL] (slotsMark (kSl (id, lim, pos, most, sum, hs, (sp, hd, cs, ss), sl) 1) (lensOf sl)) → AcctI lo hi W (.slice AH hs.length cH) (.slice AC cs.length cC) (.slice AS ss.length cS) (.slice AL sl.length cL) (acctMark (id, lim, pos, most, sum, hs, (sp, hd, cs, ss), sl) 1)) := Lib.hid fun W a b c => ⟨l1, h1, l2, h2, l3, h3, a, b, c, ⟨x1, x2, x3, x4, x5, x6⟩, d1, d2, d3⟩
  generalize kSl (id, lim, pos, most, sum, hs, (sp, hd, cs, ss), sl) 1 = K at HM3 HS HI ⊢
  obtain rfl : K = 1 + 3 * (hs.length : Int) + cs.length + ss.length := HS.out
  have HN := Lib.hid (And.intro m1 (And.intro m2 m3))
  clear m1 m2 m3 HS HK
  go_enter Tryd.func8, Tryd.ntmps8
  go_upto_region 1 with fail
  obtain ⟨W, hW⟩ : ∃ W, W = w.alloc (.cells #[.string id, .int .i64 lim, .int .i64 pos, .int .i64 most, .int .i64 sum, .slice AH hs.length cH, .int .i64 sp, .int .i64 hd, .slice AC cs.length cC, .slice AS ss.length cS, .slice AL sl.length cL] 28) := ⟨_, rfl⟩
  have b0 : bk W w.heap.size 28 [.string id, .int .i64 lim, .int .i64 pos, .int .i64 most, .int .i64 sum, .slice AH hs.length cH, .int .i64 sp, .int .i64 hd, .slice AC cs.length cC, .slice AS ss.length cS, .slice AL sl.length cL] := by rw [hW]; exact bk.new w _ _
  have HB0 : Hid (Below w.heap.size w W) := Lib.hid (by rw [hW]; exact (Below.refl _ _).alloc (Nat.le_refl _) _)
  rw [← hW]
  clear hW
  have y0 := b0.lt
  have H1 := Lib.hid (HN.out.1.below HB0.out (by omega))
  have H2 := Lib.hid (HN.out.2.1.below HB0.out (by omega))
  have H3 := Lib.hid (HN.out.2.2.below HB0.out (by omega))
  have HT0 : Hid (Turned lo hi w W) := Lib.hid (Turned.of_below HB0.out)
  have B0 := Lib.hid b0
  clear b0 HN HB0
  obtain ⟨⟨p0, p1, p2, p3, p4, p5, p6, p7, p8, p9, p10⟩, -⟩ := B0.out.eleven
  go_wp2_with fail
  refine (HM1.out W H1.out (by omega)).mono ?_
  rintro e w1 ⟨rfl, hn1, ht1⟩
  have y1 := ht1.size
  replace B0 := Lib.hid (B0.out.under ht1 (by omega))
  replace H1 := Lib.hid hn1
  replace H2 := Lib.hid (H2.out.turned ht1 (by omega) (by omega))
  replace H3 := Lib.hid (H3.out.turned ht1 (by omega) (by omega))
  replace HT0 : Hid (Turned lo hi w w1) := Lib.hid (HT0.out.trans (ht1.mono (by omega) (by omega)))
  clear hn1 ht1 HM1 p0 p1 p2 p3 p4 p5 p6 p7 p8 p9 p10
  obtain ⟨⟨p0, p1, p2, p3, p4, p5, p6, p7, p8, p9, p10⟩, -⟩ := B0.out.eleven
  go_wp2_with fail
  refine (HM2.out w1 H2.out (by omega)).mono ?_
  rintro e w2 ⟨rfl, hn2, ht2⟩
  have y2 := ht2.size
  replace B0 := Lib.hid (B0.out.under ht2 (by omega))
  replace H1 := Lib.hid (H1.out.turned ht2 (by omega) (by omega))
  replace H2 := Lib.hid hn2
  replace H3 := Lib.hid (H3.out.turned ht2 (by omega) (by omega))
  replace HT0 : Hid (Turned lo hi w w2) := Lib.hid (HT0.out.trans (ht2.mono (by omega) (by omega)))
  clear hn2 ht2 HM2 p0 p1 p2 p3 p4 p5 p6 p7 p8 p9 p10
  obtain ⟨⟨p0, p1, p2, p3, p4, p5, p6, p7, p8, p9, p10⟩, -⟩ := B0.out.eleven
  go_wp2_with fail
  refine (HM3.out w2 H3.out (by omega)).mono ?_
  rintro e w3 ⟨rfl, hn3, ht3⟩
  have y3 := ht3.size
  replace H1 := Lib.hid (H1.out.turned ht3 (by omega) (by omega))
  replace H2 := Lib.hid (H2.out.turned ht3 (by omega) (by omega))
  replace H3 := Lib.hid hn3
  replace HT0 : Hid (Turned lo hi w w3) := Lib.hid (HT0.out.trans (ht3.mono (by omega) (by omega)))
  clear hn3 ht3 HM3 p0 p1 p2 p3 p4 p5 p6 p7 p8 p9 p10 B0
  go_wp2
  go_ret
  exact ⟨rfl, HI.out w3 H1.out H2.out H3.out, HT0.out⟩
set_option maxRecDepth 100000 in
set_option maxHeartbeats 4000000 in
theorem heldAcct_any (hi : Nat) (vh vc vs vl : Value) (a : AcctD) (w : World) (hz : acctSmall 1048576 a) (hk : kAcct a 1 ≤ 1000000000) (h : AcctR.rd hi w (aCells (acctMark a 1) vh vc vs vl) (acctMark a 1)) (hh : hi ≤ w.heap.size) :
    Calls Tryd.prog 9 #[.agg #[.string (aId a), .int .i64 (aLim a), .int .i64 (aPos a), .int .i64 (aMost a), .int .i64 (aSum a), vh, .int .i64 (aR a).1, .int .i64 (aR a).2.1, vc, vs, vl], .int .i64 1] w fun e w' => e = .returned (.int .i64 (kAcct a 1)) ∧ Below w.heap.size w w' := by
  obtain ⟨vh0, vc0, vs0, vl0, hcs, r1, r2, r3, r4⟩ := acct_rd h
  simp only [aCells, List.cons.injEq, and_true, true_and] at hcs
  obtain ⟨rfl, rfl, rfl, rfl⟩ := hcs
  clear h
  obtain ⟨id, lim, pos, most, sum, hs, ⟨sp, hd, cs, ss⟩, sl⟩ := a
  obtain ⟨z1, z2, z3, z4, -⟩ := hz
  simp only [acctMark, markedR, aId, aLim, aPos, aMost, aSum, aH, aR, aS] at r1 r2 r3 r4 z1 z2 z3 z4 ⊢
  obtain ⟨AH, cH, rfl, -⟩ := Rep.slice_form r1
  obtain ⟨AC, cC, rfl, -⟩ := r2.form
  obtain ⟨AS, cS, rfl, -⟩ := r3.form
  obtain ⟨AL, cL, rfl, -⟩ := Rep.slice_form r4
  have HK : Hid (kAcct (id, lim, pos, most, sum, hs, (sp, hd, cs, ss), sl) 1 = kAt (kSl (id, lim, pos, most, sum, hs, (sp, hd, cs, ss), sl) 1) (lensOf sl) sl.length) := Lib.hid rfl
  have HS : Hid (kSl (id, lim, pos, most, sum, hs, (sp, hd, cs, ss), sl) 1 = 1 + 3 * (hs.length : Int) + cs.length + ss.length) := Lib.hid rfl
  have HU := Lib.hid (kAt_up sl (kSl (id, lim, pos, most, sum, hs, (sp, hd, cs, ss), sl) 1))
  have HM1 := Lib.hid (fun W (hW : Below w.heap.size w W) => heldHolds_any hi _ hs.length 1 W (by omega) (by decide) (by decide) (Rep.below (R := HoldsR) r1 hW hh) (Nat.le_trans hh hW.size))
  have HM2 := Lib.hid (fun W (hW : Below w.heap.size w W) => heldRing_any hi _ _ sp hd cs.length ss.length (1 + 3 * (hs.length : Int)) W (by omega) (by omega) (r2.below hW hh) (r3.below hW hh) (Nat.le_trans hh hW.size) z2 z3)
  have HM3 := Lib.hid (fun W (hW : Below w.heap.size w W) => heldSlots_any hi _ (lensOf sl) (kSl (id, lim, pos, most, sum, hs, (sp, hd, cs, ss), sl) 1) W (by unfold kSl; simp only [aH]; omega) (by rw [lensOf_len]; exact hk) (Rep.below (R := SlotsR) r4 hW hh) (Nat.le_trans hh hW.size))
  rw [holdsMark_len] at HM1 ⊢
  rw [marks_length] at HM2 ⊢
  rw [marks_length] at HM2 ⊢
  rw [slotsMark_len, lensOf_len] at HM3 ⊢
  clear hk r1 r2 r3 r4
  rw [HK.out]
  generalize kSl (id, lim, pos, most, sum, hs, (sp, hd, cs, ss), sl) 1 = K at HM3 HS HU ⊢
  obtain rfl : K = 1 + 3 * (hs.length : Int) + cs.length + ss.length := HS.out
  generalize kAt (1 + 3 * (hs.length : Int) + cs.length + ss.length) (lensOf sl) sl.length = K2 at HM3 HU ⊢
  have hu := HU.out
  clear HS HK HU
  go_enter Tryd.func9, Tryd.ntmps9
  go_upto_region 1 with fail
  obtain ⟨W, hW⟩ : ∃ W, W = w.alloc (.cells #[.string id, .int .i64 lim, .int .i64 pos, .int .i64 most, .int .i64 sum, .slice AH hs.length cH, .int .i64 sp, .int .i64 hd, .slice AC cs.length cC, .slice AS ss.length cS, .slice AL sl.length cL] 28) := ⟨_, rfl⟩
  have b0 : bk W w.heap.size 28 [.string id, .int .i64 lim, .int .i64 pos, .int .i64 most, .int .i64 sum, .slice AH hs.length cH, .int .i64 sp, .int .i64 hd, .slice AC cs.length cC, .slice AS ss.length cS, .slice AL sl.length cL] := by rw [hW]; exact bk.new w _ _
  have HB0 : Hid (Below w.heap.size w W) := Lib.hid (by rw [hW]; exact (Below.refl _ _).alloc (Nat.le_refl _) _)
  rw [← hW]
  clear hW
  have y0 := b0.lt
  have B0 := Lib.hid b0
  clear b0
  obtain ⟨⟨p0, p1, p2, p3, p4, p5, p6, p7, p8, p9, p10⟩, -⟩ := B0.out.eleven
  go_wp2_with fail
  refine (HM1.out W HB0.out).mono ?_
  rintro e w1 ⟨rfl, hb1⟩
  have y1 := hb1.size
  have kk : ¬ (1 + 3 * (hs.length : Int) < 0) := by omega
  replace B0 := Lib.hid (B0.out.below hb1 (by omega))
  have HB1 : Hid (Below w.heap.size w w1) := Lib.hid (HB0.out.trans (hb1.mono (by omega)))
  clear hb1 HM1 HB0 p0 p1 p2 p3 p4 p5 p6 p7 p8 p9 p10
  obtain ⟨⟨p0, p1, p2, p3, p4, p5, p6, p7, p8, p9, p10⟩, -⟩ := B0.out.eleven
  go_wp2_with fail
  refine (HM2.out w1 HB1.out).mono ?_
  rintro e w2 ⟨rfl, hb2⟩
  have y2 := hb2.size
  have kk2 : ¬ (1 + 3 * (hs.length : Int) + cs.length + ss.length < 0) := by omega
  replace B0 := Lib.hid (B0.out.below hb2 (by omega))
  have HB2 : Hid (Below w.heap.size w w2) := Lib.hid (HB1.out.trans (hb2.mono (by omega)))
  clear hb2 HM2 HB1 p0 p1 p2 p3 p4 p5 p6 p7 p8 p9 p10
  obtain ⟨⟨p0, p1, p2, p3, p4, p5, p6, p7, p8, p9, p10⟩, -⟩ := B0.out.eleven
  go_wp2_with fail
  refine (HM3.out w2 HB2.out).mono ?_
  rintro e w3 ⟨rfl, hb3⟩
  have kk3 : ¬ (K2 < 0) := by omega
  have HB3 : Hid (Below w.heap.size w w3) := Lib.hid (HB2.out.trans (hb3.mono (by omega)))
  clear hb3 HM3 HB2 p0 p1 p2 p3 p4 p5 p6 p7 p8 p9 p10 B0
  go_wp2
  go_ret
  exact ⟨rfl, HB3.out⟩
set_option maxRecDepth 100000 in
theorem kAcct_up (a : AcctD) : 1 ≤ kAcct a 1 := by
  have h := kAt_up (aS a) (kSl a 1)
  unfold kAcct
  have h2 : 1 ≤ kSl a 1 := by unfold kSl; omega
  omega
/-- an account and a truth as they are given back, the account's parts in intervals -/
def acctResI (a : AcctD) (ok : Bool) (w : World) (e : Ending) (w' : World) : Prop := ∃ vh vc vs vl, e = .returned (.tuple #[.agg #[.string (aId a), .int .i64 (aLim a), .int .i64 (aPos a), .int .i64 (aMost a), .int .i64 (aSum a), vh, .int .i64 (aR a).1, .int .i64 (aR a).2.1, vc, vs, vl], .bool ok]) ∧ AcctI w.heap.size w'.heap.size w' vh vc vs vl a ∧ Below w.heap.size w w'
end Go.Proofs.YtpeeagkfhdeagaaDoor
/- What a new account's sizes are; no conditions. -/
set_option linter.unusedVariables false
namespace Go.Proofs.YtpeeagkfhdeagaaDoor
set_option maxRecDepth 100000 in
theorem acctNew_fit (id : ByteArray) (lim most sum n sp : Int) : acctSmall 1048576 (acctNew id lim most sum n sp).1 ∧ kAcct (acctNew id lim most sum n sp).1 1 ≤ 1000000000 := by
  have hl := ringNew_len n sp
  have hk : ∀ a : AcctD, aS a = [] → (aH a).length = 0 → (aR a).2.2.1.length ≤ 8 → (aR a).2.2.2.length ≤ 8 → kAcct a 1 ≤ 1000000000 := fun a h1 h2 h3 h4 => by
    unfold kAcct kSl
    rw [h1, h2]
    simp only [lensOf, List.map_nil, List.length_nil, kAt_zero]
    omega
  unfold acctNew
  split
  · exact ⟨⟨Nat.zero_le _, Nat.le_trans hl.1 (by decide), Nat.le_trans hl.2 (by decide), Nat.zero_le _, fun x hx => (by cases hx)⟩, hk _ rfl rfl hl.1 hl.2⟩
  · exact ⟨⟨Nat.zero_le _, Nat.zero_le _, Nat.zero_le _, Nat.zero_le _, fun x hx => (by cases hx)⟩, hk _ rfl rfl (Nat.zero_le _) (Nat.zero_le _)⟩
end Go.Proofs.YtpeeagkfhdeagaaDoor
/- RingNew of the program; no conditions. -/
set_option linter.unusedVariables false
namespace Go.Proofs.YtpeeagkfhdeagaaDoor
open Go.ChangeShapes Go.WideShapes Go.ChangeAt Go.RowKit

set_option maxRecDepth 100000 in
set_option maxHeartbeats 4000000 in
theorem implRingNew_any (n sp : Int) (w : World) :
    Calls Tryd.prog 15 #[.int .i64 n, .int .i64 sp] w (ringRes (ringNew n sp).1 (ringNew n sp).2 w) := by
  have HD : Hid (ringNew n sp = if (inB n 1 8 && inB sp 1 1000) = true then ((sp, 0, List.replicate n.toNat 0, List.replicate n.toNat 0), true) else ((0, 0, [], []), false)) := Lib.hid rfl
  have HI1 := Lib.hid (fun w => implBuckets_any n w)
  have HI2 := Lib.hid (fun w => implSpan_any sp w)
  have hn8 : inB n 1 8 = true → 1 ≤ n ∧ n ≤ 8 := fun h => by simpa [inB] using h
  generalize inB n 1 8 = b1 at HI1 HD hn8
  generalize inB sp 1 1000 = b2 at HI2 HD
  have hrow := heap_alloc_new w (.cells #[.int .i64 0, .int .i64 0, .slice none 0 0, .slice none 0 0] 25)
  have HB0 : Hid (Below w.heap.size w (w.alloc (.cells #[.int .i64 0, .int .i64 0, .slice none 0 0, .slice none 0 0] 25))) := Lib.hid ((Below.refl _ _).alloc (Nat.le_refl _) _)
  cases b1
  · clear hn8
    go_enter Tryd.func15, Tryd.ntmps15
    go_wp2_with fail
    refine (HI1.out _).mono ?_
    rintro e w1 ⟨rfl, rfl⟩
    go_wp2
    refine bodyPost_ret (v := .tuple #[.agg #[.int .i64 0, .int .i64 0, .slice none 0 0, .slice none 0 0], .bool false]) (by simp [results, Tryd.results15, go_sem]) rfl ?_
    rw [HD.out]
    exact ⟨_, _, rfl, ring_mine_of (nums_none _ _ _ _) (nums_none _ _ _ _) (by intro b h; cases h), HB0.out⟩
  cases b2
  · clear hn8
    go_enter Tryd.func15, Tryd.ntmps15
    go_wp2_with fail
    refine (HI1.out _).mono ?_
    rintro e w1 ⟨rfl, rfl⟩
    go_wp2_with fail
    refine (HI2.out _).mono ?_
    rintro e w1 ⟨rfl, rfl⟩
    go_wp2
    refine bodyPost_ret (v := .tuple #[.agg #[.int .i64 0, .int .i64 0, .slice none 0 0, .slice none 0 0], .bool false]) (by simp [results, Tryd.results15, go_sem]) rfl ?_
    rw [HD.out]
    exact ⟨_, _, rfl, ring_mine_of (nums_none _ _ _ _) (nums_none _ _ _ _) (by intro b h; cases h), HB0.out⟩
  obtain ⟨h1, h2⟩ := hn8 rfl
  obtain ⟨k, rfl⟩ := Int.eq_ofNat_of_zero_le (show 0 ≤ n by omega)
  have hmk := fun W => make_run (P := Tryd.prog) 23 3 #[.int .i64 0] 1 8 Tryd.underlying23 infoIntN k (by omega) (by omega) W
  clear hn8
  go_enter Tryd.func15, Tryd.ntmps15
  go_wp2_with fail
  refine (HI1.out _).mono ?_
  rintro e w1 ⟨rfl, rfl⟩
  go_wp2_with fail
  refine (HI2.out _).mono ?_
  rintro e w1 ⟨rfl, rfl⟩
  go_wp2
  go_region
  · go_wp2
    refine bodyPost_ret (v := .tuple #[.agg #[.int .i64 sp, .int .i64 0, .slice (some ⟨w.heap.size + 1, 0, none⟩) k k, .slice (some ⟨w.heap.size + 1 + 1, 0, none⟩) k k], .bool true]) (by simp [results, Tryd.results15, go_sem]) rfl ?_
    rw [HD.out]
    refine ⟨_, _, rfl, ring_mine_of (?_) (?_) (by intro b h h'; cases k <;> simp [Proofs.YtpeeagkfhdeagaaDoor.blk] at h h'; omega), ((((Below.refl _ _).alloc (Nat.le_refl _) _).alloc (by simp) _).alloc (by simp <;> omega) _).drew⟩
    · show nums .i64 _ _ _ _ (List.replicate k 0)
      exact made_nums (w.alloc _) (by simp) (show (((w.alloc _).alloc _).alloc _).heap[_]? = _ from Below.heap_alloc _ _ _ (by simp)) (by omega) (by show _ < (((w.alloc _).alloc _).alloc _).heap.size; simp)
    · show nums .i64 _ _ _ _ (List.replicate k 0)
      exact made_nums ((w.alloc _).alloc _) (by simp) (show (((w.alloc _).alloc _).alloc _).heap[_]? = _ from rfl) (by omega) (by show _ < (((w.alloc _).alloc _).alloc _).heap.size; simp)
  · go_wp2
    refine bodyPost_ret (v := .tuple #[.agg #[.int .i64 sp, .int .i64 0, .slice (some ⟨w.heap.size + 1 + 1, 0, none⟩) k k, .slice (some ⟨w.heap.size + 1, 0, none⟩) k k], .bool true]) (by simp [results, Tryd.results15, go_sem]) rfl ?_
    rw [HD.out]
    refine ⟨_, _, rfl, ring_mine_of (?_) (?_) (by intro b h h'; cases k <;> simp [Proofs.YtpeeagkfhdeagaaDoor.blk] at h h'; omega), ((((Below.refl _ _).alloc (Nat.le_refl _) _).alloc (by simp) _).alloc (by simp <;> omega) _).drew⟩
    · show nums .i64 _ _ _ _ (List.replicate k 0)
      exact made_nums ((w.alloc _).alloc _) (by simp) (show (((w.alloc _).alloc _).alloc _).heap[_]? = _ from rfl) (by omega) (by show _ < (((w.alloc _).alloc _).alloc _).heap.size; simp)
    · show nums .i64 _ _ _ _ (List.replicate k 0)
      exact made_nums (w.alloc _) (by simp) (show (((w.alloc _).alloc _).alloc _).heap[_]? = _ from Below.heap_alloc _ _ _ (by simp)) (by omega) (by show _ < (((w.alloc _).alloc _).alloc _).heap.size; simp)
end Go.Proofs.YtpeeagkfhdeagaaDoor
/- AcctNew of the program; no conditions but the library's handle. -/
set_option linter.unusedVariables false
namespace Go.Proofs.YtpeeagkfhdeagaaDoor
open Go.ChangeShapes Go.WideShapes Go.ChangeAt Go.RowKit

set_option maxRecDepth 100000 in
theorem acctI_nil (lo hi : Nat) (w : World) (h : lo ≤ hi) : AcctI lo hi w (.slice none 0 0) (.slice none 0 0) (.slice none 0 0) (.slice none 0 0) acctNil :=
  acctI_ivl (p1 := lo) (p2 := lo) (holds_none _ _ _) (ring_mine_of (nums_none _ _ _ _) (nums_none _ _ _ _) (by intro b h; cases h)) (slots_none _ _ _) (by omega) (by omega) (by omega)
set_option maxRecDepth 100000 in
set_option maxHeartbeats 8000000 in
theorem implAcctNew_any (id : ByteArray) (lim most sum n sp : Int) (w : World) (hg : Handle w) (hid : id.size ≤ maxLen) :
    Calls Tryd.prog 6 #[.string id, .int .i64 lim, .int .i64 most, .int .i64 sum, .int .i64 n, .int .i64 sp] w (acctResI (acctNew id lim most sum n sp).1 (acctNew id lim most sum n sp).2 w) := by
  have HRN := Lib.hid (fun W => implRingNew_any n sp W)
  have hl := ringNew_len n sp
  have HOK := Lib.hid (fun (hi : Nat) (vc vs : Value) (W : World) (hb : Below w.heap.size w W) (h1 : rd .i64 hi W vc (ringNew n sp).1.2.2.1) (h2 : rd .i64 hi W vs (ringNew n sp).1.2.2.2) (hW : hi ≤ W.heap.size) => implAcctOk_any hi (.slice none 0 0) vc vs (.slice none 0 0) (acctFresh id lim most sum (ringNew n sp).1) W (hg.below hb (Nat.le_refl _)) ⟨Nat.zero_le _, Nat.le_trans hl.1 (by decide), Nat.le_trans hl.2 (by decide), Nat.zero_le _, fun x hx => (by cases hx)⟩ ⟨hid, Nat.zero_le _, fun x hx => (by cases hx), Nat.le_trans hl.1 (by decide), Nat.le_trans hl.2 (by decide), Nat.zero_le _, fun x hx => (by cases hx)⟩ (acct_rd_of (holds_none 0 hi W).rd h1 h2 (slots_none 0 hi W).rd) hW)
  clear hl hid hg
  have HZ : Hid ((ringNew n sp).2 = false → acctOk (acctFresh id lim most sum (ringNew n sp).1) = false) := Lib.hid fun h => by
    have e : (ringNew n sp).1 = (0, 0, [], []) := by
      unfold ringNew at h ⊢
      split
      · rename_i hc; rw [if_pos hc] at h; cases h
      · rfl
    rw [e]
    unfold acctOk acctTail
    have hr : ringOk (aR (acctFresh id lim most sum (0, 0, [], []))) = false := by show ringOk (0, 0, [], []) = false; decide
    rw [hr]
    simp
  have HD : Hid (acctNew id lim most sum n sp = if ((ringNew n sp).2 && acctOk (acctFresh id lim most sum (ringNew n sp).1)) = true then (acctFresh id lim most sum (ringNew n sp).1, true) else (acctNil, false)) := Lib.hid rfl
  generalize acctOk (acctFresh id lim most sum (ringNew n sp).1) = ao at HD HOK HZ
  generalize acctNew id lim most sum n sp = an at HD ⊢
  obtain ⟨⟨r, ok⟩, hr⟩ : ∃ r, r = ringNew n sp := ⟨_, rfl⟩
  rw [← hr] at HD HOK HRN HZ
  clear hr
  obtain ⟨sp2, hd, cs, ss⟩ := r
  simp only [aId, aLim, aPos, aMost, aSum] at HRN HOK HZ
  go_enter Tryd.func6, Tryd.ntmps6
  go_upto_region 1 with fail
  obtain ⟨W, hW⟩ : ∃ W, W = w.alloc (.cells #[.string ⟨#[]⟩, .int .i64 0, .int .i64 0, .int .i64 0, .int .i64 0, .slice none 0 0, .int .i64 0, .int .i64 0, .slice none 0 0, .slice none 0 0, .slice none 0 0] 28) := ⟨_, rfl⟩
  have b0 : bk W w.heap.size 28 [.string ⟨#[]⟩, .int .i64 0, .int .i64 0, .int .i64 0, .int .i64 0, .slice none 0 0, .int .i64 0, .int .i64 0, .slice none 0 0, .slice none 0 0, .slice none 0 0] := by rw [hW]; exact bk.new w _ _
  have HB0 : Hid (Below w.heap.size w W) := Lib.hid (by rw [hW]; exact (Below.refl _ _).alloc (Nat.le_refl _) _)
  rw [← hW]
  clear hW
  have y0 := b0.lt
  have B0 := Lib.hid b0
  clear b0
  go_wp2_with fail
  refine (HRN.out W).mono ?_
  rintro e w1 ⟨vc, vs, rfl, hm1, hb1⟩
  obtain ⟨xc, xs, hcs, q2, q3⟩ := ring_rd hm1.rd
  simp only [List.cons.injEq, and_true, true_and] at hcs
  obtain ⟨rfl, rfl⟩ := hcs
  obtain ⟨A3, c3, rfl, -⟩ := q2.form
  obtain ⟨A4, c4, rfl, -⟩ := q3.form
  simp only at hm1 q2 q3 ⊢
  have z1 := hb1.size
  have HM1 := Lib.hid hm1
  have HQ := Lib.hid (And.intro q2 q3)
  have HB1 : Hid (Below w.heap.size w w1) := Lib.hid (HB0.out.trans (hb1.mono (by omega)))
  have C0 := Lib.hid (B0.out.below hb1 (by omega))
  clear hm1 hb1 HB0 HRN B0 q2 q3
  go_upto_region 3 with fail
  obtain ⟨W3, hW3⟩ : ∃ W3, W3 = (w1.alloc (.cells #[.int .i64 sp2, .int .i64 hd, .slice A3 cs.length c3, .slice A4 ss.length c4] 25)).alloc (.cells #[.string id, .int .i64 lim, .int .i64 0, .int .i64 most, .int .i64 sum, .slice none 0 0, .int .i64 sp2, .int .i64 hd, .slice A3 cs.length c3, .slice A4 ss.length c4, .slice none 0 0] 28) := ⟨_, rfl⟩
  have b2 : bk W3 (w1.heap.size + 1) 28 [.string id, .int .i64 lim, .int .i64 0, .int .i64 most, .int .i64 sum, .slice none 0 0, .int .i64 sp2, .int .i64 hd, .slice A3 cs.length c3, .slice A4 ss.length c4, .slice none 0 0] := by rw [hW3]; simpa using bk.new (w1.alloc _) 28 [.string id, .int .i64 lim, .int .i64 0, .int .i64 most, .int .i64 sum, .slice none 0 0, .int .i64 sp2, .int .i64 hd, .slice A3 cs.length c3, .slice A4 ss.length c4, .slice none 0 0]
  have hb3 : Below w1.heap.size w1 W3 := by rw [hW3]; exact ((Below.refl _ _).alloc (Nat.le_refl _) _).alloc (by simp) _
  rw [← hW3]
  clear hW3
  have z3 := b2.lt
  have B0 := Lib.hid (C0.out.below hb3 (by omega))
  have B2 := Lib.hid b2
  have HM3 := Lib.hid (HM1.out.below hb3 (Nat.le_refl _))
  have HQ3 := Lib.hid (And.intro (HQ.out.1.below hb3 (Nat.le_refl _)) (HQ.out.2.below hb3 (Nat.le_refl _)))
  have HB3 : Hid (Below w.heap.size w W3) := Lib.hid (HB1.out.trans (hb3.mono (by omega)))
  clear hb3 b2 C0 HM1 HB1 HQ
  obtain ⟨⟨p0, p1, p2, p3, p4, p5, p6, p7, p8, p9, p10⟩, -⟩ := B2.out.eleven
  go_wp2_with fail
  refine (HOK.out w1.heap.size _ _ W3 HB3.out HQ3.out.1 HQ3.out.2 (by omega)).mono ?_
  rintro e w4 ⟨rfl, hb4⟩
  have z4 := hb4.size
  have b1 := B0.out.below hb4 (by omega)
  have b2 := B2.out.below hb4 (by omega)
  have HM4 := Lib.hid (HM3.out.below hb4 (by omega))
  have HB4 : Hid (Below w.heap.size w w4) := Lib.hid (HB3.out.trans (hb4.mono (by omega)))
  clear hb4 HOK B0 B2 HQ3 HM3 HB3 p0 p1 p2 p3 p4 p5 p6 p7 p8 p9 p10
  cases ao
  · replace HD : Hid (an = (acctNil, false)) := Lib.hid (by rw [HD.out, Bool.and_false]; rfl)
    clear b2 HZ
    obtain ⟨⟨r0, r1, r2, r3, r4, r5, r6, r7, r8, r9, r10⟩, g0, g1, g2, g3, g4, g5, g6, g7, g8, g9, g10⟩ := b1.eleven
    clear b1
    go_wp2
    refine bodyPost_ret (v := .tuple #[.agg #[.string ⟨#[]⟩, .int .i64 0, .int .i64 0, .int .i64 0, .int .i64 0, .slice none 0 0, .int .i64 0, .int .i64 0, .slice none 0 0, .slice none 0 0, .slice none 0 0], .bool false]) (by simp [results, Tryd.results6, go_sem, r0, r1, r2, r3, r4, r5, r6, r7, r8, r9, r10]) rfl ?_
    have ht := (((((((((((Turned.refl w.heap.size (w.heap.size + 1) w4).set (b := w.heap.size) 0 (.string ⟨#[]⟩) (by omega) (by omega)).set (b := w.heap.size) 1 (.int .i64 0) (by omega) (by omega)).set (b := w.heap.size) 2 (.int .i64 0) (by omega) (by omega)).set (b := w.heap.size) 3 (.int .i64 0) (by omega) (by omega)).set (b := w.heap.size) 4 (.int .i64 0) (by omega) (by omega)).set (b := w.heap.size) 5 (.slice none 0 0) (by omega) (by omega)).set (b := w.heap.size) 6 (.int .i64 0) (by omega) (by omega)).set (b := w.heap.size) 7 (.int .i64 0) (by omega) (by omega)).set (b := w.heap.size) 8 (.slice none 0 0) (by omega) (by omega)).set (b := w.heap.size) 9 (.slice none 0 0) (by omega) (by omega)).set (b := w.heap.size) 10 (.slice none 0 0) (by omega) (by omega)
    have hsz := ht.size
    rw [HD.out]
    exact ⟨_, _, _, _, rfl, acctI_nil _ _ _ (by omega), HB4.out.trans (ht.below (by omega) (by omega))⟩
  · have hok : ok = true := by
      cases ok
      · exact absurd (HZ.out rfl) (by decide)
      · rfl
    subst hok
    replace HD : Hid (an = ((id, lim, 0, most, sum, [], (sp2, hd, cs, ss), []), true)) := Lib.hid (by rw [HD.out]; rfl)
    obtain ⟨⟨p0, p1, p2, p3, p4, p5, p6, p7, p8, p9, p10⟩, -⟩ := b2.eleven
    clear b2 HZ
    obtain ⟨⟨r0, r1, r2, r3, r4, r5, r6, r7, r8, r9, r10⟩, g0, g1, g2, g3, g4, g5, g6, g7, g8, g9, g10⟩ := b1.eleven
    clear b1
    go_wp2
    refine bodyPost_ret (v := .tuple #[.agg #[.string id, .int .i64 lim, .int .i64 0, .int .i64 most, .int .i64 sum, .slice none 0 0, .int .i64 sp2, .int .i64 hd, .slice A3 cs.length c3, .slice A4 ss.length c4, .slice none 0 0], .bool true]) (by simp [results, Tryd.results6, go_sem, r0, r1, r2, r3, r4, r5, r6, r7, r8, r9, r10]) rfl ?_
    have ht := (((((((((((Turned.refl w.heap.size (w.heap.size + 1) w4).set (b := w.heap.size) 0 (.string id) (by omega) (by omega)).set (b := w.heap.size) 1 (.int .i64 lim) (by omega) (by omega)).set (b := w.heap.size) 2 (.int .i64 0) (by omega) (by omega)).set (b := w.heap.size) 3 (.int .i64 most) (by omega) (by omega)).set (b := w.heap.size) 4 (.int .i64 sum) (by omega) (by omega)).set (b := w.heap.size) 5 (.slice none 0 0) (by omega) (by omega)).set (b := w.heap.size) 6 (.int .i64 sp2) (by omega) (by omega)).set (b := w.heap.size) 7 (.int .i64 hd) (by omega) (by omega)).set (b := w.heap.size) 8 (.slice A3 cs.length c3) (by omega) (by omega)).set (b := w.heap.size) 9 (.slice A4 ss.length c4) (by omega) (by omega)).set (b := w.heap.size) 10 (.slice none 0 0) (by omega) (by omega)
    have hsz := ht.size
    rw [HD.out]
    exact ⟨_, _, _, _, rfl, acctI_ivl (p1 := w.heap.size) (p2 := w1.heap.size) (holds_none _ _ _) ((HM4.out.turned ht (.inr (by omega)) (by omega)).mono (by omega) (by omega)) (slots_none _ _ _) (by omega) (by omega) (by omega), HB4.out.trans (ht.below (by omega) (by omega))⟩
end Go.Proofs.YtpeeagkfhdeagaaDoor
/- A slice of ints that came in reads as a list of ints. -/
set_option linter.unusedVariables false
namespace Go.Proofs.YtpeeagkfhdeagaaDoor
open Go.ChangeShapes Go.WideShapes Go.ChangeAt Go.RowKit Go.WideElems

set_option maxRecDepth 100000 in
theorem cellsNI64 : Tryd.prog.cellsOf 3 = 1 := by kernel_rfl
set_option maxRecDepth 100000 in
theorem open_rdInts {H : Type} {enc : TypeId × Value → H} {W : World} {base : Nat} {v : Value} {d : DataW H} {p : List MemPlace} (hval : Value.okWide Tryd.prog W .any base 23 v) (h : DataW.Trod enc Tryd.prog W 0 (fun _ => true) true 23 v d p) : ∃ l, rd .i64 W.heap.size W v l ∧ isInts l := by
  obtain ⟨ao, len, cap, rfl⟩ := okWide_slice Tryd.underlying23 hval
  obtain ⟨fuel, hf⟩ := h
  rcases open_ints Tryd.underlying23 Tryd.underlying3 cellsNI64 hf with ⟨hcs, hx⟩ | ⟨a, len', cap', zs, hcs, _, hl, hm, hz, hx, hcell, hwz⟩
  · simp only [Value.cells, List.cons.injEq, Value.slice.injEq, and_true] at hcs
    obtain ⟨rfl, rfl, rfl⟩ := hcs
    exact ⟨[], ⟨none, 0, rfl, Nat.le_refl _, fun j hj => by simp at hj⟩, fun z hz => by simp at hz⟩
  · simp only [Value.cells, List.cons.injEq, Value.slice.injEq, and_true] at hcs
    obtain ⟨rfl, rfl, rfl⟩ := hcs
    simp only [if_true] at hz
    have hlen : (zs.take len).length = len := by rw [List.length_take]; omega
    refine ⟨zs.take len, ⟨some a, cap, by rw [hlen], by omega, fun i hi => ?_⟩, fun z hzm => bounds_i64 (hwz z (List.mem_of_mem_take hzm))⟩
    rw [hlen] at hi
    obtain ⟨b, off, rfl, hc⟩ := ints_at hcell (by omega)
    have h0 := hc i (by omega)
    have hb : b < W.heap.size := by
      rcases Nat.lt_or_ge b W.heap.size with h' | h'
      · exact h'
      · simp [World.cell?, Array.getElem?_eq_none h'] at h0
    refine ⟨b, off, rfl, hb, ?_⟩
    rw [h0, List.getD_eq_getElem?_getD, List.getD_eq_getElem?_getD, List.getElem?_take_of_lt hi]
end Go.Proofs.YtpeeagkfhdeagaaDoor
/- A hold, a slice of holds that a law is given. -/
set_option linter.unusedVariables false
namespace Go.Proofs.YtpeeagkfhdeagaaDoor
open Go.ChangeShapes Go.WideShapes Go.ChangeAt Go.RowKit Go.Deep

set_option maxRecDepth 100000 in
theorem opens_hold {H : Type} {enc : TypeId × Value → H} {W : World} : Opens enc Tryd.prog W HoldR 83 (fun x => x.1.size ≤ maxLen ∧ (Lit.int .i64 x.2.1).wf = true ∧ (Lit.int .i64 x.2.2).wf = true) :=
  opens_struct Tryd.underlying83 (by kernel_rfl) (opensF_cons (opens_str Tryd.underlying9) rfl (by kernel_rfl) (opensF_cons (opens_int Tryd.underlying3) rfl (by kernel_rfl) (opensF_one (opens_int Tryd.underlying3) rfl (by kernel_rfl))))
set_option maxRecDepth 100000 in
theorem open_hold {H : Type} {enc : TypeId × Value → H} {W : World} {base : Nat} {v : Value} {d : DataW H} {p : List MemPlace} (hval : Value.okWide Tryd.prog W .any base 83 v) (h : DataW.Trod enc Tryd.prog W 0 (fun _ => true) true 83 v d p) :
    ∃ x : HoldD, v = .agg #[.string x.1, .int .i64 x.2.1, .int .i64 x.2.2] ∧ x.1.size ≤ maxLen := by
  obtain ⟨cs, rfl, hsz⟩ := okWide_struct Tryd.underlying83 hval
  obtain ⟨fuel, hf⟩ := h
  obtain ⟨x, hr, h1, h2⟩ := opens_hold fuel _ _ hf
  refine ⟨x, ?_, h1⟩
  have hcs : cs.toList = [.string x.1, .int .i64 x.2.1, .int .i64 x.2.2] := hold_rd.1 hr
  rw [← hcs]
set_option maxRecDepth 100000 in
theorem open_holds {H : Type} {enc : TypeId × Value → H} {W : World} {base : Nat} {v : Value} {d : DataW H} {p : List MemPlace} (hval : Value.okWide Tryd.prog W .any base 34 v) (h : DataW.Trod enc Tryd.prog W 0 (fun _ => true) true 34 v d p) :
    ∃ l : List HoldD, HoldsR.rd W.heap.size W [v] l ∧ l.length ≤ maxLen ∧ ∀ x ∈ l, x.1.size ≤ maxLen := by
  obtain ⟨ao, len, cap, rfl⟩ := okWide_slice Tryd.underlying34 hval
  obtain ⟨fuel, hf⟩ := h
  have hL := opens_slice (by decide) Tryd.underlying34 (by kernel_rfl) (opens_hold (enc := enc) (W := W))
  obtain ⟨l, hr, h1, h2⟩ := hL fuel _ _ hf
  exact ⟨l, hr, h1, fun x hx => (h2 x hx).1⟩
end Go.Proofs.YtpeeagkfhdeagaaDoor
/- A slice of bytes that came in reads as a list of bytes. -/
set_option linter.unusedVariables false
namespace Go.Proofs.YtpeeagkfhdeagaaDoor
open Go.ChangeShapes Go.WideShapes Go.ChangeAt Go.RowKit Go.WideElems

set_option maxRecDepth 100000 in
theorem cellsNU8 : Tryd.prog.cellsOf 5 = 1 := by kernel_rfl
set_option maxRecDepth 100000 in
theorem open_rdBytes {H : Type} {enc : TypeId × Value → H} {W : World} {base : Nat} {v : Value} {d : DataW H} {p : List MemPlace} (hval : Value.okWide Tryd.prog W .any base 76 v) (h : DataW.Trod enc Tryd.prog W 0 (fun _ => true) true 76 v d p) : ∃ l, rd .u8 W.heap.size W v l ∧ isBytes l := by
  obtain ⟨ao, len, cap, rfl⟩ := okWide_slice Tryd.underlying76 hval
  obtain ⟨fuel, hf⟩ := h
  rcases open_ints Tryd.underlying76 Tryd.underlying5 cellsNU8 hf with ⟨hcs, hx⟩ | ⟨a, len', cap', zs, hcs, _, hl, hm, hz, hx, hcell, hwz⟩
  · simp only [Value.cells, List.cons.injEq, Value.slice.injEq, and_true] at hcs
    obtain ⟨rfl, rfl, rfl⟩ := hcs
    exact ⟨[], ⟨none, 0, rfl, Nat.le_refl _, fun j hj => by simp at hj⟩, fun z hz => by simp at hz⟩
  · simp only [Value.cells, List.cons.injEq, Value.slice.injEq, and_true] at hcs
    obtain ⟨rfl, rfl, rfl⟩ := hcs
    simp only [if_true] at hz
    have hlen : (zs.take len).length = len := by rw [List.length_take]; omega
    refine ⟨zs.take len, ⟨some a, cap, by rw [hlen], by omega, fun i hi => ?_⟩, fun z hzm => bounds_u8 (hwz z (List.mem_of_mem_take hzm))⟩
    rw [hlen] at hi
    obtain ⟨b, off, rfl, hc⟩ := ints_at hcell (by omega)
    have h0 := hc i (by omega)
    have hb : b < W.heap.size := by
      rcases Nat.lt_or_ge b W.heap.size with h' | h'
      · exact h'
      · simp [World.cell?, Array.getElem?_eq_none h'] at h0
    refine ⟨b, off, rfl, hb, ?_⟩
    rw [h0, List.getD_eq_getElem?_getD, List.getD_eq_getElem?_getD, List.getElem?_take_of_lt hi]
end Go.Proofs.YtpeeagkfhdeagaaDoor
/- A slot, a slice of slots that a law is given. -/
set_option linter.unusedVariables false
namespace Go.Proofs.YtpeeagkfhdeagaaDoor
open Go.ChangeShapes Go.WideShapes Go.ChangeAt Go.RowKit Go.Deep

set_option maxRecDepth 100000 in
theorem opens_slot {H : Type} {enc : TypeId × Value → H} {W : World} : Opens enc Tryd.prog W SlotR 85 (fun x => x.1.size ≤ maxLen ∧ x.2.1.size ≤ maxLen ∧ (x.2.2.length ≤ maxLen ∧ ∀ y ∈ x.2.2, (Lit.int .u8 y).wf = true)) :=
  opens_struct Tryd.underlying85 (by kernel_rfl) (opensF_cons (opens_str Tryd.underlying9) rfl (by kernel_rfl) (opensF_cons (opens_str Tryd.underlying9) rfl (by kernel_rfl) (opensF_one (opens_slice (by decide) Tryd.underlying76 (by kernel_rfl) (opens_int Tryd.underlying5)) rfl (by kernel_rfl))))
set_option maxRecDepth 100000 in
theorem wf_u8 {y : Int} (h : (Lit.int .u8 y).wf = true) : 0 ≤ y ∧ y ≤ 255 := by
  have e1 : IntKind.u8.min = 0 := rfl
  have e2 : IntKind.u8.max = 255 := rfl
  simp [Lit.wf] at h
  omega
set_option maxRecDepth 100000 in
theorem open_slot {H : Type} {enc : TypeId × Value → H} {W : World} {base : Nat} {v : Value} {d : DataW H} {p : List MemPlace} (hval : Value.okWide Tryd.prog W .any base 85 v) (h : DataW.Trod enc Tryd.prog W 0 (fun _ => true) true 85 v d p) :
    ∃ (x : SlotD) (u : Value), v = .agg #[.string x.1, .string x.2.1, u] ∧ rd .u8 W.heap.size W u x.2.2 ∧ x.1.size ≤ maxLen ∧ x.2.1.size ≤ maxLen ∧ x.2.2.length ≤ maxLen ∧ isBytes x.2.2 := by
  obtain ⟨cs, rfl, hsz⟩ := okWide_struct Tryd.underlying85 hval
  obtain ⟨fuel, hf⟩ := h
  obtain ⟨x, hr, h1, h2, h3, h4⟩ := opens_slot fuel _ _ hf
  obtain ⟨u, hcs, hu⟩ := slot_rd hr
  refine ⟨x, u, ?_, hu, h1, h2, h3, fun y hy => wf_u8 (h4 y hy)⟩
  have hcs' : cs.toList = [.string x.1, .string x.2.1, u] := hcs
  rw [← hcs']
set_option maxRecDepth 100000 in
theorem open_slots {H : Type} {enc : TypeId × Value → H} {W : World} {base : Nat} {v : Value} {d : DataW H} {p : List MemPlace} (hval : Value.okWide Tryd.prog W .any base 36 v) (h : DataW.Trod enc Tryd.prog W 0 (fun _ => true) true 36 v d p) :
    ∃ l : List SlotD, SlotsR.rd W.heap.size W [v] l ∧ l.length ≤ maxLen ∧ ∀ x ∈ l, x.1.size ≤ maxLen ∧ x.2.1.size ≤ maxLen ∧ x.2.2.length ≤ maxLen ∧ isBytes x.2.2 := by
  obtain ⟨ao, len, cap, rfl⟩ := okWide_slice Tryd.underlying36 hval
  obtain ⟨fuel, hf⟩ := h
  have hL := opens_slice (by decide) Tryd.underlying36 (by kernel_rfl) (opens_slot (enc := enc) (W := W))
  obtain ⟨l, hr, h1, h2⟩ := hL fuel _ _ hf
  exact ⟨l, hr, h1, fun x hx => ⟨(h2 x hx).1, (h2 x hx).2.1, (h2 x hx).2.2.1, fun y hy => wf_u8 ((h2 x hx).2.2.2 y hy)⟩⟩
end Go.Proofs.YtpeeagkfhdeagaaDoor
/- An account that a law is given. -/
set_option linter.unusedVariables false
namespace Go.Proofs.YtpeeagkfhdeagaaDoor
open Go.ChangeShapes Go.WideShapes Go.ChangeAt Go.RowKit Go.Deep

set_option maxRecDepth 100000 in
theorem open_acct {H : Type} {enc : TypeId × Value → H} {W : World} {base : Nat} {v : Value} {d : DataW H} {p : List MemPlace} (hval : Value.okWide Tryd.prog W .any base 38 v) (h : DataW.Trod enc Tryd.prog W 0 (fun _ => true) true 38 v d p) :
    ∃ (a : AcctD) (vh vc vs vl : Value), v = .agg #[.string (aId a), .int .i64 (aLim a), .int .i64 (aPos a), .int .i64 (aMost a), .int .i64 (aSum a), vh, .int .i64 (aR a).1, .int .i64 (aR a).2.1, vc, vs, vl] ∧ AcctR.rd W.heap.size W (aCells a vh vc vs vl) a ∧ acctBig a := by
  obtain ⟨cs, rfl, hsz⟩ := okWide_struct Tryd.underlying38 hval
  obtain ⟨fuel, hf⟩ := h
  have hL := opens_slice (by decide) Tryd.underlying34 (by kernel_rfl) (opens_hold (enc := enc) (W := W))
  have hS := opens_slice (by decide) Tryd.underlying36 (by kernel_rfl) (opens_slot (enc := enc) (W := W))
  have hI0 : Opens enc Tryd.prog W (Rep.int .i64) 3 _ := opens_int Tryd.underlying3
  have hI : Opens enc Tryd.prog W IntsR 23 _ := opens_slice (by decide) Tryd.underlying23 (by kernel_rfl) hI0
  have hR : Opens enc Tryd.prog W RingR 35 _ := opens_struct Tryd.underlying35 (by kernel_rfl) (opensF_cons hI0 rfl (by kernel_rfl) (opensF_cons hI0 rfl (by kernel_rfl) (opensF_cons hI rfl (by kernel_rfl) (opensF_one hI rfl (by kernel_rfl)))))
  have hA : Opens enc Tryd.prog W AcctR 38 _ := opens_struct Tryd.underlying38 (by kernel_rfl) (opensF_cons (opens_str Tryd.underlying9) rfl (by kernel_rfl) (opensF_cons (opens_int Tryd.underlying3) rfl (by kernel_rfl) (opensF_cons (opens_int Tryd.underlying3) rfl (by kernel_rfl) (opensF_cons (opens_int Tryd.underlying3) rfl (by kernel_rfl) (opensF_cons (opens_int Tryd.underlying3) rfl (by kernel_rfl) (opensF_cons hL rfl (by kernel_rfl) (opensF_cons hR rfl (by kernel_rfl) (opensF_one hS rfl (by kernel_rfl)))))))))
  obtain ⟨a, hr, h1, h2, h3, h4, h5, ⟨h6, h7⟩, ⟨h8, h9, ⟨h10, h11⟩, h12, h13⟩, h14, h15⟩ := hA fuel _ _ hf
  obtain ⟨vh, vc, vs, vl, hcs, q1, q2, q3, q4⟩ := acct_rd hr
  refine ⟨a, vh, vc, vs, vl, ?_, ?_, ⟨h1, h6, fun x hx => (h7 x hx).1, h10, h12, h14, fun x hx => ⟨(h15 x hx).1, (h15 x hx).2.1, (h15 x hx).2.2.1⟩⟩⟩
  · have hcs' : cs.toList = aCells a vh vc vs vl := hcs
    have : cs = (aCells a vh vc vs vl).toArray := by rw [← hcs']
    rw [this]; rfl
  · exact acct_rd_of q1 q2 q3 q4
end Go.Proofs.YtpeeagkfhdeagaaDoor
/- The row's last step for a law that answers true and leaves all that stood before as it was, whatever its arguments' types. -/
set_option linter.unusedVariables false
namespace Go.Proofs.YtpeeagkfhdeagaaDoor
open Go.ChangeShapes Go.WideShapes Go.ChangeAt Go.RowKit

section
variable {H : Type} {enc : TypeId × Value → H} {P : Program}
/-- every type can be read -/
def allRowed (P : Program) (ts : List TypeId) : Bool := ts.all fun t => P.readableRec t && decide (t < P.types.size)
set_option maxRecDepth 100000 in
theorem trodAll_below (hl : laidOutB P = true) {W W' : World} (hb : Below W.heap.size W W') :
    ∀ {ts : List TypeId} {vs : List Value} {ds : List (DataW H)} {ps : List MemPlace}, allRowed P ts = true → DataW.TrodAll enc P W 0 (fun _ => true) true ts vs ds ps → (∀ x ∈ ps, x.block < W.heap.size) →
      DataW.TrodAll enc P W' 0 (fun b => decide (b < W.heap.size)) true ts vs ds ps
  | [], vs, ds, ps, _, h, _ => by
    obtain ⟨rfl, rfl, rfl⟩ := trodAll_nil h
    exact trodAll_mk0
  | t :: ts, vs, ds, ps, hr, h, hlt => by
    obtain ⟨v0, vs0, d0, ds0, p0, q0, rfl, rfl, rfl, h0, r0⟩ := trodAll_cons h
    simp only [allRowed, List.all_cons, Bool.and_eq_true, decide_eq_true_eq] at hr
    exact trodAll_cons_mk (Below.trod hl hr.1.1 hr.1.2 h0 hb (fun x hx => hlt x (by simp [hx]))) (trodAll_below hl hb (by simpa [allRowed] using hr.2) r0 (fun x hx => hlt x (by simp [hx])))

set_option maxRecDepth 100000 in
theorem post_true {f : Func} {s : ChangeSpec} {apart fresh handsOn : Bool} {W W' : World} {args : Array Value} {ds gs : List (DataW H)} {before pv : List MemPlace} {tb : TypeId}
    (hl : laidOutB P = true) (hr : allRowed P f.params.toList = true) (hW : DataW.Whole enc P f.params.toList s.vars apart W args.toList ds gs before)
    (hfn : s.fn H (ds ++ gs) = { results := [.lit (.bool true)], args := ds, vars := gs }) (ht : f.resultTypes = #[tb]) (hu : P.underlying tb = some .bool)
    (hb : Below W.heap.size W W') (hvars : DataW.TrodVars enc P W' (fun b => decide (b < W.heap.size)) s.vars gs pv) :
    s.post enc P f apart fresh handsOn false W args (.bool true) W' := by
  have hW' := hW
  obtain ⟨p, q, hA, hV, rfl, _, _⟩ := hW
  have hlt := hW'.lt
  refine ⟨ds, gs, p ++ q, [], p, pv, hW', ?_, ?_, ?_, World.keptBut_mono (fun x hx => ?_) (hb.frame (fun _ => False)), fun h => by cases h⟩
  · rw [hfn, ht]
    exact trodAll_cons_mk (shut_bool hu true) trodAll_mk0
  · rw [hfn]
    exact trodAll_below hl hb hr hA (fun x hx => hlt x (by simp [hx]))
  · rw [hfn]
    exact hvars
  · exact hx.elim
end
end Go.Proofs.YtpeeagkfhdeagaaDoor
/- All parts that the laws of this seat use; no conditions. -/
namespace Go.Proofs.YtpeeagkfhdeagaaDoor
end Go.Proofs.YtpeeagkfhdeagaaDoor
