/- Encode of the reference; no conditions. -/
import Derived.Test.YtkkbhlaakhkjnaaGreatDoorMsgRow
import Derived.Test.YtkkbhlaakhkjnaaGreatDoorMsgS
import Derived.Test.YtkkbhlaakhkjnaaGreatDoorMrg1
import Derived.BigQuiet
import Derived.Deep.QuietTactic
set_option linter.unusedVariables false
namespace Go.Proofs.YtkkbhlaakhkjnaaGreatDoor
open Go.ChangeShapes Go.WideShapes Go.ChangeAt Go.RowKit

set_option maxRecDepth 100000 in
theorem infoInt : (Tryz.prog.info? 3).map (fun i => (i.zero.map (·.cells), i.size, i.bytes)) = some (some #[.int .i64 0], 1, 8) := by kernel_rfl
set_option maxRecDepth 100000 in
theorem fOk_range {no : Int} {s : ByteArray} (h : fOk no s = true) : 2 ≤ no ∧ no ≤ 103 := by
  have hk : fKind no ≠ 0 := fun e => by rw [fOk_no e] at h; cases h
  unfold fKind at hk
  repeat' (split at hk <;> try omega)
def lows (l : List FieldD) : List Int := (l.filter fun x => decide (x.1 ≤ 64)).map (·.1)
def highs (l : List FieldD) : List Int := (l.filter fun x => decide (64 < x.1)).map (·.1 - 64)
set_option maxRecDepth 100000 in
theorem take_snocF {l : List FieldD} {i : Nat} {x : FieldD} (h : l[i]? = some x) : l.take (i + 1) = l.take i ++ [x] := by
  obtain ⟨hi, rfl⟩ := List.getElem?_eq_some_iff.1 h
  rw [List.take_succ_eq_append_getElem hi]
set_option maxRecDepth 100000 in
theorem lows_snoc (l : List FieldD) (x : FieldD) : lows (l ++ [x]) = if x.1 ≤ 64 then lows l ++ [x.1] else lows l := by
  unfold lows
  rw [List.filter_append, List.map_append]
  by_cases h : x.1 ≤ 64 <;> simp [h]
set_option maxRecDepth 100000 in
theorem highs_snoc (l : List FieldD) (x : FieldD) : highs (l ++ [x]) = if 64 < x.1 then highs l ++ [x.1 - 64] else highs l := by
  unfold highs
  rw [List.filter_append, List.map_append]
  by_cases h : 64 < x.1 <;> simp [h]
set_option maxRecDepth 100000 in
theorem lows_len (l : List FieldD) : (lows l).length ≤ l.length := by unfold lows; rw [List.length_map]; exact List.length_filter_le _ _
set_option maxRecDepth 100000 in
theorem highs_len (l : List FieldD) : (highs l).length ≤ l.length := by unfold highs; rw [List.length_map]; exact List.length_filter_le _ _
/-- the bits of a message -/
def bitsL (l : List FieldD) : List Int := if highs l = [] then putB (lows l) else putB (lows l ++ [1]) ++ putB (highs l)
/-- the fields of a message -/
def bodyL (l : List FieldD) : List Int := l.flatMap fun x => putFL x.1 x.2
def encL (m : MsgD) : List Int := if msgOk m = true then bcd m.1 ++ bitsL m.2 ++ bodyL m.2 else []
set_option maxRecDepth 100000 in
theorem bodyL_snoc (l : List FieldD) (x : FieldD) : bodyL (l ++ [x]) = bodyL l ++ putFL x.1 x.2 := by unfold bodyL; rw [List.flatMap_append]; simp
set_option maxRecDepth 100000 in
theorem bodyL_len (l : List FieldD) (h : ∀ x ∈ l, x.2.size ≤ 60) : (bodyL l).length ≤ 1048700 * l.length := by
  induction l with
  | nil => simp [bodyL]
  | cons x l ih =>
    have h1 := ih fun y hy => h y (List.mem_cons_of_mem _ hy)
    have h2 := putFL_len x.1 x.2 (by have := h x (List.mem_cons_self ..); omega)
    unfold bodyL at h1 ⊢
    rw [List.flatMap_cons, List.length_append, List.length_cons]
    omega
set_option maxRecDepth 100000 in
theorem putB_len8 (l : List Int) : (putB l).length = 8 := by unfold putB; rw [fold_len]; simp
set_option maxRecDepth 100000 in
theorem apart_new {v v' : Value} {u : Value} {n : Nat} (h : v'.ownBlock = v.ownBlock ∨ v'.ownBlock = some n) (ha : ∀ g, u.ownBlock = some g → v.ownBlock ≠ some g) (hn : ∀ g, u.ownBlock = some g → g < n) : ∀ g, u.ownBlock = some g → v'.ownBlock ≠ some g := by
  intro g hg e
  rcases h with h | h
  · exact ha g hg (h ▸ e)
  · have hng : n = g := by rw [h] at e; exact Option.some.inj e
    have := hn g hg
    omega
set_option maxRecDepth 100000 in
theorem apart_comm {v u : Value} (h : ∀ g, u.ownBlock = some g → v.ownBlock ≠ some g) : ∀ g, v.ownBlock = some g → u.ownBlock ≠ some g := fun g hg e => h g e hg

set_option maxRecDepth 100000 in
set_option maxHeartbeats 16000000 in
theorem specEncode_any (hi : Nat) (v : Value) (m : MsgD) (w : World) (hm : m.1.size ≤ 1048576) (hn : m.2.length ≤ 1048576) (hs : ∀ x ∈ m.2, x.2.size ≤ 1048576) (h : FieldsR.rd hi w [v] m.2) (hh : hi ≤ w.heap.size) :
    Calls Tryz.prog 10 #[.agg #[.string m.1, v]] w (resF (encL m) (msgOk m) w) := by
  obtain ⟨A, c, rfl, hc, h'⟩ := fields_rd h
  have HR := Lib.hid h'
  have HOK := Lib.hid (fun (W : World) (hW : Below w.heap.size w W) => specMsgOk_any hi (.slice A m.2.length c) m W (by unfold maxLen; omega) hn (fun x hx => by have := hs x hx; unfold maxLen; omega) (Rep.below (R := FieldsR) h hW hh) (Nat.le_trans hh hW.size))
  clear h' hs h
  have HB0 : Hid (∀ o1, Below w.heap.size w (w.alloc o1)) := Lib.hid fun o1 => (Below.refl _ _).alloc (Nat.le_refl _) o1
  cases hok : msgOk m
  · have HM : Hid (encL m = []) := Lib.hid (by simp [encL, hok])
    rw [HM.out]
    rw [hok] at HOK
    clear hok
    go_enter Tryz.func10, Tryz.ntmps10
    go_wp2_with fail
    refine (HOK.out _ (HB0.out _)).mono ?_
    rintro e w1 ⟨rfl, hb⟩
    have HB : Hid (Below w.heap.size w w1) := Lib.hid ((HB0.out _).trans (hb.mono (by simp)))
    clear hb
    go_wp2
    go_ret2
    exact resF_no HB.out
  have HM : Hid (encL m = bcd m.1 ++ bitsL m.2 ++ bodyL m.2) := Lib.hid (by simp [encL, hok])
  have hmt : mtiOk m.1 = true ∧ listOk m.2 = true := by simpa [msgOk] using hok
  have hbo : bcdOk m.1 = true := by have := hmt.1; simp [mtiOk] at this; simp [bcdOk, this]
  have hf : ∀ (j : Nat) (x : FieldD), m.2[j]? = some x → fOk x.1 x.2 = true := fun j x hx => by
    have hj := (List.getElem?_eq_some_iff.1 hx).1
    have := listOk_at hmt.2 j hj
    unfold stepOk at this
    rw [getD_of hx] at this
    simp only [Bool.and_eq_true] at this
    exact this.1
  have h60 : ∀ x ∈ m.2, x.2.size ≤ 60 := fun x hx => by
    obtain ⟨j, hj⟩ := List.mem_iff_getElem?.1 hx
    exact fOk_60 (hf j x hj)
  have HF := Lib.hid hf
  have HBC := Lib.hid (fun W => specPutBcd_any m.1 W (by omega))
  have hbl := bcd_len m.1
  rw [hbo] at HBC
  rw [hok] at HOK
  have H60 := Lib.hid h60
  clear hok hmt hbo hf h60
  go_enter Tryz.func10, Tryz.ntmps10
  go_wp2_with fail
  refine (HOK.out _ (HB0.out _)).mono ?_
  rintro e w1 ⟨rfl, hb⟩
  have hz1 : w.heap.size + 1 ≤ w1.heap.size := by have := hb.size; simpa using this
  have b0 : w1.cell? ⟨w.heap.size, 0, none⟩ = some (.string m.1) := (hb.cell (p := ⟨w.heap.size, 0, none⟩) (by simp)).trans (by simp)
  have b1 : w1.cell? ⟨w.heap.size, 1, none⟩ = some (.slice A m.2.length c) := (hb.cell (p := ⟨w.heap.size, 1, none⟩) (by simp)).trans (by simp)
  have HBX : Hid (∀ wr, Below (w.heap.size + 1) w1 wr → wr.cell? ⟨w.heap.size, 0, none⟩ = some (.string m.1) ∧ wr.cell? ⟨w.heap.size, 1, none⟩ = some (.slice A m.2.length c)) := Lib.hid fun wr hw =>
    ⟨(hw.cell (p := ⟨_, 0, none⟩) (show w.heap.size < _ by omega)).trans b0, (hw.cell (p := ⟨_, 1, none⟩) (show w.heap.size < _ by omega)).trans b1⟩
  have HB : Hid (Below w.heap.size w w1) := Lib.hid ((HB0.out _).trans (hb.mono (by simp)))
  have hlt0 : w.heap.size < w1.heap.size := by omega
  clear hb
  go_wp2
  go_loopw [4, 5, 22] (fun lv hv iv wr => ∃ (i : Nat) (A1 : Option Addr) (c1 : Nat) (A2 : Option Addr) (c2 : Nat) (lo hg : List Int), i ≤ m.2.length ∧ iv = .int .i64 i ∧ lv = .slice A1 lo.length c1 ∧ hv = .slice A2 hg.length c2 ∧ Hid (lo = lows (m.2.take i) ∧ hg = highs (m.2.take i)) ∧ Hid (owE 3 1 iCells (w.heap.size + 1) wr (.slice A1 lo.length c1) lo) ∧ Hid (owE 3 1 iCells (w.heap.size + 1) wr (.slice A2 hg.length c2) hg) ∧ Hid (∀ g, (Value.slice A1 lo.length c1).ownBlock = some g → (Value.slice A2 hg.length c2).ownBlock ≠ some g) ∧ Hid (Below (w.heap.size + 1) w1 wr) ∧ w1.heap.size ≤ wr.heap.size) (fun _ _ iv _ => m.2.length - (intOf iv).toNat)
  case atStart => exact ⟨0, _, 0, _, 0, [], [], Nat.zero_le _, rfl, rfl, rfl, Lib.hid ⟨rfl, rfl⟩, Lib.hid ((owE_empty _ 1 _ iCells w1 (by omega)).alloc _), Lib.hid (by simpa using owE_empty 3 1 (w.heap.size + 1) iCells (w1.alloc (.cells #[] 3)) (by simp; omega)), Lib.hid (fun g hg e => by cases hg; simp [Value.ownBlock] at e), Lib.hid (((Below.refl (w.heap.size + 1) w1).alloc (by omega) (.cells #[] 3)).alloc (by simp; omega) (.cells #[] 3)), by simp; omega⟩
  case round =>
    obtain ⟨i, A1, c1, A2, c2, lo, hg, hi', rfl, rfl, rfl, HL, HO1, HO2, HAP, HBW, hz⟩ := hrel
    have hl1 : lo.length ≤ 1048576 := by rw [HL.out.1]; have := lows_len (m.2.take i); have := List.length_take_le i m.2; omega
    have hl2 : hg.length ≤ 1048576 := by rw [HL.out.2]; have := highs_len (m.2.take i); have := List.length_take_le i m.2; omega
    by_cases hin : i < m.2.length
    · obtain ⟨x, hx⟩ : ∃ x, m.2[i]? = some x := ⟨_, List.getElem?_eq_getElem hin⟩
      obtain ⟨b, off, rfl, hbl', d0, d1⟩ := HR.out i x hx
      have HWW : Hid (Below w.heap.size w wr) := Lib.hid (HB.out.trans (HBW.out.mono (by omega)))
      have d0 := (HWW.out.cell (p := ⟨b, off + i * 2, none⟩) (show b < w.heap.size by omega)).trans d0
      have d1 := (HWW.out.cell (p := ⟨b, off + i * 2 + 1, none⟩) (show b < w.heap.size by omega)).trans d1
      obtain ⟨hr1, hr2⟩ := fOk_range (HF.out i x hx)
      have HX := Lib.hid (take_snocF hx)
      have g1 : (i : Int) < (m.2.length : Int) := by omega
      have g2 : 0 ≤ (i : Int) := by omega
      clear hx
      by_cases h64 : 64 < x.1
      · have hlt' := h64
        go_wp2_with (at_builtin; refine app_elem iCells 1 (fun _ => rfl) (by decide) iCells_one 53 3 #[.int .i64 0] 8 Tryz.underlying53 infoInt rfl _ _ rfl (by rfl) (w.heap.size + 1) _ _ hg (x.1 - 64) _ _ (by rfl) (by rfl) (by rfl) (by simp) (HO2.out.alloc _) (by unfold maxLen; omega) (by omega) (by first | omega | (simp; omega)) ?_)
        intro A3 c3 w3 hown3 hc3 hg3 hlies
        have hz3 : wr.heap.size + 2 ≤ w3.heap.size := by have := hg3.size; simp at this; omega
        have HNO : Hid (owE 3 1 iCells (w.heap.size + 1) w3 (.slice A1 lo.length c1) lo) := Lib.hid (((HO1.out.alloc _).alloc _).grown hg3 (fun g hg' e => HAP.out g hg' e))
        have HAP3 : Hid (∀ g, (Value.slice A1 lo.length c1).ownBlock = some g → (Value.slice A3 (hg.length + 1) c3).ownBlock ≠ some g) := Lib.hid (apart_new hlies HAP.out (fun g hg' => by have := (HO1.out.lt g hg').2; simp; omega))
        have HB3 : Hid (Below (w.heap.size + 1) w1 w3) := Lib.hid (((HBW.out.alloc (by omega) _).alloc (by simp; omega) _).grown hg3 (by simp; omega) (fun g hg' => (HO2.out.lt g hg').1))
        have HO3 := Lib.hid hown3
        clear hown3 hg3 hlies
        go_wp2
        go_roundw
        case rel => exact ⟨i + 1, A1, c1, A3, c3, lo, hg ++ [x.1 - 64], by omega, by go_num, rfl, by rw [List.length_append]; rfl, Lib.hid ⟨by rw [HX.out, lows_snoc, if_neg (by omega)]; exact HL.out.1, by rw [HX.out, highs_snoc, if_pos h64, ← HL.out.2]⟩, HNO, Lib.hid (by rw [List.length_append]; exact HO3.out), Lib.hid (by rw [List.length_append]; exact HAP3.out), HB3, by omega⟩
        case measure => simp [intOf] <;> omega
      · have hle' : x.1 ≤ 64 := by omega
        go_wp2_with (at_builtin; refine app_elem iCells 1 (fun _ => rfl) (by decide) iCells_one 53 3 #[.int .i64 0] 8 Tryz.underlying53 infoInt rfl _ _ rfl (by rfl) (w.heap.size + 1) _ _ lo x.1 _ _ (by rfl) (by rfl) (by rfl) (by simp) (HO1.out.alloc _) (by unfold maxLen; omega) (by omega) (by first | omega | (simp; omega)) ?_)
        intro A3 c3 w3 hown3 hc3 hg3 hlies
        have hz3 : wr.heap.size + 2 ≤ w3.heap.size := by have := hg3.size; simp at this; omega
        have HNO : Hid (owE 3 1 iCells (w.heap.size + 1) w3 (.slice A2 hg.length c2) hg) := Lib.hid (((HO2.out.alloc _).alloc _).grown hg3 (fun g hg' e => HAP.out g e hg'))
        have HAP3 : Hid (∀ g, (Value.slice A3 (lo.length + 1) c3).ownBlock = some g → (Value.slice A2 hg.length c2).ownBlock ≠ some g) := Lib.hid (apart_comm (apart_new hlies (apart_comm HAP.out) (fun g hg' => by have := (HO2.out.lt g hg').2; simp; omega)))
        have HB3 : Hid (Below (w.heap.size + 1) w1 w3) := Lib.hid (((HBW.out.alloc (by omega) _).alloc (by simp; omega) _).grown hg3 (by simp; omega) (fun g hg' => (HO1.out.lt g hg').1))
        have HO3 := Lib.hid hown3
        clear hown3 hg3 hlies
        go_wp2
        go_roundw
        case rel => exact ⟨i + 1, A3, c3, A2, c2, lo ++ [x.1], hg, by omega, by go_num, by rw [List.length_append]; rfl, rfl, Lib.hid ⟨by rw [HX.out, lows_snoc, if_pos (by omega), ← HL.out.1], by rw [HX.out, highs_snoc, if_neg (by omega)]; exact HL.out.2⟩, Lib.hid (by rw [List.length_append]; exact HO3.out), HNO, Lib.hid (by rw [List.length_append]; exact HAP3.out), HB3, by omega⟩
        case measure => simp [intOf] <;> omega
    · obtain rfl : i = m.2.length := by omega
      have HLL : Hid (lo = lows m.2 ∧ hg = highs m.2) := Lib.hid (by have := HL.out; rwa [List.take_length] at this)

      obtain ⟨e0, e1⟩ := HBX.out wr HBW.out
      go_wp2_with fail
      refine (HBC.out _).mono ?_
      rintro e w2 ⟨u, rfl, hu, hb2⟩
      obtain ⟨A4, c4, rfl, hc4⟩ := hu.nums.form
      have hz2 : wr.heap.size ≤ w2.heap.size := hb2.size
      have HU := Lib.hid hu
      have HB2 : Hid (Below (w.heap.size + 1) w1 w2) := Lib.hid (HBW.out.trans (hb2.mono (by omega)))
      have HP1 := Lib.hid (HO1.out.below hb2 (Nat.le_refl _))
      have HP2 := Lib.hid (HO2.out.below hb2 (Nat.le_refl _))
      have HQ1 := Lib.hid HO1.out.lt
      have HQ2 : Hid (∀ g, (Value.slice A2 hg.length c2).ownBlock = some g → g < wr.heap.size) := Lib.hid (fun g hg' => (HO2.out.lt g hg').2)
      clear hu hb2 HO1 HO2
      by_cases hh0 : hg = []
      · have HBits : Hid (bcd m.1 ++ bitsL m.2 = bcd m.1 ++ putB lo) := Lib.hid (by unfold bitsL; rw [← HLL.out.2, if_pos hh0, ← HLL.out.1])
        subst hh0
        go_wp2_with fail
        refine (specPutBits_any w2.heap.size _ lo w2 (by omega) HP1.out.ints.nums.rd (Nat.le_refl _)).mono ?_
        rintro e w3 ⟨v3, rfl, hv3, hb3⟩
        obtain ⟨A8, c8, rfl, hc8⟩ := hv3.form
        have hz3 : w2.heap.size ≤ w3.heap.size := hb3.size
        have HV3 := Lib.hid hv3.rd
        have HU3 := Lib.hid (HU.out.below hb3 (Nat.le_refl _))
        have HB3 : Hid (Below (w.heap.size + 1) w1 w3) := Lib.hid (HB2.out.trans (hb3.mono (by omega)))
        have h8 := putB_len8 lo
        have h8' : (putB lo).length ≤ 8 := by omega
        clear hv3 hb3 h8
        go_wp2_with (at_builtin; refine app_all w3 rfl _ _ 26 rfl (w.heap.size + 1) 5 .u8 1 Tryz.underlying26 infoU8c _ (bcd m.1) rfl (HU3.out.mono (show w.heap.size + 1 ≤ wr.heap.size by omega)) w3.heap.size _ (putB lo) (by rfl) (HV3.out) (by unfold maxLen; omega) (by omega) (by omega) ?_)
        intro v4 w4 hown4 hg4 hb4
        obtain ⟨A9, c9, hv9, hc9⟩ := hown4.nums.form
        subst hv9
        have hz4 : w3.heap.size ≤ w4.heap.size := hg4.size
        have HO4 := Lib.hid hown4
        have HB4 : Hid (Below (w.heap.size + 1) w1 w4) := Lib.hid (HB3.out.trans hb4)
        have hP : (bcd m.1 ++ putB lo).length ≤ 100 := by rw [List.length_append]; omega
        clear hown4 hg4 hb4
        generalize bcd m.1 ++ putB lo = P at HO4 HBits hP
        obtain ⟨e0', e1'⟩ := HBX.out _ HB4.out
        have hPl := hP
        clear e0 e1
        go_wp2
        go_loopw [8, 67] (fun bv iv wr => ∃ (i : Nat) (A5 : Option Addr) (c5 : Nat) (L : List Int), i ≤ m.2.length ∧ iv = .int .i64 i ∧ bv = .slice A5 L.length c5 ∧ Hid (L = P ++ bodyL (m.2.take i)) ∧ L.length ≤ 100 + 1048700 * i ∧ Hid (ow 5 .u8 (w.heap.size + 1) wr (.slice A5 L.length c5) L) ∧ Hid (Below (w.heap.size + 1) w1 wr) ∧ w1.heap.size ≤ wr.heap.size) (fun _ iv _ => m.2.length - (intOf iv).toNat)
        case atStart => exact ⟨0, _, _, P, Nat.zero_le _, rfl, rfl, Lib.hid (by simp [bodyL]), by omega, HO4, HB4, by omega⟩
        case round =>
          obtain ⟨i, A5, c5, L, hi5, rfl, rfl, HL5, hL5, HO5, HB5, hz5⟩ := hrel
          by_cases hin : i < m.2.length
          · obtain ⟨x, hx⟩ : ∃ x, m.2[i]? = some x := ⟨_, List.getElem?_eq_getElem hin⟩
            obtain ⟨b, off, rfl, hbl', d0, d1⟩ := HR.out i x hx
            have HWW : Hid (Below w.heap.size w wr) := Lib.hid (HB.out.trans (HB5.out.mono (by omega)))
            have d0 := (HWW.out.cell (p := ⟨b, off + i * 2, none⟩) (show b < w.heap.size by omega)).trans d0
            have d1 := (HWW.out.cell (p := ⟨b, off + i * 2 + 1, none⟩) (show b < w.heap.size by omega)).trans d1
            have hxs := H60.out x (List.mem_of_getElem? hx)
            have HXF := Lib.hid (HF.out i x hx)
            have HX := Lib.hid (take_snocF hx)
            have g1 : (i : Int) < (m.2.length : Int) := by omega
            have g2 : 0 ≤ (i : Int) := by omega
            have hpl := putFL_len x.1 x.2 (by omega)
            clear hx
            go_wp2_with fail
            refine (specPutField_any x.1 x.2 _ (by omega)).mono ?_
            rw [HXF.out]
            rintro e w6 ⟨u6, rfl, hu6, hb6⟩
            obtain ⟨A6, c6, rfl, hc6⟩ := hu6.form
            have HU6 := Lib.hid hu6.rd
            have hz6 : wr.heap.size + 1 ≤ w6.heap.size := by have := hb6.size; simpa using this
            have HB6 : Hid (Below (w.heap.size + 1) w1 w6) := Lib.hid ((HB5.out.alloc (by omega) _).trans (hb6.mono (by simp; omega)))
            have HO6 : Hid (ow 5 .u8 (w.heap.size + 1) w6 (.slice A5 L.length c5) L) := Lib.hid ((HO5.out.below ((Below.refl _ _).alloc (Nat.le_refl _) _) (Nat.le_refl _)).below hb6 (by simp))
            clear hu6 hb6
            go_wp2_with (at_builtin; refine app_all w6 rfl _ _ 26 rfl (w.heap.size + 1) 5 .u8 1 Tryz.underlying26 infoU8c _ L rfl (HO6.out) w6.heap.size _ (putFL x.1 x.2) (by rfl) (HU6.out) (by unfold maxLen; omega) (by omega) (by omega) ?_)
            intro v7 w7 hown7 hg7 hb7
            obtain ⟨A7, c7, hv7, hc7⟩ := hown7.nums.form
            subst hv7
            have hz7 := hb7.size
            have hz7' : w6.heap.size ≤ w7.heap.size := hg7.size
            have HO7 := Lib.hid hown7
            have HB7 : Hid (Below (w.heap.size + 1) w1 w7) := Lib.hid (HB6.out.trans hb7)
            clear hown7 hg7 hb7
            go_wp2
            go_roundw
            case rel => exact ⟨i + 1, A7, c7, L ++ putFL x.1 x.2, by omega, by go_num, rfl, Lib.hid (by rw [HX.out, bodyL_snoc, HL5.out, List.append_assoc]), by rw [List.length_append]; omega, HO7, HB7, by omega⟩
            case measure => simp [intOf] <;> omega
          · obtain rfl : i = m.2.length := by omega
            have HE : Hid (L = P ++ bodyL m.2) := Lib.hid (by have := HL5.out; rwa [List.take_length] at this)
            go_wp2
            go_ret2
            have hLE : L = encL m := by rw [HE.out, ← HBits.out, ← HM.out]
            refine ⟨.slice A5 L.length c5, rfl, ?_, HB.out.trans (HB5.out.mono (by omega))⟩
            have hq := HO5.out.nums.mono (show w.heap.size ≤ w.heap.size + 1 by omega) (Nat.le_refl _)
            rw [← hLE]
            exact hq
      · have HBits : Hid (bcd m.1 ++ bitsL m.2 = bcd m.1 ++ (putB (lo ++ [1]) ++ putB hg)) := Lib.hid (by unfold bitsL; rw [← HLL.out.2, if_neg hh0, ← HLL.out.1])
        have hpos : 0 < hg.length := List.length_pos_iff.2 hh0
        have hpos' : (0 : Int) < (hg.length : Int) := by omega
        go_wp2_with (at_builtin; refine app_elem iCells 1 (fun _ => rfl) (by decide) iCells_one 53 3 #[.int .i64 0] 8 Tryz.underlying53 infoInt rfl _ _ rfl (by rfl) (w.heap.size + 1) _ _ lo 1 _ _ (by rfl) (by rfl) (by rfl) (by simp) (HP1.out) (by unfold maxLen; omega) (by omega) (by first | omega | (simp; omega)) ?_)
        intro A3 c3 w3 hown3 hc3 hg3 hlies
        have hz3 : w2.heap.size + 1 ≤ w3.heap.size := by have := hg3.size; simpa using this
        have HP2' : Hid (owE 3 1 iCells (w.heap.size + 1) w3 (.slice A2 hg.length c2) hg) := Lib.hid ((HP2.out.alloc _).grown hg3 (fun g hg' e => HAP.out g e hg'))
        have HU3 : Hid (ow 5 .u8 (w.heap.size + 1) w3 (.slice A4 (bcd m.1).length c4) (bcd m.1)) := Lib.hid (((HU.out.below ((Below.refl _ _).alloc (Nat.le_refl _) _) (Nat.le_refl _)).grownRow hg3 (fun g h1 h2 => by have h3 := (HQ1.out g h2).2; have h4 := HU.out.from g h1; omega)).mono (by omega))
        have HB3 : Hid (Below (w.heap.size + 1) w1 w3) := Lib.hid ((HB2.out.alloc (by omega) _).grown hg3 (by simp; omega) (fun g hg' => (HQ1.out g hg').1))
        have HO3 := Lib.hid hown3.ints
        have hl3 : (lo ++ [1]).length = lo.length + 1 := by simp
        clear hown3 hg3 hlies
        rw [← hl3] at HO3 ⊢
        have hll3 : (lo ++ [1]).length ≤ 1048577 := by omega
        clear hl3
        generalize lo ++ [1] = lo3 at HO3 hll3 HBits ⊢
        go_wp2_with fail
        refine (specPutBits_any w3.heap.size _ lo3 w3 (by omega) HO3.out.nums.rd (Nat.le_refl _)).mono ?_
        rintro e w4 ⟨v4, rfl, hv4, hb4⟩
        obtain ⟨A8, c8, rfl, hc8⟩ := hv4.form
        have hz4 : w3.heap.size ≤ w4.heap.size := hb4.size
        have HV4 := Lib.hid hv4.rd
        have HU4 := Lib.hid (HU3.out.below hb4 (Nat.le_refl _))
        have HP4 := Lib.hid (HP2'.out.below hb4 (Nat.le_refl _))
        have HB4 : Hid (Below (w.heap.size + 1) w1 w4) := Lib.hid (HB3.out.trans (hb4.mono (by omega)))
        have HR4 : Hid (∀ g, (Value.slice A4 (bcd m.1).length c4).ownBlock = some g → wr.heap.size ≤ g) := Lib.hid (fun g hg' => HU.out.from g hg')
        have HR5 : Hid (∀ g, (Value.slice A2 hg.length c2).ownBlock = some g → g < wr.heap.size) := Lib.hid HQ2.out
        have h8 := putB_len8 lo3
        have h8' : (putB lo3).length ≤ 8 := by omega
        clear hv4 hb4 h8
        go_wp2_with (at_builtin; refine app_all w4 rfl _ _ 26 rfl (w.heap.size + 1) 5 .u8 1 Tryz.underlying26 infoU8c _ (bcd m.1) rfl (HU4.out) w4.heap.size _ (putB lo3) (by rfl) (HV4.out) (by unfold maxLen; omega) (by omega) (by omega) ?_)
        intro v5 w5 hown5 hg5 hb5
        obtain ⟨A9, c9, hv9, hc9⟩ := hown5.nums.form
        subst hv9
        have hz5 : w4.heap.size ≤ w5.heap.size := hg5.size
        have HO5 := Lib.hid hown5
        have HP5 := Lib.hid ((HP4.out.grown hg5 (fun g h1 h2 => by have := HR4.out g h2; have := HR5.out g h1; omega)).ints.nums.rd)
        have HB5 : Hid (Below (w.heap.size + 1) w1 w5) := Lib.hid (HB4.out.trans hb5)
        have hP : (bcd m.1 ++ putB lo3).length ≤ 50 := by rw [List.length_append]; omega
        have HBits2 : Hid (bcd m.1 ++ bitsL m.2 = bcd m.1 ++ putB lo3 ++ putB hg) := Lib.hid (by rw [HBits.out, List.append_assoc])
        clear hown5 hg5 hb5 HBits
        generalize bcd m.1 ++ putB lo3 = P5 at HO5 HBits2 hP ⊢
        go_wp2_with fail
        refine (specPutBits_any w5.heap.size _ hg w5 (by omega) HP5.out (Nat.le_refl _)).mono ?_
        rintro e w6 ⟨v6, rfl, hv6, hb6⟩
        obtain ⟨A10, c10, rfl, hc10⟩ := hv6.form
        have hz6 : w5.heap.size ≤ w6.heap.size := hb6.size
        have HV6 := Lib.hid hv6.rd
        have HU6 := Lib.hid (HO5.out.below hb6 (Nat.le_refl _))
        have HB6 : Hid (Below (w.heap.size + 1) w1 w6) := Lib.hid (HB5.out.trans (hb6.mono (by omega)))
        have h9 := putB_len8 hg
        have h9' : (putB hg).length ≤ 8 := by omega
        clear hv6 hb6 h9
        go_wp2_with (at_builtin; refine app_all w6 rfl _ _ 26 rfl (w.heap.size + 1) 5 .u8 1 Tryz.underlying26 infoU8c _ P5 rfl (HU6.out) w6.heap.size _ (putB hg) (by rfl) (HV6.out) (by unfold maxLen; omega) (by omega) (by omega) ?_)
        intro v7 w7 hown7 hg7 hb7
        obtain ⟨A11, c11, hv11, hc11⟩ := hown7.nums.form
        subst hv11
        have hz7 : w6.heap.size ≤ w7.heap.size := hg7.size
        have HO7 := Lib.hid hown7
        have HB7 : Hid (Below (w.heap.size + 1) w1 w7) := Lib.hid (HB6.out.trans hb7)
        have hP7 : (P5 ++ putB hg).length ≤ 100 := by rw [List.length_append]; omega
        clear hown7 hg7 hb7
        generalize P5 ++ putB hg = P at HO7 HBits2 hP7 ⊢
        have HBits := HBits2
        obtain ⟨e0', e1'⟩ := HBX.out _ HB7.out
        have hPl := hP7
        clear e0 e1
        go_wp2
        go_loopw [8, 67] (fun bv iv wr => ∃ (i : Nat) (A5 : Option Addr) (c5 : Nat) (L : List Int), i ≤ m.2.length ∧ iv = .int .i64 i ∧ bv = .slice A5 L.length c5 ∧ Hid (L = P ++ bodyL (m.2.take i)) ∧ L.length ≤ 100 + 1048700 * i ∧ Hid (ow 5 .u8 (w.heap.size + 1) wr (.slice A5 L.length c5) L) ∧ Hid (Below (w.heap.size + 1) w1 wr) ∧ w1.heap.size ≤ wr.heap.size) (fun _ iv _ => m.2.length - (intOf iv).toNat)
        case atStart => exact ⟨0, _, _, P, Nat.zero_le _, rfl, rfl, Lib.hid (by simp [bodyL]), by omega, HO7, HB7, by omega⟩
        case round =>
          obtain ⟨i, A5, c5, L, hi5, rfl, rfl, HL5, hL5, HO5, HB5, hz5⟩ := hrel
          by_cases hin : i < m.2.length
          · obtain ⟨x, hx⟩ : ∃ x, m.2[i]? = some x := ⟨_, List.getElem?_eq_getElem hin⟩
            obtain ⟨b, off, rfl, hbl', d0, d1⟩ := HR.out i x hx
            have HWW : Hid (Below w.heap.size w wr) := Lib.hid (HB.out.trans (HB5.out.mono (by omega)))
            have d0 := (HWW.out.cell (p := ⟨b, off + i * 2, none⟩) (show b < w.heap.size by omega)).trans d0
            have d1 := (HWW.out.cell (p := ⟨b, off + i * 2 + 1, none⟩) (show b < w.heap.size by omega)).trans d1
            have hxs := H60.out x (List.mem_of_getElem? hx)
            have HXF := Lib.hid (HF.out i x hx)
            have HX := Lib.hid (take_snocF hx)
            have g1 : (i : Int) < (m.2.length : Int) := by omega
            have g2 : 0 ≤ (i : Int) := by omega
            have hpl := putFL_len x.1 x.2 (by omega)
            clear hx
            go_wp2_with fail
            refine (specPutField_any x.1 x.2 _ (by omega)).mono ?_
            rw [HXF.out]
            rintro e w6 ⟨u6, rfl, hu6, hb6⟩
            obtain ⟨A6, c6, rfl, hc6⟩ := hu6.form
            have HU6 := Lib.hid hu6.rd
            have hz6 : wr.heap.size + 1 ≤ w6.heap.size := by have := hb6.size; simpa using this
            have HB6 : Hid (Below (w.heap.size + 1) w1 w6) := Lib.hid ((HB5.out.alloc (by omega) _).trans (hb6.mono (by simp; omega)))
            have HO6 : Hid (ow 5 .u8 (w.heap.size + 1) w6 (.slice A5 L.length c5) L) := Lib.hid ((HO5.out.below ((Below.refl _ _).alloc (Nat.le_refl _) _) (Nat.le_refl _)).below hb6 (by simp))
            clear hu6 hb6
            go_wp2_with (at_builtin; refine app_all w6 rfl _ _ 26 rfl (w.heap.size + 1) 5 .u8 1 Tryz.underlying26 infoU8c _ L rfl (HO6.out) w6.heap.size _ (putFL x.1 x.2) (by rfl) (HU6.out) (by unfold maxLen; omega) (by omega) (by omega) ?_)
            intro v7 w7 hown7 hg7 hb7
            obtain ⟨A7, c7, hv7, hc7⟩ := hown7.nums.form
            subst hv7
            have hz7 := hb7.size
            have hz7' : w6.heap.size ≤ w7.heap.size := hg7.size
            have HO7 := Lib.hid hown7
            have HB7 : Hid (Below (w.heap.size + 1) w1 w7) := Lib.hid (HB6.out.trans hb7)
            clear hown7 hg7 hb7
            go_wp2
            go_roundw
            case rel => exact ⟨i + 1, A7, c7, L ++ putFL x.1 x.2, by omega, by go_num, rfl, Lib.hid (by rw [HX.out, bodyL_snoc, HL5.out, List.append_assoc]), by rw [List.length_append]; omega, HO7, HB7, by omega⟩
            case measure => simp [intOf] <;> omega
          · obtain rfl : i = m.2.length := by omega
            have HE : Hid (L = P ++ bodyL m.2) := Lib.hid (by have := HL5.out; rwa [List.take_length] at this)
            go_wp2
            go_ret2
            have hLE : L = encL m := by rw [HE.out, ← HBits.out, ← HM.out]
            refine ⟨.slice A5 L.length c5, rfl, ?_, HB.out.trans (HB5.out.mono (by omega))⟩
            have hq := HO5.out.nums.mono (show w.heap.size ≤ w.heap.size + 1 by omega) (Nat.le_refl _)
            rw [← hLE]
            exact hq
end Go.Proofs.YtkkbhlaakhkjnaaGreatDoor
/- MsgOk of the program; no conditions. -/
set_option linter.unusedVariables false
namespace Go.Proofs.YtkkbhlaakhkjnaaGreatDoor
open Go.ChangeShapes Go.WideShapes Go.ChangeAt Go.RowKit

set_option maxRecDepth 100000 in
theorem isMti_any (s : ByteArray) (w : World) (hs : s.size ≤ maxLen) :
    Calls Tryz.prog 58 #[.string s] w fun e w' => e = .returned (.bool (mtiOk s)) ∧ Below w.heap.size w w' := by
  by_cases h4 : s.size = 4
  · have HM : Hid (mtiOk s = digs s) := Lib.hid (by simp [mtiOk, h4])
    rw [HM.out]
    have h4' : ((s.size : Int) == 4) = true := by simp [h4]
    have HD := Lib.hid (fun w' => implDigits_any s w' hs)
    clear h4
    go_enter Tryz.func58, Tryz.ntmps58
    go_wp2_with fail
    refine (HD.out _).mono ?_
    rintro e w1 ⟨rfl, hb⟩
    go_wp2
    go_ret
    exact ⟨rfl, hb⟩
  · have HM : Hid (mtiOk s = false) := Lib.hid (by simp [mtiOk, h4])
    rw [HM.out]
    have h4' : ((s.size : Int) == 4) = false := by simp; omega
    clear h4
    go_enter Tryz.func58, Tryz.ntmps58
    go_wp2
    go_ret
    exact ⟨rfl, Below.refl _ _⟩
/-- what the loop holds of the field before: 0 at the start -/
def prevNo (l : List FieldD) (i : Nat) : Int := if i = 0 then 0 else (l.getD (i - 1) noF).1
set_option maxRecDepth 100000 in
theorem prev_low {l : List FieldD} {i : Nat} {x : FieldD} (hx : l[i]? = some x) (h : x.1 ≤ prevNo l i) : stepOk l i = false := by
  unfold stepOk
  rw [getD_of hx]
  unfold prevNo at h
  by_cases e : i = 0
  · rw [if_pos e] at h
    cases hf : fOk x.1 x.2
    · rfl
    · have := (fOk_range hf).1; omega
  · rw [if_neg e] at h
    have h1 : decide ((l.getD (i - 1) noF).1 < x.1) = false := by rw [decide_eq_false_iff_not]; omega
    rw [h1]; simp [e]
set_option maxRecDepth 100000 in
theorem prev_yes {l : List FieldD} {i : Nat} {x : FieldD} (hx : l[i]? = some x) (h : prevNo l i < x.1) : stepOk l i = fOk x.1 x.2 := by
  unfold stepOk
  rw [getD_of hx]
  unfold prevNo at h
  by_cases e : i = 0
  · simp [e]
  · rw [if_neg e] at h
    have h1 : decide ((l.getD (i - 1) noF).1 < x.1) = true := by rw [decide_eq_true_eq]; exact h
    rw [h1]; simp
set_option maxRecDepth 100000 in
theorem prev_next {l : List FieldD} {i : Nat} {x : FieldD} (hx : l[i]? = some x) : prevNo l (i + 1) = x.1 := by
  unfold prevNo
  rw [if_neg (by omega), Nat.add_sub_cancel, getD_of hx]
set_option maxRecDepth 100000 in
set_option maxHeartbeats 4000000 in
theorem implMsgOk_any (hi : Nat) (v : Value) (m : MsgD) (w : World) (hm : m.1.size ≤ maxLen) (hn : m.2.length ≤ 1048576) (hs : ∀ x ∈ m.2, x.2.size ≤ maxLen) (h : FieldsR.rd hi w [v] m.2) (hh : hi ≤ w.heap.size) :
    Calls Tryz.prog 27 #[.agg #[.string m.1, v]] w fun e w' => e = .returned (.bool (msgOk m)) ∧ Below w.heap.size w w' := by
  obtain ⟨A, c, rfl, hc, h'⟩ := fields_rd h
  have HR := Lib.hid h'
  have HS := Lib.hid hs
  clear h' hs h
  have HD := Lib.hid (fun w' => isMti_any m.1 w' hm)
  have HB0 : Hid (∀ o, Below w.heap.size w (w.alloc o)) := Lib.hid fun o => (Below.refl _ _).alloc (Nat.le_refl _) o
  cases hd : mtiOk m.1
  · have HM : Hid (msgOk m = false) := Lib.hid (by simp [msgOk, hd])
    rw [HM.out]
    have HDD := Lib.hid hd
    clear hd
    go_enter Tryz.func27, Tryz.ntmps27
    go_wp2_with fail
    refine (HD.out _).mono ?_
    rw [HDD.out]
    rintro e w1 ⟨rfl, hb⟩
    have HB := Lib.hid ((HB0.out _).trans (hb.mono (by simp)))
    clear hb
    go_wp2
    go_ret
    exact ⟨rfl, HB.out⟩
  have HM : Hid (msgOk m = listOk m.2) := Lib.hid (by simp [msgOk, hd])
  rw [HM.out]
  have HDD := Lib.hid hd
  clear hd HM
  go_enter Tryz.func27, Tryz.ntmps27
  go_wp2_with fail
  refine (HD.out _).mono ?_
  rw [HDD.out]
  rintro e w1 ⟨rfl, hb⟩
  have HB1 := Lib.hid ((HB0.out _).trans (hb.mono (by simp)))
  have hz1 : w.heap.size + 1 ≤ w1.heap.size := by have := hb.size; simpa using this
  have x1 : w1.cell? ⟨w.heap.size, 1, none⟩ = some (.slice A m.2.length c) := (hb.cell (p := ⟨w.heap.size, 1, none⟩) (by simp)).trans (by simp)
  clear hb
  go_wp2
  go_loopw [3, 13] (fun bv iv wr => ∃ i : Nat, i ≤ m.2.length ∧ iv = .int .i64 i ∧ bv = .int .i64 (prevNo m.2 i) ∧ Hid (∀ j, j < i → stepOk m.2 j = true) ∧ Hid (Below w.heap.size w wr) ∧ w.heap.size ≤ wr.heap.size) (fun _ iv _ => m.2.length - (intOf iv).toNat)
  case atStart => exact ⟨0, Nat.zero_le _, rfl, rfl, Lib.hid (fun j hj => absurd hj (by omega)), HB1, by omega⟩
  case round =>
    obtain ⟨i, hi', rfl, rfl, HG, HB, hz⟩ := hrel
    by_cases hin : i < m.2.length
    · obtain ⟨x, hx⟩ : ∃ x, m.2[i]? = some x := ⟨_, List.getElem?_eq_getElem hin⟩
      obtain ⟨b, off, rfl, hbl, c0, c1⟩ := HR.out i x hx
      have hxs := HS.out x (List.mem_of_getElem? hx)
      have c0 := (HB.out.cell (p := ⟨b, off + i * 2, none⟩) (show b < w.heap.size by omega)).trans c0
      have c1 := (HB.out.cell (p := ⟨b, off + i * 2 + 1, none⟩) (show b < w.heap.size by omega)).trans c1
      have g1 : (i : Int) < (m.2.length : Int) := by omega
      have g2 : 0 ≤ (i : Int) := by omega
      have HN := Lib.hid (prev_next hx)
      have HL := Lib.hid (fun h => prev_low hx h)
      have HY := Lib.hid (fun h => prev_yes hx h)
      have HK := Lib.hid (fun (h : stepOk m.2 i = false) => listOk_no hin h)
      clear hx
      generalize prevNo m.2 i = p at HL HY ⊢
      by_cases hlt : x.1 ≤ p
      · have HF := Lib.hid (HK.out (HL.out hlt))
        have hlt' : decide (x.1 ≤ p) = true := by simpa using hlt
        clear hlt
        go_wp2
        go_ret
        exact ⟨ret_bool HF.out.symm, HB.out.alloc hz _⟩
      · have hlt' : decide (x.1 ≤ p) = false := by simpa using hlt
        have HP := Lib.hid (HY.out (by omega))
        have HQ := Lib.hid (fun w' => implFieldOk_any x.1 x.2 w' hxs)
        have HBX := Lib.hid (HB.out.alloc hz (.cells #[.int .i64 x.1, .string x.2] 55))
        clear hlt
        cases hf : fOk x.1 x.2
        · have HF := Lib.hid (HK.out (by rw [HP.out, hf]))
          rw [hf] at HQ
          clear hf
          go_wp2_with fail
          refine (HQ.out _).mono ?_
          rintro e w2 ⟨rfl, hb2⟩
          have HB2 := Lib.hid (HBX.out.trans (hb2.mono (by simp; omega)))
          clear hb2
          go_wp2
          go_ret
          exact ⟨ret_bool HF.out.symm, HB2.out⟩
        · rw [hf] at HQ
          have HF : Hid (stepOk m.2 i = true) := Lib.hid (by rw [HP.out, hf])
          clear hf
          go_wp2_with fail
          refine (HQ.out _).mono ?_
          rintro e w2 ⟨rfl, hb2⟩
          have HB2 := Lib.hid (HBX.out.trans (hb2.mono (by simp; omega)))
          have hz2 : wr.heap.size + 1 ≤ w2.heap.size := by have := hb2.size; simpa using this
          have q0 : w2.cell? ⟨wr.heap.size, 0, none⟩ = some (.int .i64 x.1) := (hb2.cell (p := ⟨wr.heap.size, 0, none⟩) (by simp)).trans (by simp)
          clear hb2
          go_wp2
          go_roundw
          case rel => exact ⟨i + 1, by omega, by go_num, by rw [HN.out], Lib.hid (fun j hj => by
            by_cases e : j = i
            · rw [e]; exact HF.out
            · exact HG.out j (by omega)), HB2, by omega⟩
          case measure => simp [intOf] <;> omega
    · obtain rfl : i = m.2.length := by omega
      have HF : Hid (listOk m.2 = true) := Lib.hid (listOk_yes HG.out)
      go_wp2
      go_ret
      exact ⟨ret_bool HF.out.symm, HB.out⟩
end Go.Proofs.YtkkbhlaakhkjnaaGreatDoor
/- Encode of the program; no conditions on the message but its size. -/
set_option linter.unusedVariables false
namespace Go.Proofs.YtkkbhlaakhkjnaaGreatDoor
open Go.ChangeShapes Go.WideShapes Go.ChangeAt Go.RowKit

set_option maxRecDepth 100000 in
set_option maxHeartbeats 8000000 in
theorem putBitmaps_any (hi : Nat) (v : Value) (l : List FieldD) (w : World) (hn : l.length ≤ 1048576) (hr : ∀ x ∈ l, 2 ≤ x.1 ∧ x.1 ≤ 103) (h : FieldsR.rd hi w [v] l) (hh : hi ≤ w.heap.size) :
    Calls Tryz.prog 38 #[v] w (resNo (bitsL l) w) := by
  obtain ⟨A, c, rfl, hc, h'⟩ := fields_rd h
  have HR := Lib.hid h'
  have HRG := Lib.hid hr
  clear h' hr h
  go_enter Tryz.func38, Tryz.ntmps38
  go_wp2
  go_loopw [3, 4, 9] (fun lv hv iv wr => ∃ (i : Nat) (A1 : Option Addr) (c1 : Nat) (A2 : Option Addr) (c2 : Nat) (lo hg : List Int), i ≤ l.length ∧ iv = .int .i64 i ∧ lv = .slice A1 lo.length c1 ∧ hv = .slice A2 hg.length c2 ∧ Hid (lo = lows (l.take i) ∧ hg = highs (l.take i)) ∧ Hid (owE 3 1 iCells w.heap.size wr (.slice A1 lo.length c1) lo) ∧ Hid (owE 3 1 iCells w.heap.size wr (.slice A2 hg.length c2) hg) ∧ Hid (∀ g, (Value.slice A1 lo.length c1).ownBlock = some g → (Value.slice A2 hg.length c2).ownBlock ≠ some g) ∧ Hid (Below w.heap.size w wr) ∧ w.heap.size ≤ wr.heap.size) (fun _ _ iv _ => l.length - (intOf iv).toNat)
  case atStart => exact ⟨0, none, 0, none, 0, [], [], Nat.zero_le _, rfl, rfl, rfl, Lib.hid ⟨rfl, rfl⟩, Lib.hid (owE_none _ _ _ _ _), Lib.hid (owE_none _ _ _ _ _), Lib.hid (fun g hg e => by simp [Value.ownBlock] at e), Lib.hid (Below.refl _ _), Nat.le_refl _⟩
  case round =>
    obtain ⟨i, A1, c1, A2, c2, lo, hg, hi', rfl, rfl, rfl, HL, HO1, HO2, HAP, HBW, hz⟩ := hrel
    have hl1 : lo.length ≤ 1048576 := by rw [HL.out.1]; have := lows_len (l.take i); have := List.length_take_le i l; omega
    have hl2 : hg.length ≤ 1048576 := by rw [HL.out.2]; have := highs_len (l.take i); have := List.length_take_le i l; omega
    by_cases hin : i < l.length
    · obtain ⟨x, hx⟩ : ∃ x, l[i]? = some x := ⟨_, List.getElem?_eq_getElem hin⟩
      obtain ⟨b, off, rfl, hbl', d0, d1⟩ := HR.out i x hx
      have d0 := (HBW.out.cell (p := ⟨b, off + i * 2, none⟩) (show b < w.heap.size by omega)).trans d0
      have d1 := (HBW.out.cell (p := ⟨b, off + i * 2 + 1, none⟩) (show b < w.heap.size by omega)).trans d1
      obtain ⟨hr1, hr2⟩ := HRG.out x (List.mem_of_getElem? hx)
      have HX := Lib.hid (take_snocF hx)
      have g1 : (i : Int) < (l.length : Int) := by omega
      have g2 : 0 ≤ (i : Int) := by omega
      clear hx
      by_cases h64 : 64 < x.1
      · have hlt' := h64
        go_wp2_with (at_builtin; refine app_elem iCells 1 (fun _ => rfl) (by decide) iCells_one 53 3 #[.int .i64 0] 8 Tryz.underlying53 infoInt rfl _ _ rfl (by rfl) w.heap.size _ _ hg (x.1 - 64) _ _ (by rfl) (by rfl) (by rfl) (by simp) (HO2.out.alloc _) (by unfold maxLen; omega) (by omega) (by first | omega | (simp; omega)) ?_)
        intro A3 c3 w3 hown3 hc3 hg3 hlies
        have hz3 : wr.heap.size + 2 ≤ w3.heap.size := by have := hg3.size; simp at this; omega
        have HNO : Hid (owE 3 1 iCells w.heap.size w3 (.slice A1 lo.length c1) lo) := Lib.hid (((HO1.out.alloc _).alloc _).grown hg3 (fun g hg' e => HAP.out g hg' e))
        have HAP3 : Hid (∀ g, (Value.slice A1 lo.length c1).ownBlock = some g → (Value.slice A3 (hg.length + 1) c3).ownBlock ≠ some g) := Lib.hid (apart_new hlies HAP.out (fun g hg' => by have := (HO1.out.lt g hg').2; simp; omega))
        have HB3 : Hid (Below w.heap.size w w3) := Lib.hid (((HBW.out.alloc (by omega) _).alloc (by simp; omega) _).grown hg3 (by simp; omega) (fun g hg' => (HO2.out.lt g hg').1))
        have HO3 := Lib.hid hown3
        clear hown3 hg3 hlies
        go_wp2
        go_roundw
        case rel => exact ⟨i + 1, A1, c1, A3, c3, lo, hg ++ [x.1 - 64], by omega, by go_num, rfl, by rw [List.length_append]; rfl, Lib.hid ⟨by rw [HX.out, lows_snoc, if_neg (by omega)]; exact HL.out.1, by rw [HX.out, highs_snoc, if_pos h64, ← HL.out.2]⟩, HNO, Lib.hid (by rw [List.length_append]; exact HO3.out), Lib.hid (by rw [List.length_append]; exact HAP3.out), HB3, by omega⟩
        case measure => simp [intOf] <;> omega
      · have hle' : x.1 ≤ 64 := by omega
        go_wp2_with (at_builtin; refine app_elem iCells 1 (fun _ => rfl) (by decide) iCells_one 53 3 #[.int .i64 0] 8 Tryz.underlying53 infoInt rfl _ _ rfl (by rfl) w.heap.size _ _ lo x.1 _ _ (by rfl) (by rfl) (by rfl) (by simp) (HO1.out.alloc _) (by unfold maxLen; omega) (by omega) (by first | omega | (simp; omega)) ?_)
        intro A3 c3 w3 hown3 hc3 hg3 hlies
        have hz3 : wr.heap.size + 2 ≤ w3.heap.size := by have := hg3.size; simp at this; omega
        have HNO : Hid (owE 3 1 iCells w.heap.size w3 (.slice A2 hg.length c2) hg) := Lib.hid (((HO2.out.alloc _).alloc _).grown hg3 (fun g hg' e => HAP.out g e hg'))
        have HAP3 : Hid (∀ g, (Value.slice A3 (lo.length + 1) c3).ownBlock = some g → (Value.slice A2 hg.length c2).ownBlock ≠ some g) := Lib.hid (apart_comm (apart_new hlies (apart_comm HAP.out) (fun g hg' => by have := (HO2.out.lt g hg').2; simp; omega)))
        have HB3 : Hid (Below w.heap.size w w3) := Lib.hid (((HBW.out.alloc (by omega) _).alloc (by simp; omega) _).grown hg3 (by simp; omega) (fun g hg' => (HO1.out.lt g hg').1))
        have HO3 := Lib.hid hown3
        clear hown3 hg3 hlies
        go_wp2
        go_roundw
        case rel => exact ⟨i + 1, A3, c3, A2, c2, lo ++ [x.1], hg, by omega, by go_num, by rw [List.length_append]; rfl, rfl, Lib.hid ⟨by rw [HX.out, lows_snoc, if_pos (by omega), ← HL.out.1], by rw [HX.out, highs_snoc, if_neg (by omega)]; exact HL.out.2⟩, Lib.hid (by rw [List.length_append]; exact HO3.out), HNO, Lib.hid (by rw [List.length_append]; exact HAP3.out), HB3, by omega⟩
        case measure => simp [intOf] <;> omega
    · obtain rfl : i = l.length := by omega
      have HLL : Hid (lo = lows l ∧ hg = highs l) := Lib.hid (by have := HL.out; rwa [List.take_length] at this)
      have HV2 := Lib.hid HO2.out.ints.nums.rd
      by_cases hh0 : hg = []
      · have HBits : Hid (bitsL l = putB lo) := Lib.hid (by unfold bitsL; rw [← HLL.out.2, if_pos hh0, ← HLL.out.1])
        subst hh0
        go_wp2_with fail
        refine (implPutBits_own wr.heap.size _ lo wr (by omega) HO1.out.ints.nums.rd (Nat.le_refl _)).mono ?_
        rintro e w3 ⟨v3, rfl, hv3, hb3⟩
        obtain ⟨A8, c8, rfl, hc8⟩ := hv3.nums.form
        have HV3 := Lib.hid (hv3.mono hz)
        have HB3 : Hid (Below w.heap.size w w3) := Lib.hid (HBW.out.trans (hb3.mono hz))
        clear hv3 hb3
        go_wp2
        go_ret
        refine ⟨_, rfl, ?_, HB3.out⟩
        rw [HBits.out]
        exact HV3.out
      · have HBits : Hid (bitsL l = putB (lo ++ [1]) ++ putB hg) := Lib.hid (by unfold bitsL; rw [← HLL.out.2, if_neg hh0, ← HLL.out.1])
        have hpos : 0 < hg.length := List.length_pos_iff.2 hh0
        have hne : ((hg.length : Int) == 0) = false := by rw [beq_eq_false_iff_ne]; omega
        go_wp2_with (at_builtin; refine app_elem iCells 1 (fun _ => rfl) (by decide) iCells_one 53 3 #[.int .i64 0] 8 Tryz.underlying53 infoInt rfl _ _ rfl (by rfl) w.heap.size _ _ lo 1 _ _ (by rfl) (by rfl) (by rfl) (by simp) (HO1.out) (by unfold maxLen; omega) (by omega) (by first | omega | (simp; omega)) ?_)
        intro A3 c3 w3 hown3 hc3 hg3 hlies
        have hz3 : wr.heap.size + 1 ≤ w3.heap.size := by have := hg3.size; simpa using this
        have HP2 : Hid (owE 3 1 iCells w.heap.size w3 (.slice A2 hg.length c2) hg) := Lib.hid ((HO2.out.alloc _).grown hg3 (fun g hg' e => HAP.out g e hg'))
        have HB3 : Hid (Below w.heap.size w w3) := Lib.hid ((HBW.out.alloc (by omega) _).grown hg3 (by simp; omega) (fun g hg' => (HO1.out.lt g hg').1))
        have HO3 := Lib.hid hown3.ints
        have hl3 : (lo ++ [1]).length = lo.length + 1 := by simp
        clear hown3 hg3 hlies
        rw [← hl3] at HO3 ⊢
        have hll3 : (lo ++ [1]).length ≤ 1048577 := by omega
        clear hl3
        generalize lo ++ [1] = lo3 at HO3 hll3 HBits ⊢
        go_wp2_with fail
        refine (implPutBits_own w3.heap.size _ lo3 w3 (by omega) HO3.out.nums.rd (Nat.le_refl _)).mono ?_
        rintro e w4 ⟨v4, rfl, hv4, hb4⟩
        obtain ⟨A8, c8, rfl, hc8⟩ := hv4.nums.form
        have hz4 : w3.heap.size ≤ w4.heap.size := hb4.size
        have HV4 := Lib.hid (hv4.mono (show w.heap.size ≤ w3.heap.size by omega))
        have HP4 := Lib.hid (HP2.out.below hb4 (Nat.le_refl _))
        have HB4 : Hid (Below w.heap.size w w4) := Lib.hid (HB3.out.trans (hb4.mono (by omega)))
        have h8 : (putB lo3).length ≤ 8 := by rw [putB_len8]; exact Nat.le_refl _
        clear hv4 hb4
        go_wp2_with fail
        refine (implPutBits_own w4.heap.size _ hg w4 (by omega) HP4.out.ints.nums.rd (Nat.le_refl _)).mono ?_
        rintro e w5 ⟨v5, rfl, hv5, hb5⟩
        obtain ⟨A9, c9, rfl, hc9⟩ := hv5.nums.form
        have hz5 : w4.heap.size ≤ w5.heap.size := hb5.size
        have HV5 := Lib.hid (HV4.out.below hb5 (Nat.le_refl _))
        have HU5 := Lib.hid hv5.nums.rd
        have HB5 : Hid (Below w.heap.size w w5) := Lib.hid (HB4.out.trans (hb5.mono (by omega)))
        have h9 : (putB hg).length ≤ 8 := by rw [putB_len8]; exact Nat.le_refl _
        clear hv5 hb5
        go_wp2_with (at_builtin; refine app_all w5 rfl _ _ 26 rfl w.heap.size 5 .u8 1 Tryz.underlying26 infoU8c _ (putB lo3) rfl (HV5.out) w5.heap.size _ (putB hg) (by rfl) (HU5.out) (by unfold maxLen; omega) (by omega) (by omega) ?_)
        intro v6 w6 hown6 hg6 hb6
        obtain ⟨A10, c10, hv10, hc10⟩ := hown6.nums.form
        subst hv10
        have HO6 := Lib.hid hown6
        have HB6 : Hid (Below w.heap.size w w6) := Lib.hid (HB5.out.trans hb6)
        clear hown6 hg6 hb6
        go_wp2
        go_ret
        refine ⟨_, rfl, ?_, HB6.out⟩
        rw [HBits.out]
        exact HO6.out
set_option maxRecDepth 100000 in
set_option maxHeartbeats 8000000 in
theorem implEncode_any (hi : Nat) (v : Value) (m : MsgD) (w : World) (hm : m.1.size ≤ 1048576) (hn : m.2.length ≤ 1048576) (hs : ∀ x ∈ m.2, x.2.size ≤ 1048576) (h : FieldsR.rd hi w [v] m.2) (hh : hi ≤ w.heap.size) (hg : 2 < w.heap.size) (htab : Lib.TabIs Tryz.prog w "internal/strconv.uint64pow10" .u64 Lib.pow10Tab) :
    Calls Tryz.prog 12 #[.agg #[.string m.1, v]] w (resF (encL m) (msgOk m) w) := by
  obtain ⟨A, c, rfl, hc, h'⟩ := fields_rd h
  have HR := Lib.hid h'
  have HT : Hid (∀ w', Below w.heap.size w w' → Lib.TabIs Tryz.prog w' "internal/strconv.uint64pow10" .u64 Lib.pow10Tab) := Lib.hid fun w' h => var?_below h (by kernel_rfl) hg htab
  have HRR := Lib.hid (fun (W : World) (hW : Below w.heap.size w W) => Rep.below (R := FieldsR) h hW hh)
  have HOK := Lib.hid (fun (W : World) (hW : Below w.heap.size w W) => implMsgOk_any hi (.slice A m.2.length c) m W (by unfold maxLen; omega) hn (fun x hx => by have := hs x hx; unfold maxLen; omega) (Rep.below (R := FieldsR) h hW hh) (Nat.le_trans hh hW.size))
  clear h' hs h htab
  have HB0 : Hid (∀ o1, Below w.heap.size w (w.alloc o1)) := Lib.hid fun o1 => (Below.refl _ _).alloc (Nat.le_refl _) o1
  cases hok : msgOk m
  · have HM : Hid (encL m = []) := Lib.hid (by simp [encL, hok])
    rw [HM.out]
    rw [hok] at HOK
    clear hok
    go_enter Tryz.func12, Tryz.ntmps12
    go_wp2_with fail
    refine (HOK.out _ (HB0.out _)).mono ?_
    rintro e w1 ⟨rfl, hb⟩
    have HB : Hid (Below w.heap.size w w1) := Lib.hid ((HB0.out _).trans (hb.mono (by simp)))
    clear hb
    go_wp2
    go_ret2
    exact resF_no HB.out
  have HM : Hid (encL m = bcd m.1 ++ bitsL m.2 ++ bodyL m.2) := Lib.hid (by simp [encL, hok])
  have hmt : mtiOk m.1 = true ∧ listOk m.2 = true := by simpa [msgOk] using hok
  have hbo : bcdOk m.1 = true := by have := hmt.1; simp [mtiOk] at this; simp [bcdOk, this]
  have hf : ∀ (j : Nat) (x : FieldD), m.2[j]? = some x → fOk x.1 x.2 = true := fun j x hx => by
    have hj := (List.getElem?_eq_some_iff.1 hx).1
    have := listOk_at hmt.2 j hj
    unfold stepOk at this
    rw [getD_of hx] at this
    simp only [Bool.and_eq_true] at this
    exact this.1
  have h60 : ∀ x ∈ m.2, x.2.size ≤ 60 := fun x hx => by
    obtain ⟨j, hj⟩ := List.mem_iff_getElem?.1 hx
    exact fOk_60 (hf j x hj)
  have hrg : ∀ x ∈ m.2, 2 ≤ x.1 ∧ x.1 ≤ 103 := fun x hx => by
    obtain ⟨j, hj⟩ := List.mem_iff_getElem?.1 hx
    exact fOk_range (hf j x hj)
  have HF := Lib.hid hf
  have HRG := Lib.hid hrg
  have HBC := Lib.hid (fun W => implPutBcd_any m.1 W (by omega))
  have hbl := bcd_len m.1
  rw [hbo] at HBC
  rw [hok] at HOK
  have H60 := Lib.hid h60
  clear hok hmt hbo hf h60 hrg
  go_enter Tryz.func12, Tryz.ntmps12
  go_wp2_with fail
  refine (HOK.out _ (HB0.out _)).mono ?_
  rintro e w1 ⟨rfl, hb⟩
  have hz1 : w.heap.size + 1 ≤ w1.heap.size := by have := hb.size; simpa using this
  have b0 : w1.cell? ⟨w.heap.size, 0, none⟩ = some (.string m.1) := (hb.cell (p := ⟨w.heap.size, 0, none⟩) (by simp)).trans (by simp)
  have b1 : w1.cell? ⟨w.heap.size, 1, none⟩ = some (.slice A m.2.length c) := (hb.cell (p := ⟨w.heap.size, 1, none⟩) (by simp)).trans (by simp)
  have HBX : Hid (∀ wr, Below (w.heap.size + 1) w1 wr → wr.cell? ⟨w.heap.size, 0, none⟩ = some (.string m.1) ∧ wr.cell? ⟨w.heap.size, 1, none⟩ = some (.slice A m.2.length c)) := Lib.hid fun wr hw =>
    ⟨(hw.cell (p := ⟨_, 0, none⟩) (show w.heap.size < _ by omega)).trans b0, (hw.cell (p := ⟨_, 1, none⟩) (show w.heap.size < _ by omega)).trans b1⟩
  have HB : Hid (Below w.heap.size w w1) := Lib.hid ((HB0.out _).trans (hb.mono (by simp)))
  have hlt0 : w.heap.size < w1.heap.size := by omega
  clear hb
  go_wp2_with fail
  refine (HBC.out _).mono ?_
  rintro e w2 ⟨u, rfl, hu, hb2⟩
  obtain ⟨A4, c4, rfl, hc4⟩ := hu.nums.form
  have hz2 : w1.heap.size ≤ w2.heap.size := hb2.size
  have HU := Lib.hid (hu.mono (show w.heap.size + 1 ≤ w1.heap.size by omega))
  have HB2 : Hid (Below (w.heap.size + 1) w1 w2) := Lib.hid (hb2.mono (by omega))
  clear hu hb2
  obtain ⟨e0, e1⟩ := HBX.out w2 HB2.out
  clear b0 b1
  go_wp2_with fail
  refine (putBitmaps_any hi _ m.2 w2 hn HRG.out (HRR.out w2 (HB.out.trans (HB2.out.mono (by omega)))) (by omega)).mono ?_
  rintro e w3 ⟨v3, rfl, hv3, hb3⟩
  obtain ⟨A8, c8, rfl, hc8⟩ := hv3.nums.form
  have hz3 : w2.heap.size ≤ w3.heap.size := hb3.size
  have HV3 := Lib.hid hv3.nums.rd
  have HU3 := Lib.hid (HU.out.below hb3 (Nat.le_refl _))
  have HB3 : Hid (Below (w.heap.size + 1) w1 w3) := Lib.hid (HB2.out.trans (hb3.mono (by omega)))
  have h16 : (bitsL m.2).length ≤ 16 := by
    unfold bitsL
    split
    · rw [putB_len8]; omega
    · rw [List.length_append, putB_len8, putB_len8]; omega
  clear hv3 hb3
  go_wp2_with (at_builtin; refine app_all w3 rfl _ _ 26 rfl (w.heap.size + 1) 5 .u8 1 Tryz.underlying26 infoU8c _ (bcd m.1) rfl (HU3.out) w3.heap.size _ (bitsL m.2) (by rfl) (HV3.out) (by unfold maxLen; omega) (by omega) (by omega) ?_)
  intro v4 w4 hown4 hg4 hb4
  obtain ⟨A9, c9, hv9, hc9⟩ := hown4.nums.form
  subst hv9
  have hz4 : w3.heap.size ≤ w4.heap.size := hg4.size
  have HO4 := Lib.hid hown4
  have HB4 : Hid (Below (w.heap.size + 1) w1 w4) := Lib.hid (HB3.out.trans hb4)
  have hP : (bcd m.1 ++ bitsL m.2).length ≤ 100 := by rw [List.length_append]; omega
  have HBits : Hid (bcd m.1 ++ bitsL m.2 = bcd m.1 ++ bitsL m.2) := Lib.hid rfl
  clear hown4 hg4 hb4
  generalize bcd m.1 ++ bitsL m.2 = P at HO4 HBits hP HM
  obtain ⟨e0', e1'⟩ := HBX.out _ HB4.out
  have hPl := hP
  have hgz := hg
  clear e0 e1
  go_wp2
  go_loopw [4, 27] (fun bv iv wr => ∃ (i : Nat) (A5 : Option Addr) (c5 : Nat) (L : List Int), i ≤ m.2.length ∧ iv = .int .i64 i ∧ bv = .slice A5 L.length c5 ∧ Hid (L = P ++ bodyL (m.2.take i)) ∧ L.length ≤ 100 + 1048700 * i ∧ Hid (ow 5 .u8 (w.heap.size + 1) wr (.slice A5 L.length c5) L) ∧ Hid (Below (w.heap.size + 1) w1 wr) ∧ w1.heap.size ≤ wr.heap.size) (fun _ iv _ => m.2.length - (intOf iv).toNat)
  case atStart => exact ⟨0, _, _, P, Nat.zero_le _, rfl, rfl, Lib.hid (by simp [bodyL]), by omega, HO4, HB4, by omega⟩
  case round =>
    obtain ⟨i, A5, c5, L, hi5, rfl, rfl, HL5, hL5, HO5, HB5, hz5⟩ := hrel
    by_cases hin : i < m.2.length
    · obtain ⟨x, hx⟩ : ∃ x, m.2[i]? = some x := ⟨_, List.getElem?_eq_getElem hin⟩
      obtain ⟨b, off, rfl, hbl', d0, d1⟩ := HR.out i x hx
      have HWW : Hid (Below w.heap.size w wr) := Lib.hid (HB.out.trans (HB5.out.mono (by omega)))
      have d0 := (HWW.out.cell (p := ⟨b, off + i * 2, none⟩) (show b < w.heap.size by omega)).trans d0
      have d1 := (HWW.out.cell (p := ⟨b, off + i * 2 + 1, none⟩) (show b < w.heap.size by omega)).trans d1
      have hxs := H60.out x (List.mem_of_getElem? hx)
      have HXF := Lib.hid (HF.out i x hx)
      have HX := Lib.hid (take_snocF hx)
      have g1 : (i : Int) < (m.2.length : Int) := by omega
      have g2 : 0 ≤ (i : Int) := by omega
      have hpl := putFL_len x.1 x.2 (by omega)
      have HTX := Lib.hid (HT.out _ (HWW.out.alloc (by omega) (.cells #[.int .i64 x.1, .string x.2] 55)))
      clear hx
      go_wp2_with fail
      refine (implPutField_any x.1 x.2 _ (by omega) (by simp; omega) HTX.out).mono ?_
      rw [HXF.out]
      rintro e w6 ⟨u6, rfl, hu6, hb6⟩
      obtain ⟨A6, c6, rfl, hc6⟩ := hu6.form
      have HU6 := Lib.hid hu6.rd
      have hz6 : wr.heap.size + 1 ≤ w6.heap.size := by have := hb6.size; simpa using this
      have HB6 : Hid (Below (w.heap.size + 1) w1 w6) := Lib.hid ((HB5.out.alloc (by omega) _).trans (hb6.mono (by simp; omega)))
      have HO6 : Hid (ow 5 .u8 (w.heap.size + 1) w6 (.slice A5 L.length c5) L) := Lib.hid ((HO5.out.below ((Below.refl _ _).alloc (Nat.le_refl _) _) (Nat.le_refl _)).below hb6 (by simp))
      clear hu6 hb6 HTX
      go_wp2_with (at_builtin; refine app_all w6 rfl _ _ 26 rfl (w.heap.size + 1) 5 .u8 1 Tryz.underlying26 infoU8c _ L rfl (HO6.out) w6.heap.size _ (putFL x.1 x.2) (by rfl) (HU6.out) (by unfold maxLen; omega) (by omega) (by omega) ?_)
      intro v7 w7 hown7 hg7 hb7
      obtain ⟨A7, c7, hv7, hc7⟩ := hown7.nums.form
      subst hv7
      have hz7 := hb7.size
      have hz7' : w6.heap.size ≤ w7.heap.size := hg7.size
      have HO7 := Lib.hid hown7
      have HB7 : Hid (Below (w.heap.size + 1) w1 w7) := Lib.hid (HB6.out.trans hb7)
      clear hown7 hg7 hb7
      go_wp2
      go_roundw
      case rel => exact ⟨i + 1, A7, c7, L ++ putFL x.1 x.2, by omega, by go_num, rfl, Lib.hid (by rw [HX.out, bodyL_snoc, HL5.out, List.append_assoc]), by rw [List.length_append]; omega, HO7, HB7, by omega⟩
      case measure => simp [intOf] <;> omega
    · obtain rfl : i = m.2.length := by omega
      have HE : Hid (L = P ++ bodyL m.2) := Lib.hid (by have := HL5.out; rwa [List.take_length] at this)
      go_wp2
      go_ret2
      have hLE : L = encL m := by rw [HE.out, ← HM.out]
      refine ⟨.slice A5 L.length c5, rfl, ?_, HB.out.trans (HB5.out.mono (by omega))⟩
      have hq := HO5.out.nums.mono (show w.heap.size ≤ w.heap.size + 1 by omega) (Nat.le_refl _)
      rw [← hLE]
      exact hq
set_option maxRecDepth 100000 in
theorem encL_len (m : MsgD) : (encL m).length ≤ 100 + 1048700 * m.2.length := by
  unfold encL
  split
  · next h =>
    unfold msgOk at h
    rw [Bool.and_eq_true] at h
    have h60 : ∀ x ∈ m.2, x.2.size ≤ 60 := fun x hx => by
      obtain ⟨j, hj⟩ := List.mem_iff_getElem?.1 hx
      have hj' := (List.getElem?_eq_some_iff.1 hj).1
      have := listOk_at h.2 j hj'
      unfold stepOk at this
      rw [getD_of hj] at this
      simp only [Bool.and_eq_true] at this
      exact fOk_60 this.1
    have h1 := bodyL_len m.2 h60
    have h2 := bcd_len m.1
    have h3 : (bitsL m.2).length ≤ 16 := by
      unfold bitsL
      split
      · rw [putB_len8]; omega
      · rw [List.length_append, putB_len8, putB_len8]; omega
    rw [List.length_append, List.length_append]
    omega
  · simp
end Go.Proofs.YtkkbhlaakhkjnaaGreatDoor
/- FieldOf, WithoutField and MsgSame of the reference; no conditions. -/
set_option linter.unusedVariables false
namespace Go.Proofs.YtkkbhlaakhkjnaaGreatDoor
open Go.ChangeShapes Go.WideShapes Go.ChangeAt Go.RowKit

def fldHas (l : List FieldD) (no : Int) : Bool := l.any fun x => decide (x.1 = no)
def fldTxt (l : List FieldD) (no : Int) : ByteArray := ((l.find? fun x => decide (x.1 = no)).map (·.2)).getD ⟨#[]⟩
set_option maxRecDepth 100000 in
theorem find_at {l : List FieldD} {no : Int} {i : Nat} {x : FieldD} (hN : ∀ j y, j < i → l[j]? = some y → y.1 ≠ no) (hx : l[i]? = some x) (he : x.1 = no) : fldHas l no = true ∧ fldTxt l no = x.2 := by
  obtain ⟨hi, rfl⟩ := List.getElem?_eq_some_iff.1 hx
  have h1 : l.find? (fun x => decide (x.1 = no)) = some l[i] := by
    rw [List.find?_eq_some_iff_getElem]
    refine ⟨by simpa using he, i, hi, rfl, fun j hj => ?_⟩
    have := hN j _ hj (List.getElem?_eq_getElem (by omega))
    simpa using this
  constructor
  · unfold fldHas; rw [List.any_eq_true]; exact ⟨_, List.getElem_mem hi, by simpa using he⟩
  · unfold fldTxt; rw [h1]; rfl
set_option maxRecDepth 100000 in
theorem find_none {l : List FieldD} {no : Int} (hN : ∀ j y, j < l.length → l[j]? = some y → y.1 ≠ no) : fldHas l no = false ∧ fldTxt l no = ⟨#[]⟩ := by
  have hall : ∀ x ∈ l, ¬ x.1 = no := fun x hx => by
    obtain ⟨j, hj⟩ := List.mem_iff_getElem?.1 hx
    exact hN j x (List.getElem?_eq_some_iff.1 hj).1 hj
  constructor
  · unfold fldHas; rw [List.any_eq_false]; intro x hx; simpa using hall x hx
  · unfold fldTxt
    rw [List.find?_eq_none.2 (fun x hx => by simpa using hall x hx)]
    rfl
def withoutL (l : List FieldD) (no : Int) : List FieldD := l.filter fun x => decide (x.1 ≠ no)
set_option maxRecDepth 100000 in
theorem without_snoc (l : List FieldD) (x : FieldD) (no : Int) : withoutL (l ++ [x]) no = if x.1 = no then withoutL l no else withoutL l no ++ [x] := by
  unfold withoutL
  rw [List.filter_append]
  by_cases h : x.1 = no <;> simp [h]
set_option maxRecDepth 100000 in
theorem take_next {α : Type} {l : List α} {i : Nat} {x : α} (h : l[i]? = some x) : l.take (i + 1) = l.take i ++ [x] := by
  obtain ⟨hi, rfl⟩ := List.getElem?_eq_some_iff.1 h
  rw [List.take_succ_eq_append_getElem hi]
/-- a message alone -/
def msgOnly (r : MsgD) (w : World) (e : Ending) (w' : World) : Prop := ∃ u, e = .returned (.agg #[.string r.1, u]) ∧ FieldsR.mine w.heap.size w'.heap.size w' [u] r.2 ∧ Below w.heap.size w w'
set_option maxRecDepth 100000 in
theorem str_ne {a b : ByteArray} (h : a ≠ b) : (a.toList == b.toList) = false := by
  rw [beq_eq_false_iff_ne, ByteArray.toList_eq, ByteArray.toList_eq]
  intro e
  exact h (ByteArray.ext (Array.toList_inj.1 e))
set_option maxRecDepth 100000 in
theorem same_no {a b : MsgD} {i : Nat} {x y : FieldD} (hx : a.2[i]? = some x) (hy : b.2[i]? = some y) (h : x ≠ y) : decide (a = b) = false := by
  rw [decide_eq_false_iff_not]
  rintro rfl
  exact h (Option.some.inj (hx.symm.trans hy))
set_option maxRecDepth 100000 in
theorem same_yes {a b : MsgD} (h1 : a.1 = b.1) (hl : a.2.length = b.2.length) (h : ∀ j x, j < a.2.length → a.2[j]? = some x → b.2[j]? = some x) : decide (a = b) = true := by
  rw [decide_eq_true_eq]
  refine Prod.ext h1 (List.ext_getElem hl fun j hj1 hj2 => ?_)
  have := h j _ hj1 (List.getElem?_eq_getElem hj1)
  rw [List.getElem?_eq_getElem hj2] at this
  exact (Option.some.inj this).symm
end Go.Proofs.YtkkbhlaakhkjnaaGreatDoor
/- WithField of the reference; no conditions. -/
set_option linter.unusedVariables false
namespace Go.Proofs.YtkkbhlaakhkjnaaGreatDoor
open Go.ChangeShapes Go.WideShapes Go.ChangeAt Go.RowKit

def wstep (no : Int) (s : ByteArray) (st : List FieldD × Bool) (x : FieldD) : List FieldD × Bool :=
  let st1 := if !st.2 && decide (no ≤ x.1) then (st.1 ++ [(no, s)], true) else st
  if x.1 = no then st1 else (st1.1 ++ [x], st1.2)
def wst (no : Int) (s : ByteArray) (l : List FieldD) (i : Nat) : List FieldD × Bool := (l.take i).foldl (wstep no s) ([], false)
set_option maxRecDepth 100000 in
theorem wst_zero (no : Int) (s : ByteArray) (l : List FieldD) : wst no s l 0 = ([], false) := rfl
set_option maxRecDepth 100000 in
theorem wst_next (no : Int) (s : ByteArray) (l : List FieldD) (i : Nat) (x : FieldD) (h : l[i]? = some x) : wst no s l (i + 1) = wstep no s (wst no s l i) x := by
  obtain ⟨hi, rfl⟩ := List.getElem?_eq_some_iff.1 h
  unfold wst
  rw [List.take_succ_eq_append_getElem hi, List.foldl_append]
  rfl
set_option maxRecDepth 100000 in
theorem wst_len (no : Int) (s : ByteArray) (l : List FieldD) (i : Nat) : (wst no s l i).1.length ≤ 2 * i := by
  induction i with
  | zero => simp [wst]
  | succ i ih =>
    by_cases hi : i < l.length
    · rw [wst_next no s l i l[i] (List.getElem?_eq_getElem hi)]
      unfold wstep
      split <;> split <;> simp <;> omega
    · have : wst no s l (i + 1) = wst no s l i := by
        unfold wst; rw [List.take_of_length_le (by omega), List.take_of_length_le (by omega)]
      rw [this]; omega
def withF (no : Int) (s : ByteArray) (l : List FieldD) : List FieldD := if (wst no s l l.length).2 = true then (wst no s l l.length).1 else (wst no s l l.length).1 ++ [(no, s)]
def withOk (m : MsgD) (no : Int) (s : ByteArray) : Bool := msgOk m && fOk no s
def withMsg (m : MsgD) (no : Int) (s : ByteArray) : MsgD := if withOk m no s = true then (m.1, withF no s m.2) else (⟨#[]⟩, [])

set_option maxRecDepth 100000 in
set_option maxHeartbeats 8000000 in
theorem specWithField_any (hi : Nat) (v : Value) (m : MsgD) (no : Int) (s : ByteArray) (w : World) (hm : m.1.size ≤ maxLen) (hn : m.2.length ≤ 1048576) (hs : ∀ x ∈ m.2, x.2.size ≤ maxLen) (hss : s.size ≤ maxLen) (h : FieldsR.rd hi w [v] m.2) (hh : hi ≤ w.heap.size) :
    Calls Tryz.prog 22 #[.agg #[.string m.1, v], .int .i64 no, .string s] w (msgRes (withOk m no s) (withMsg m no s) w) := by
  obtain ⟨A, c, rfl, hc, h'⟩ := fields_rd h
  have HR := Lib.hid h'
  have HOK := Lib.hid (fun (W : World) (hW : Below w.heap.size w W) => specMsgOk_any hi (.slice A m.2.length c) m W hm hn hs (Rep.below (R := FieldsR) h hW hh) (Nat.le_trans hh hW.size))
  have HFO := Lib.hid (fun (W : World) => specFieldOk_any no s W hss)
  clear h' hs h
  have HB0 : Hid (∀ o1 o2, Below w.heap.size w ((w.alloc o1).alloc o2)) := Lib.hid fun o1 o2 => ((Below.refl _ _).alloc (Nat.le_refl _) o1).alloc (by simp) o2
  cases hok : msgOk m
  · have HM : Hid (withOk m no s = false ∧ withMsg m no s = (⟨#[]⟩, [])) := Lib.hid (by simp [withOk, withMsg, hok])
    rw [HM.out.1, HM.out.2]
    rw [hok] at HOK
    clear hok
    go_enter Tryz.func22, Tryz.ntmps22
    go_wp2_with fail
    refine (HOK.out _ (HB0.out _ _)).mono ?_
    rintro e w1 ⟨rfl, hb⟩
    obtain ⟨hcc, hff⟩ := bcell hb
    have hz : w.heap.size + 1 + 1 ≤ w1.heap.size := by have := hb.size; simpa using this
    have HB : Hid (Below w.heap.size w w1) := Lib.hid ((HB0.out _ _).trans (hb.mono (by simp; omega)))
    clear hb
    go_wp2
    refine bodyPost_ret (v := .tuple #[.agg #[.string ⟨#[]⟩, .slice none 0 0], .bool false]) (by simp [results, Tryz.results22, go_sem, hcc]) rfl ⟨_, rfl, mine_none _ _ _, ?_⟩
    exact (HB.out.setCell (p := ⟨_, _, none⟩) (show _ ≤ w.heap.size + 1 by omega) _).setCell (p := ⟨_, _, none⟩) (show _ ≤ w.heap.size + 1 by omega) _
  cases hfo : fOk no s
  · have HM : Hid (withOk m no s = false ∧ withMsg m no s = (⟨#[]⟩, [])) := Lib.hid (by simp [withOk, withMsg, hfo])
    rw [HM.out.1, HM.out.2]
    rw [hok] at HOK
    rw [hfo] at HFO
    clear hok hfo
    go_enter Tryz.func22, Tryz.ntmps22
    go_wp2_with fail
    refine (HOK.out _ (HB0.out _ _)).mono ?_
    rintro e w1 ⟨rfl, hb⟩
    obtain ⟨hcc, hff⟩ := bcell hb
    have hz : w.heap.size + 1 + 1 ≤ w1.heap.size := by have := hb.size; simpa using this
    have HB : Hid (Below w.heap.size w w1) := Lib.hid ((HB0.out _ _).trans (hb.mono (by simp; omega)))
    clear hb
    go_wp2_with fail
    refine (HFO.out _).mono ?_
    rintro e w2 ⟨rfl, rfl⟩
    go_wp2
    refine bodyPost_ret (v := .tuple #[.agg #[.string ⟨#[]⟩, .slice none 0 0], .bool false]) (by simp [results, Tryz.results22, go_sem, hcc]) rfl ⟨_, rfl, mine_none _ _ _, ?_⟩
    exact (HB.out.setCell (p := ⟨_, _, none⟩) (show _ ≤ w.heap.size + 1 by omega) _).setCell (p := ⟨_, _, none⟩) (show _ ≤ w.heap.size + 1 by omega) _
  have HM : Hid (withOk m no s = true ∧ withMsg m no s = (m.1, withF no s m.2)) := Lib.hid (by simp [withOk, withMsg, hok, hfo])
  rw [HM.out.1, HM.out.2]
  rw [hok] at HOK
  rw [hfo] at HFO
  clear hok hfo
  go_enter Tryz.func22, Tryz.ntmps22
  go_wp2_with fail
  refine (HOK.out _ (HB0.out _ _)).mono ?_
  rintro e w1 ⟨rfl, hb⟩
  obtain ⟨hcc, hff⟩ := bcell hb
  have hz : w.heap.size + 1 + 1 ≤ w1.heap.size := by have := hb.size; simpa using this
  have HB : Hid (Below w.heap.size w w1) := Lib.hid ((HB0.out _ _).trans (hb.mono (by simp; omega)))
  have r0 : w1.cell? ⟨w.heap.size + 1, 0, none⟩ = some (.string ⟨#[]⟩) := (hcc (w.heap.size + 1) 0 (by simp)).trans (by simp)
  have r1 : w1.cell? ⟨w.heap.size + 1, 1, none⟩ = some (.slice none 0 0) := (hcc (w.heap.size + 1) 1 (by simp)).trans (by simp)
  have f0 : w1.frozen? ⟨w.heap.size + 1, 0, none⟩ = false := (hff (w.heap.size + 1) 0 (by simp)).trans (by simp)
  have f1 : w1.frozen? ⟨w.heap.size + 1, 1, none⟩ = false := (hff (w.heap.size + 1) 1 (by simp)).trans (by simp)
  have HX : Hid (∀ wr, Below w1.heap.size w1 wr → wr.cell? ⟨w.heap.size + 1, 0, none⟩ = some (.string ⟨#[]⟩) ∧ wr.cell? ⟨w.heap.size + 1, 1, none⟩ = some (.slice none 0 0) ∧ wr.frozen? ⟨w.heap.size + 1, 0, none⟩ = false ∧ wr.frozen? ⟨w.heap.size + 1, 1, none⟩ = false) := Lib.hid fun wr hw =>
    ⟨(hw.cell (p := ⟨_, 0, none⟩) (show w.heap.size + 1 < _ by omega)).trans r0, (hw.cell (p := ⟨_, 1, none⟩) (show w.heap.size + 1 < _ by omega)).trans r1, (hw.frozen (p := ⟨_, 0, none⟩) (show w.heap.size + 1 < _ by omega)).trans f0, (hw.frozen (p := ⟨_, 1, none⟩) (show w.heap.size + 1 < _ by omega)).trans f1⟩
  clear r0 r1 f0 f1
  have b0 : w1.cell? ⟨w.heap.size, 0, none⟩ = some (.string m.1) := (hcc w.heap.size 0 (by simp; omega)).trans (by simp)
  have b1 : w1.cell? ⟨w.heap.size, 1, none⟩ = some (.slice A m.2.length c) := (hcc w.heap.size 1 (by simp; omega)).trans (by simp)
  have hlt0 : w.heap.size < w1.heap.size := by omega
  clear hcc hff hb
  go_wp2_with fail
  refine (HFO.out _).mono ?_
  rintro e w2 ⟨rfl, rfl⟩
  go_wp2
  go_loopw [9, 28] (fun dv iv wr => ∃ (i : Nat) (A : Option Addr) (c : Nat) (L : List FieldD) (d : Bool), i ≤ m.2.length ∧ iv = .int .i64 i ∧ dv = .bool d ∧ Hid (wst no s m.2 i = (L, d)) ∧ L.length ≤ c ∧ Hid (growMsg w1.heap.size m.1 w1 wr (.slice A L.length c) L) ∧ w1.heap.size < wr.heap.size) (fun _ iv _ => m.2.length - (intOf iv).toNat)
  case atStart => exact ⟨0, none, 0, [], false, Nat.zero_le _, rfl, rfl, Lib.hid rfl, Nat.zero_le _, Lib.hid (growMsg.start _ _), by simp⟩
  case round =>
    obtain ⟨i, A', c', L, d, hi', rfl, rfl, HW, hLc, HG, hz'⟩ := hrel
    have hll : L.length ≤ 2 * i := by have := wst_len no s m.2 i; rw [HW.out] at this; exact this
    by_cases hin : i < m.2.length
    · obtain ⟨x, hx⟩ : ∃ x, m.2[i]? = some x := ⟨_, List.getElem?_eq_getElem hin⟩
      obtain ⟨b, off, rfl, hbl, c0, c1⟩ := HR.out i x hx
      have HN := Lib.hid (wst_next no s m.2 i x hx)
      have HB1 : Hid (Below w.heap.size w wr) := Lib.hid (HB.out.trans (HG.out.below.mono (by omega)))
      have c0 := (HB1.out.cell (p := ⟨b, off + i * 2, none⟩) (show b < w.heap.size by omega)).trans c0
      have c1 := (HB1.out.cell (p := ⟨b, off + i * 2 + 1, none⟩) (show b < w.heap.size by omega)).trans c1
      have g1 : (i : Int) < (m.2.length : Int) := by omega
      have g2 : 0 ≤ (i : Int) := by omega
      have hcell := HG.out.cell1
      have hfree := HG.out.free 1
      have HF := Lib.hid (HG.out.alloc (.cells #[.int .i64 x.1, .string x.2] 55))
      have hfb : w1.heap.size ≠ wr.heap.size := by omega
      have HNB : Hid ((Value.slice A' L.length c').ownBlock ≠ some wr.heap.size) := Lib.hid (fun e => by have := (HG.out.own.lt _ e).2; omega)
      clear hx
      cases d
      · by_cases hge : no ≤ x.1
        · by_cases heq : x.1 = no
          · have HS : Hid (wst no s m.2 (i + 1) = (L ++ [(no, s)], true)) := Lib.hid (by rw [HN.out, HW.out]; unfold wstep; simp [heq])
            subst heq
            have hge' : decide (x.1 ≥ x.1) = true := by simp
            go_wp2_with (at_builtin; refine app_elem fCells 2 (fun _ => rfl) (by decide) fCells_one 29 55 #[.int .i64 0, .string ⟨#[]⟩] 24 Tryz.underlying29 infoField rfl _ _ rfl (by rfl) (w1.heap.size + 1) _ _ L (x.1, s) _ _ (by rfl) (by rfl) (by rfl) (by simp) HF.out.own (by unfold maxLen; skip; omega) (by skip; omega) (by first | omega | (simp; omega)) ?_)
            intro A2 c2 w2 hown2 hc2 hg2 _
            obtain ⟨q2, k2⟩ := HF.out.app_cell hg2
            have HG2 := Lib.hid (HF.out.app hg2 hown2)
            have hs2 : wr.heap.size + 2 ≤ w2.heap.size := by have := hg2.size; simp at this; omega
            have fb : w2.heap[wr.heap.size]? = some (.cells #[.int .i64 x.1, .string x.2] 55 (0, 0)) := (hg2.block wr.heap.size (by simp; omega) (fun e => HNB.out e.symm)).trans ((Below.heap_alloc _ _ _ (by simp)).trans (heap_alloc_new _ _))
            have fc0 := cell_of_row _ _ 0 _ _ (0, 0) fb
            have fc1 := cell_of_row _ _ 1 _ _ (0, 0) fb
            simp only [List.getElem?_toArray, List.getElem?_cons_zero, List.getElem?_cons_succ] at fc0 fc1
            clear fb hown2 hg2
            go_wp2
            go_roundw
            case rel => exact ⟨i + 1, A2, c2, L ++ [(x.1, s)], true, by omega, by go_num, rfl, HS, by simp <;> omega, Lib.hid (by simpa using HG2.out), by simp [World.setCell]; omega⟩
            case measure => simp [intOf] <;> omega
          · have HS : Hid (wst no s m.2 (i + 1) = (L ++ [(no, s)] ++ [x], true)) := Lib.hid (by rw [HN.out, HW.out]; unfold wstep; simp [heq, hge])
            have hne' : (x.1 != no) = true := by simpa using heq
            go_wp2_with (at_builtin; refine app_elem fCells 2 (fun _ => rfl) (by decide) fCells_one 29 55 #[.int .i64 0, .string ⟨#[]⟩] 24 Tryz.underlying29 infoField rfl _ _ rfl (by rfl) (w1.heap.size + 1) _ _ L (no, s) _ _ (by rfl) (by rfl) (by rfl) (by simp) HF.out.own (by unfold maxLen; skip; omega) (by skip; omega) (by first | omega | (simp; omega)) ?_)
            intro A2 c2 w2 hown2 hc2 hg2 _
            obtain ⟨q2, k2⟩ := HF.out.app_cell hg2
            have HG2 := Lib.hid (HF.out.app hg2 hown2)
            have hs2 : wr.heap.size + 2 ≤ w2.heap.size := by have := hg2.size; simp at this; omega
            have fb : w2.heap[wr.heap.size]? = some (.cells #[.int .i64 x.1, .string x.2] 55 (0, 0)) := (hg2.block wr.heap.size (by simp; omega) (fun e => HNB.out e.symm)).trans ((Below.heap_alloc _ _ _ (by simp)).trans (heap_alloc_new _ _))
            have fc0 := cell_of_row _ _ 0 _ _ (0, 0) fb
            have fc1 := cell_of_row _ _ 1 _ _ (0, 0) fb
            simp only [List.getElem?_toArray, List.getElem?_cons_zero, List.getElem?_cons_succ] at fc0 fc1
            have hl2 : (L ++ [(no, s)]).length = L.length + 1 := by simp
            generalize L ++ [(no, s)] = L2 at HG2 HS hl2
            clear fb hown2 hg2
            rw [← hl2] at HG2 ⊢
            have hll2 : L2.length ≤ 2 * i + 1 := by omega
            clear hl2 hll
            go_wp2_with (at_builtin; refine app_elem fCells 2 (fun _ => rfl) (by decide) fCells_one 29 55 #[.int .i64 0, .string ⟨#[]⟩] 24 Tryz.underlying29 infoField rfl _ _ rfl (by rfl) (w1.heap.size + 1) _ _ L2 x _ _ (by rfl) (by rfl) (by rfl) (by simp [World.setCell]) HG2.out.own (by unfold maxLen; skip; omega) (by skip; omega) (by first | omega | (simp [World.setCell]; omega)) ?_)
            intro A3 c3 w3 hown3 hc3 hg3 _
            obtain ⟨q3, k3⟩ := HG2.out.app_cell hg3
            have HG3 := Lib.hid (HG2.out.app hg3 hown3)
            have hs3 : w2.heap.size + 1 ≤ w3.heap.size := by have := hg3.size; simp [World.setCell] at this; omega
            clear hown3 hg3
            go_wp2
            go_roundw
            case rel => exact ⟨i + 1, A3, c3, L2 ++ [x], true, by omega, by go_num, rfl, HS, by simp <;> omega, Lib.hid (by simpa using HG3.out), by simp [World.setCell]; omega⟩
            case measure => simp [intOf] <;> omega
        · have hne : ¬ x.1 = no := by omega
          have hne' : (x.1 != no) = true := by simpa using hne
          have hge' : decide (x.1 ≥ no) = false := by simp; omega
          have HS : Hid (wst no s m.2 (i + 1) = (L ++ [x], false)) := Lib.hid (by rw [HN.out, HW.out]; unfold wstep; simp [hge, hne])
          go_wp2_with (at_builtin; refine app_elem fCells 2 (fun _ => rfl) (by decide) fCells_one 29 55 #[.int .i64 0, .string ⟨#[]⟩] 24 Tryz.underlying29 infoField rfl _ _ rfl (by rfl) (w1.heap.size + 1) _ _ L x _ _ (by rfl) (by rfl) (by rfl) (by simp) HF.out.own (by unfold maxLen; skip; omega) (by skip; omega) (by first | omega | (simp; omega)) ?_)
          intro A2 c2 w2 hown2 hc2 hg2 _
          obtain ⟨q2, k2⟩ := HF.out.app_cell hg2
          have HG2 := Lib.hid (HF.out.app hg2 hown2)
          have hs2 : wr.heap.size + 2 ≤ w2.heap.size := by have := hg2.size; simp at this; omega
          clear hown2 hg2
          go_wp2
          go_roundw
          case rel => exact ⟨i + 1, A2, c2, L ++ [x], false, by omega, by go_num, rfl, HS, by simp <;> omega, Lib.hid (by simpa using HG2.out), by simp [World.setCell]; omega⟩
          case measure => simp [intOf] <;> omega
      · by_cases heq : x.1 = no
        · have HS : Hid (wst no s m.2 (i + 1) = (L, true)) := Lib.hid (by rw [HN.out, HW.out]; unfold wstep; simp [heq])
          subst heq
          go_wp2
          go_roundw
          case rel => exact ⟨i + 1, A', c', L, true, by omega, by go_num, rfl, HS, hLc, HF, by simp; omega⟩
          case measure => simp [intOf] <;> omega
        · have HS : Hid (wst no s m.2 (i + 1) = (L ++ [x], true)) := Lib.hid (by rw [HN.out, HW.out]; unfold wstep; simp [heq])
          have hne' : (x.1 != no) = true := by simpa using heq
          go_wp2_with (at_builtin; refine app_elem fCells 2 (fun _ => rfl) (by decide) fCells_one 29 55 #[.int .i64 0, .string ⟨#[]⟩] 24 Tryz.underlying29 infoField rfl _ _ rfl (by rfl) (w1.heap.size + 1) _ _ L x _ _ (by rfl) (by rfl) (by rfl) (by simp) HF.out.own (by unfold maxLen; skip; omega) (by skip; omega) (by first | omega | (simp; omega)) ?_)
          intro A2 c2 w2 hown2 hc2 hg2 _
          obtain ⟨q2, k2⟩ := HF.out.app_cell hg2
          have HG2 := Lib.hid (HF.out.app hg2 hown2)
          have hs2 : wr.heap.size + 2 ≤ w2.heap.size := by have := hg2.size; simp at this; omega
          clear hown2 hg2
          go_wp2
          go_roundw
          case rel => exact ⟨i + 1, A2, c2, L ++ [x], true, by omega, by go_num, rfl, HS, by simp <;> omega, Lib.hid (by simpa using HG2.out), by simp [World.setCell]; omega⟩
          case measure => simp [intOf] <;> omega
    · obtain rfl : i = m.2.length := by omega
      obtain ⟨r0, r1, f0, f1⟩ := HX.out wr HG.out.below
      have e0 := HG.out.cell0
      have e1 := HG.out.cell1
      have h2 := HG.out.free 1
      have hlt1 : w.heap.size + 1 ≠ w1.heap.size := by omega
      have HBW : Hid (Below w.heap.size w wr) := Lib.hid (HB.out.trans (HG.out.below.mono (by omega)))
      cases d
      · have HS : Hid (withF no s m.2 = L ++ [(no, s)]) := Lib.hid (by unfold withF; rw [HW.out]; simp)
        go_wp2_with (at_builtin; refine app_elem fCells 2 (fun _ => rfl) (by decide) fCells_one 29 55 #[.int .i64 0, .string ⟨#[]⟩] 24 Tryz.underlying29 infoField rfl _ _ rfl (by rfl) (w1.heap.size + 1) _ _ L (no, s) _ _ (by rfl) (by rfl) (by rfl) (by simp) HG.out.own (by unfold maxLen; skip; omega) (by skip; omega) (by first | omega | (simp; omega)) ?_)
        intro A2 c2 w2 hown2 hc2 hg2 _
        obtain ⟨q2, k2⟩ := HG.out.app_cell hg2
        have HG2 := Lib.hid (HG.out.app hg2 hown2)
        have hs2 : wr.heap.size + 1 ≤ w2.heap.size := by have := hg2.size; simp at this; omega
        have r0 : w2.cell? ⟨w.heap.size + 1, 0, none⟩ = some (.string ⟨#[]⟩) := (cell_keep (hg2.block (w.heap.size + 1) (by simp; omega) (fun e => by have := HG.out.own.lt _ e.symm; omega))).trans ((cell_keep (Below.heap_alloc _ _ _ (by omega))).trans r0)
        have r1 : w2.cell? ⟨w.heap.size + 1, 1, none⟩ = some (.slice none 0 0) := (cell_keep (hg2.block (w.heap.size + 1) (by simp; omega) (fun e => by have := HG.out.own.lt _ e.symm; omega))).trans ((cell_keep (Below.heap_alloc _ _ _ (by omega))).trans r1)
        have f0 : w2.frozen? ⟨w.heap.size + 1, 0, none⟩ = false := (frozen_keep (hg2.block (w.heap.size + 1) (by simp; omega) (fun e => by have := HG.out.own.lt _ e.symm; omega))).trans ((frozen_keep (Below.heap_alloc _ _ _ (by omega))).trans f0)
        have f1 : w2.frozen? ⟨w.heap.size + 1, 1, none⟩ = false := (frozen_keep (hg2.block (w.heap.size + 1) (by simp; omega) (fun e => by have := HG.out.own.lt _ e.symm; omega))).trans ((frozen_keep (Below.heap_alloc _ _ _ (by omega))).trans f1)
        have t0 : w2.cell? ⟨w1.heap.size, 0, none⟩ = some (.string m.1) := (cell_keep (hg2.block w1.heap.size (by simp; omega) (fun e => by have := HG.out.own.lt _ e.symm; omega))).trans ((cell_keep (Below.heap_alloc _ _ _ (by omega))).trans e0)
        clear e0 e1 hown2 hg2
        go_wp2
        refine bodyPost_ret (v := .tuple #[.agg #[.string m.1, .slice A2 (L.length + 1) c2], .bool true]) (by simp [results, Tryz.results22, go_sem, r0, r1]) rfl ?_
        have HZ := HG2.out.ret (w2 := w) (r := w.heap.size + 1) (by omega) (by omega) (HB.out.trans (HG2.out.below.mono (by omega))) (.string m.1) (.slice A2 (L.length + 1) c2)
        exact ⟨_, rfl, by show FieldsR.mine _ _ _ _ (withF no s m.2); rw [HS.out]; exact HZ.1, HZ.2⟩
      · have HS : Hid (withF no s m.2 = L) := Lib.hid (by unfold withF; rw [HW.out]; simp)
        go_wp2
        refine bodyPost_ret (v := .tuple #[.agg #[.string m.1, Value.slice A' L.length c'], .bool true]) (by simp [results, Tryz.results22, go_sem, r0, r1]) rfl ?_
        have HZ := HG.out.ret (w2 := w) (r := w.heap.size + 1) (by omega) (by omega) HBW.out (.string m.1) (Value.slice A' L.length c')
        exact ⟨_, rfl, by show FieldsR.mine _ _ _ _ (withF no s m.2); rw [HS.out]; exact HZ.1, HZ.2⟩
end Go.Proofs.YtkkbhlaakhkjnaaGreatDoor
/- The numbers of a message's fields as the reference reads them; no conditions. -/
set_option linter.unusedVariables false
namespace Go.Proofs.YtkkbhlaakhkjnaaGreatDoor
open Go.ChangeShapes Go.WideShapes Go.ChangeAt Go.RowKit

set_option maxRecDepth 100000 in
theorem getB_bd (p : List Int) (n : Nat) : ∀ z ∈ getB p n, 1 ≤ z ∧ z ≤ n := by
  intro z hz
  unfold getB at hz
  obtain ⟨i, hi, rfl⟩ := List.mem_map.1 hz
  have := (List.mem_filter.1 hi).1
  simp at this
  omega
set_option maxRecDepth 100000 in
theorem bGet_bd (l : List Int) (a : Int) : ∀ z ∈ bGet l a, 1 ≤ z ∧ z ≤ 64 := by
  intro z hz
  unfold bGet at hz
  split at hz
  · exact getB_bd _ _ z hz
  · cases hz
set_option maxRecDepth 100000 in
theorem bGet_len64 (l : List Int) (a : Int) : (bGet l a).length ≤ 64 := by
  unfold bGet
  split
  · unfold getB
    rw [List.length_map]
    exact Nat.le_trans (List.length_filter_le _ _) (by simp)
  · simp
def lowOnes (l : List Int) : List Int := l.filter fun z => decide (z ≠ 1)
def moreB (l : List Int) : Bool := decide (1 ∈ l)
def nosRaw (l : List Int) : List Int := if moreB (bGet l 2) = true then lowOnes (bGet l 2) ++ (bGet l (bEnd l 2)).map (· + 64) else lowOnes (bGet l 2)
def nosEnd (l : List Int) : Int := if moreB (bGet l 2) = true then bEnd l (bEnd l 2) else bEnd l 2
def knownB (l : List Int) : Bool := l.all fun k => decide (fKind k ≠ 0)
def nosOk (l : List Int) : Bool := bIn l 2 && (!moreB (bGet l 2) || (bIn l (bEnd l 2) && decide (0 < (bGet l (bEnd l 2)).length))) && knownB (nosRaw l)
def nosL (l : List Int) : List Int := if nosOk l = true then nosRaw l else []
def nosE (l : List Int) : Int := if nosOk l = true then nosEnd l else 0
def nosRes (l : List Int) (w : World) (e : Ending) (w' : World) : Prop := ∃ v, e = .returned (.tuple #[v, .int .i64 (nosE l), .bool (nosOk l)]) ∧ nums .i64 w.heap.size w'.heap.size w' v (nosL l) ∧ Below w.heap.size w w'
set_option maxRecDepth 100000 in
theorem nosRes_no {l : List Int} {w w' : World} (h : nosOk l = false) (hb : Below w.heap.size w w') : nosRes l w (.returned (.tuple #[.slice none 0 0, .int .i64 0, .bool false])) w' := by
  refine ⟨.slice none 0 0, by simp [nosE, h], ?_, hb⟩
  have : nosL l = [] := by simp [nosL, h]
  rw [this]
  exact nums_none _ _ _ _
set_option maxRecDepth 100000 in
theorem take_snocI {l : List Int} {i : Nat} {x : Int} (h : l[i]? = some x) : l.take (i + 1) = l.take i ++ [x] := by
  obtain ⟨hi, rfl⟩ := List.getElem?_eq_some_iff.1 h
  rw [List.take_succ_eq_append_getElem hi]
set_option maxRecDepth 100000 in
theorem low_snoc (l : List Int) (x : Int) : lowOnes (l ++ [x]) = if x = 1 then lowOnes l else lowOnes l ++ [x] := by
  unfold lowOnes
  rw [List.filter_append]
  by_cases h : x = 1 <;> simp [h]
set_option maxRecDepth 100000 in
theorem more_snoc (l : List Int) (x : Int) : moreB (l ++ [x]) = if x = 1 then true else moreB l := by
  unfold moreB
  by_cases h : x = 1
  · simp [h]
  · have h' : ¬ (1 : Int) = x := fun e => h e.symm
    simp [h, h']
set_option maxRecDepth 100000 in
theorem known_no {l : List Int} {j : Nat} {x : Int} (hx : l[j]? = some x) (h : fKind x = 0) : knownB l = false := by
  unfold knownB; rw [List.all_eq_false]; exact ⟨x, List.mem_of_getElem? hx, by simp [h]⟩
set_option maxRecDepth 100000 in
theorem known_yes {l : List Int} (h : ∀ j x, j < l.length → l[j]? = some x → fKind x ≠ 0) : knownB l = true := by
  unfold knownB; rw [List.all_eq_true]; intro x hx
  obtain ⟨j, hj⟩ := List.mem_iff_getElem?.1 hx
  simpa using h j x (List.getElem?_eq_some_iff.1 hj).1 hj
set_option maxRecDepth 100000 in
set_option maxHeartbeats 16000000 in
theorem specNos_any (hi : Nat) (v : Value) (l : List Int) (w : World) (hn : l.length ≤ 1073741824) (hl : isBytes l) (h : rd .u8 hi w v l) (hhi : hi ≤ w.heap.size) :
    Calls Tryz.prog 43 #[v] w (nosRes l w) := by
  have H := Lib.hid h
  have HG1 := Lib.hid (specGetBits_any hi v l 2 w hn (by decide) hl h hhi)
  have HG2 := Lib.hid (fun (W : World) (hW : Below w.heap.size w W) => specGetBits_any hi v l (bEnd l 2) W hn (by unfold bEnd; split <;> omega) hl (h.below hW hhi) (Nat.le_trans hhi hW.size))
  clear h
  cases hi1 : bIn l 2
  · have HK : Hid (nosOk l = false) := Lib.hid (by simp [nosOk, hi1])
    have HI := Lib.hid hi1
    clear hi1
    go_enter Tryz.func43, Tryz.ntmps43
    go_wp2_with fail
    refine HG1.out.mono ?_
    rintro e w1 ⟨v1, rfl, hv1, hb1⟩
    rw [HI.out]
    have HB1 := Lib.hid hb1
    clear hb1 hv1
    go_wp2
    go_ret3
    exact nosRes_no HK.out HB1.out
  have HI := Lib.hid hi1
  have hlb := bGet_len64 l 2
  have HLB := Lib.hid (bGet_bd l 2)
  have HM : Hid (moreB (bGet l 2) = true → nosRaw l = lowOnes (bGet l 2) ++ (bGet l (bEnd l 2)).map (· + 64) ∧ nosEnd l = bEnd l (bEnd l 2) ∧ nosOk l = ((bIn l (bEnd l 2) && decide (0 < (bGet l (bEnd l 2)).length)) && knownB (nosRaw l))) := Lib.hid (fun h => by simp [nosRaw, nosEnd, nosOk, h, hi1])
  have HN : Hid (moreB (bGet l 2) = false → nosRaw l = lowOnes (bGet l 2) ∧ nosEnd l = bEnd l 2 ∧ nosOk l = knownB (nosRaw l)) := Lib.hid (fun h => by simp [nosRaw, nosEnd, nosOk, h, hi1])
  clear hi1
  go_enter Tryz.func43, Tryz.ntmps43
  go_wp2_with fail
  refine HG1.out.mono ?_
  rintro e w1 ⟨v1, rfl, hv1, hb1⟩
  rw [HI.out]
  generalize hLL : bGet l 2 = LL at hv1 hlb HLB HM HN
  have HLLe := Lib.hid hLL
  clear hLL
  generalize hE : bEnd l 2 = en at HG2 HM HN ⊢
  have HEe := Lib.hid hE
  clear hE
  obtain ⟨A1, c1, rfl, hc1⟩ := hv1.form
  have HV := Lib.hid hv1.rd
  have HB1 := Lib.hid hb1
  have hz1 : w.heap.size ≤ w1.heap.size := hb1.size
  clear hv1 hb1
  go_wp2
  go_loopw [8, 9, 30] (fun ov mv iv wr => ∃ (i : Nat) (A2 : Option Addr) (c2 : Nat) (X : List Int) (mo : Bool), i ≤ LL.length ∧ iv = .int .i64 i ∧ ov = .slice A2 X.length c2 ∧ mv = .bool mo ∧ Hid (X = lowOnes (LL.take i) ∧ mo = moreB (LL.take i)) ∧ X.length ≤ i ∧ Hid (owE 3 1 iCells w1.heap.size wr (.slice A2 X.length c2) X) ∧ Hid (Below w1.heap.size w1 wr) ∧ w1.heap.size ≤ wr.heap.size) (fun _ _ iv _ => LL.length - (intOf iv).toNat)
  case atStart => exact ⟨0, _, 0, [], false, Nat.zero_le _, rfl, rfl, rfl, Lib.hid ⟨rfl, rfl⟩, Nat.le_refl _, Lib.hid (owE_empty _ 1 _ iCells w1 (Nat.le_refl _)), Lib.hid ((Below.refl _ _).alloc (Nat.le_refl _) _), by simp⟩
  case round =>
    obtain ⟨i, A2, c2, X, mo, hi', rfl, rfl, rfl, HX, hXl, HO, HW, hz⟩ := hrel
    by_cases hin : i < LL.length
    · obtain ⟨x, hx⟩ : ∃ x, LL[i]? = some x := ⟨_, List.getElem?_eq_getElem hin⟩
      obtain ⟨b, off, rfl, hbl, c0⟩ := (HV.out.below HW.out (Nat.le_refl _)).at hx
      have HS := Lib.hid (take_snocI hx)
      have g1 : (i : Int) < (LL.length : Int) := by omega
      have g2 : 0 ≤ (i : Int) := by omega
      clear hx
      by_cases h1 : x = 1
      · subst h1
        go_wp2
        go_roundw
        case rel => exact ⟨i + 1, A2, c2, X, true, by omega, by go_num, rfl, rfl, Lib.hid ⟨by rw [HS.out, low_snoc, if_pos rfl]; exact HX.out.1, by rw [HS.out, more_snoc, if_pos rfl]⟩, by omega, HO, HW, hz⟩
        case measure => simp [intOf] <;> omega
      · have h1' : (x == 1) = false := by simpa using h1
        have HN1 := Lib.hid h1
        clear h1
        go_wp2_with (at_builtin; refine app_elem iCells 1 (fun _ => rfl) (by decide) iCells_one 53 3 #[.int .i64 0] 8 Tryz.underlying53 infoInt rfl _ _ rfl (by rfl) w1.heap.size _ _ X x _ _ (by rfl) (by rfl) (by rfl) (by simp) (HO.out) (by unfold maxLen; omega) (by omega) (by first | omega | (simp; omega)) ?_)
        intro A3 c3 w3 hown3 hc3 hg3 _
        have hz3 : wr.heap.size + 1 ≤ w3.heap.size := by have := hg3.size; simpa using this
        have HB3 : Hid (Below w1.heap.size w1 w3) := Lib.hid ((HW.out.alloc (by omega) _).grown hg3 (by simp; omega) (fun g hg' => (HO.out.lt g hg').1))
        have HO3 := Lib.hid hown3
        clear hown3 hg3
        go_wp2
        go_roundw
        case rel => exact ⟨i + 1, A3, c3, X ++ [x], mo, by omega, by go_num, by rw [List.length_append]; rfl, rfl, Lib.hid ⟨by rw [HS.out, low_snoc, if_neg HN1.out, ← HX.out.1], by rw [HS.out, more_snoc, if_neg HN1.out]; exact HX.out.2⟩, by rw [List.length_append]; simp; omega, Lib.hid (by rw [List.length_append]; exact HO3.out), HB3, by omega⟩
        case measure => simp [intOf] <;> omega
    · obtain rfl : i = LL.length := by omega
      have HXX : Hid (X = lowOnes LL ∧ mo = moreB LL) := Lib.hid (by have := HX.out; rwa [List.take_length] at this)
      clear HX
      cases mo
      · have hmf : moreB LL = false := HXX.out.2.symm
        obtain ⟨k1, k2, k3⟩ := HN.out hmf
        have HR : Hid (nosRaw l = X ∧ nosEnd l = en ∧ nosOk l = knownB X) := Lib.hid ⟨by rw [k1, HXX.out.1], k2, by rw [k3, k1, HXX.out.1]⟩
        have HF := Lib.hid (HB1.out.trans (HW.out.mono hz1))
        have HXR := Lib.hid (HO.out.ints.nums)
        clear k1 k2 k3 hmf
        go_wp2
        go_loop [71] (fun iv => ∃ k : Nat, k ≤ X.length ∧ iv = .int .i64 k ∧ Hid (∀ j x, j < k → X[j]? = some x → fKind x ≠ 0)) (fun iv => X.length - (intOf iv).toNat)
        case atStart => exact ⟨0, Nat.zero_le _, rfl, Lib.hid (fun j x hj => absurd hj (by omega))⟩
        case round =>
          obtain ⟨k, hk, rfl, HKN⟩ := hrel
          by_cases hin : k < X.length
          · obtain ⟨x, hx⟩ : ∃ x, X[k]? = some x := ⟨_, List.getElem?_eq_getElem hin⟩
            obtain ⟨b, off, hA, hbl, c0⟩ := HXR.out.rd.at hx
            subst hA
            have HX1 := Lib.hid hx
            have g1 : (k : Int) < (X.length : Int) := by omega
            have g2 : 0 ≤ (k : Int) := by omega
            clear hx
            by_cases h0 : fKind x = 0
            · have HK : Hid (nosOk l = false) := Lib.hid (by rw [HR.out.2.2]; exact known_no HX1.out h0)
              have HC := Lib.hid (specFieldKind_any x)
              rw [h0] at HC
              clear h0
              go_wp2_with fail
              refine (HC.out _).mono ?_
              rintro e w9 ⟨rfl, rfl⟩
              go_wp2
              go_ret3
              exact nosRes_no HK.out HF.out
            · have HC := Lib.hid (specFieldKind_any x)
              have HNZ := Lib.hid h0
              generalize fKind x = kx at HC h0
              have h0' : (kx == 0) = false := by simpa using h0
              clear h0
              go_wp2_with fail
              refine (HC.out _).mono ?_
              rintro e w9 ⟨rfl, rfl⟩
              go_wp2
              go_round
              case rel => exact ⟨k + 1, by omega, by go_num, Lib.hid (fun j y hj hy => by
                by_cases e : j = k
                · subst e
                  have := HX1.out.symm.trans hy
                  cases this
                  exact HNZ.out
                · exact HKN.out j y (by omega) hy)⟩
              case measure => simp [intOf] <;> omega
          · obtain rfl : k = X.length := by omega
            have HK : Hid (nosOk l = true) := Lib.hid (by rw [HR.out.2.2]; exact known_yes HKN.out)
            go_wp2
            go_ret3
            refine ⟨(.slice A2 X.length c2), ?_, ?_, HF.out⟩
            · show Ending.returned (.tuple #[(.slice A2 X.length c2), .int .i64 en, .bool true]) = _
              unfold nosE
              rw [HK.out, if_pos rfl, HR.out.2.1]
            · unfold nosL
              rw [if_pos HK.out, HR.out.1]
              exact HXR.out.mono hz1 (Nat.le_refl _)
      · have hmt : moreB LL = true := HXX.out.2.symm
        obtain ⟨k1, k2, k3⟩ := HM.out hmt
        have HK1 : Hid (nosRaw l = X ++ (bGet l en).map (· + 64) ∧ nosEnd l = bEnd l en ∧ nosOk l = ((bIn l en && decide (0 < (bGet l en).length)) && knownB (nosRaw l))) := Lib.hid ⟨by rw [k1, HXX.out.1], k2, k3⟩
        clear k1 k2 k3 hmt
        have HF := Lib.hid (HB1.out.trans (HW.out.mono hz1))
        go_wp2_with fail
        refine (HG2.out _ HF.out).mono ?_
        rintro e w4 ⟨v4, rfl, hv4, hb4⟩
        have hz4 : wr.heap.size ≤ w4.heap.size := hb4.size
        have hl4 := bGet_len64 l en
        have HL4 := Lib.hid (bGet_bd l en)
        have HF4 : Hid (Below w.heap.size w w4) := Lib.hid (HF.out.trans (hb4.mono (by omega)))
        have HO4 := Lib.hid (HO.out.below hb4 (Nat.le_refl _))
        have HW4 : Hid (Below w1.heap.size w1 w4) := Lib.hid (HW.out.trans (hb4.mono (by omega)))
        generalize hHH : bGet l en = HH at hv4 hl4 HL4 HK1
        have HHe := Lib.hid hHH
        clear hHH
        generalize hE2 : bEnd l en = en2 at HK1 ⊢
        have HE2 := Lib.hid hE2
        clear hE2
        obtain ⟨A4, c4, rfl, hc4⟩ := hv4.form
        obtain ⟨n0, hn0⟩ : ∃ n0, wr.heap.size = n0 := ⟨_, rfl⟩
        rw [hn0] at hv4
        have HV4 := Lib.hid hv4
        have HX0 : Hid (∀ g, (Value.slice A2 X.length c2).ownBlock = some g → g < n0) := Lib.hid (fun g hg' => hn0 ▸ (HO.out.lt g hg').2)
        clear hv4 hb4 hn0
        generalize hb2 : bIn l en = bi at HK1 ⊢
        cases bi
        · have HK : Hid (nosOk l = false) := Lib.hid (by rw [HK1.out.2.2]; rfl)
          clear hb2
          go_wp2
          go_ret3
          exact nosRes_no HK.out HF4.out
        · clear hb2
          by_cases h0 : HH.length = 0
          · have HK : Hid (nosOk l = false) := Lib.hid (by rw [HK1.out.2.2, h0]; rfl)
            obtain rfl : HH = [] := List.eq_nil_of_length_eq_zero h0
            clear h0
            go_wp2
            go_ret3
            exact nosRes_no HK.out HF4.out
          · have h0' : (0 : Int) < (HH.length : Int) := by omega
            have h0'' : ((HH.length : Int) == 0) = false := by rw [beq_eq_false_iff_ne]; omega
            have HK2 : Hid (nosOk l = knownB (nosRaw l)) := Lib.hid (by rw [HK1.out.2.2, decide_eq_true (show 0 < HH.length by omega)]; rfl)
            have hz14 : w1.heap.size ≤ w4.heap.size := by omega
            clear HW HF HO hz
            go_wp2
            go_loopw [8, 58] (fun ov iv wr => ∃ (i : Nat) (A5 : Option Addr) (c5 : Nat) (Y : List Int), i ≤ HH.length ∧ iv = .int .i64 i ∧ ov = .slice A5 Y.length c5 ∧ Hid (Y = X ++ (HH.take i).map (· + 64)) ∧ Y.length ≤ 64 + i ∧ Hid (owE 3 1 iCells w1.heap.size wr (.slice A5 Y.length c5) Y) ∧ Hid (Below w1.heap.size w1 wr) ∧ w4.heap.size ≤ wr.heap.size ∧ Hid (nums .i64 n0 w4.heap.size wr (.slice A4 HH.length c4) HH) ∧ Hid (∀ g, (Value.slice A5 Y.length c5).ownBlock = some g → g < n0 ∨ w4.heap.size ≤ g)) (fun _ iv _ => HH.length - (intOf iv).toNat)
            case atStart => exact ⟨0, _, _, X, Nat.zero_le _, rfl, rfl, Lib.hid (by simp), by omega, HO4, HW4, Nat.le_refl _, HV4, Lib.hid (fun g hg' => .inl (HX0.out g hg'))⟩
            case round =>
              obtain ⟨i, A5, c5, Y, hi', rfl, rfl, HY, hYl, HO5, HW5, hz5, HV5, HAP⟩ := hrel
              by_cases hin : i < HH.length
              · obtain ⟨x, hx⟩ : ∃ x, HH[i]? = some x := ⟨_, List.getElem?_eq_getElem hin⟩
                obtain ⟨b, off, hA, hbl, c0⟩ := HV5.out.rd.at hx
                subst hA
                obtain ⟨hx1, hx2⟩ := HL4.out x (List.mem_of_getElem? hx)
                have HS := Lib.hid (take_snocI hx)
                have g1 : (i : Int) < (HH.length : Int) := by omega
                have g2 : 0 ≤ (i : Int) := by omega
                clear hx
                go_wp2_with (at_builtin; refine app_elem iCells 1 (fun _ => rfl) (by decide) iCells_one 53 3 #[.int .i64 0] 8 Tryz.underlying53 infoInt rfl _ _ rfl (by rfl) w1.heap.size _ _ Y (x + 64) _ _ (by rfl) (by rfl) (by rfl) (by simp) (HO5.out) (by unfold maxLen; omega) (by omega) (by first | omega | (simp; omega)) ?_)
                intro A6 c6 w6 hown6 hc6 hg6 hlies
                have hz6 : wr.heap.size + 1 ≤ w6.heap.size := by have := hg6.size; simpa using this
                have HB6 : Hid (Below w1.heap.size w1 w6) := Lib.hid ((HW5.out.alloc (by omega) _).grown hg6 (by simp; omega) (fun g hg' => (HO5.out.lt g hg').1))
                have HV6 : Hid (nums .i64 n0 w4.heap.size w6 (.slice (some ⟨b, off, none⟩) HH.length c4) HH) := Lib.hid ((HV5.out.below ((Below.refl _ _).alloc (Nat.le_refl _) _) hz5).grown hg6 (by simp; omega) (fun k hk => HAP.out k hk))
                have HAP6 : Hid (∀ g, (Value.slice A6 (Y.length + 1) c6).ownBlock = some g → g < n0 ∨ w4.heap.size ≤ g) := Lib.hid (fun g hg' => by
                  rcases hlies with h | h
                  · exact HAP.out g (h ▸ hg')
                  · rw [h] at hg'; cases hg'; exact .inr (by omega))
                have HO6 := Lib.hid hown6
                clear hown6 hg6 hlies
                go_wp2
                go_roundw
                case rel => exact ⟨i + 1, A6, c6, Y ++ [x + 64], by omega, by go_num, by rw [List.length_append]; rfl, Lib.hid (by rw [HS.out, HY.out, List.map_append, List.append_assoc]; rfl), by rw [List.length_append]; simp; omega, Lib.hid (by rw [List.length_append]; exact HO6.out), HB6, by omega, HV6, Lib.hid (by rw [List.length_append]; exact HAP6.out)⟩
                case measure => simp [intOf] <;> omega
              · obtain rfl : i = HH.length := by omega
                have HYY : Hid (Y = X ++ HH.map (· + 64)) := Lib.hid (by have := HY.out; rwa [List.take_length] at this)
                have HR : Hid (nosRaw l = Y ∧ nosEnd l = en2 ∧ nosOk l = knownB Y) := Lib.hid ⟨by rw [HK1.out.1, HYY.out], HK1.out.2.1, by rw [HK2.out, HK1.out.1, HYY.out]⟩
                have HF := Lib.hid (HB1.out.trans (HW5.out.mono hz1))
                have HXR := Lib.hid (HO5.out.ints.nums)
                go_wp2
                go_loop [71] (fun iv => ∃ k : Nat, k ≤ Y.length ∧ iv = .int .i64 k ∧ Hid (∀ j x, j < k → Y[j]? = some x → fKind x ≠ 0)) (fun iv => Y.length - (intOf iv).toNat)
                case atStart => exact ⟨0, Nat.zero_le _, rfl, Lib.hid (fun j x hj => absurd hj (by omega))⟩
                case round =>
                  obtain ⟨k, hk, rfl, HKN⟩ := hrel
                  by_cases hin : k < Y.length
                  · obtain ⟨x, hx⟩ : ∃ x, Y[k]? = some x := ⟨_, List.getElem?_eq_getElem hin⟩
                    obtain ⟨b, off, hA, hbl, c0⟩ := HXR.out.rd.at hx
                    subst hA
                    have HX1 := Lib.hid hx
                    have g1 : (k : Int) < (Y.length : Int) := by omega
                    have g2 : 0 ≤ (k : Int) := by omega
                    clear hx
                    by_cases h0 : fKind x = 0
                    · have HK : Hid (nosOk l = false) := Lib.hid (by rw [HR.out.2.2]; exact known_no HX1.out h0)
                      have HC := Lib.hid (specFieldKind_any x)
                      rw [h0] at HC
                      clear h0
                      go_wp2_with fail
                      refine (HC.out _).mono ?_
                      rintro e w9 ⟨rfl, rfl⟩
                      go_wp2
                      go_ret3
                      exact nosRes_no HK.out HF.out
                    · have HC := Lib.hid (specFieldKind_any x)
                      have HNZ := Lib.hid h0
                      generalize fKind x = kx at HC h0
                      have h0' : (kx == 0) = false := by simpa using h0
                      clear h0
                      go_wp2_with fail
                      refine (HC.out _).mono ?_
                      rintro e w9 ⟨rfl, rfl⟩
                      go_wp2
                      go_round
                      case rel => exact ⟨k + 1, by omega, by go_num, Lib.hid (fun j y hj hy => by
                        by_cases e : j = k
                        · subst e
                          have := HX1.out.symm.trans hy
                          cases this
                          exact HNZ.out
                        · exact HKN.out j y (by omega) hy)⟩
                      case measure => simp [intOf] <;> omega
                  · obtain rfl : k = Y.length := by omega
                    have HK : Hid (nosOk l = true) := Lib.hid (by rw [HR.out.2.2]; exact known_yes HKN.out)
                    go_wp2
                    go_ret3
                    refine ⟨(.slice A5 Y.length c5), ?_, ?_, HF.out⟩
                    · show Ending.returned (.tuple #[(.slice A5 Y.length c5), .int .i64 en2, .bool true]) = _
                      unfold nosE
                      rw [HK.out, if_pos rfl, HR.out.2.1]
                    · unfold nosL
                      rw [if_pos HK.out, HR.out.1]
                      exact HXR.out.mono hz1 (Nat.le_refl _)
end Go.Proofs.YtkkbhlaakhkjnaaGreatDoor
/- GetField of the reference; no conditions. -/
set_option linter.unusedVariables false
namespace Go.Proofs.YtkkbhlaakhkjnaaGreatDoor
open Go.ChangeShapes Go.WideShapes Go.ChangeAt Go.RowKit

set_option maxRecDepth 100000 in
theorem rawOk_neg {kd : Int} {l : List Int} {a sz : Int} (h : a < 0) : rawOk kd l a sz = false := by
  unfold rawOk
  repeat' split
  · exact gOk_out (gIn_no (.inr (.inr (.inl h))))
  · exact inR_no (.inl h)
  all_goals rw [lenGot_neg h, Bool.false_and]
set_option maxRecDepth 100000 in
theorem getOk_neg {kd : Int} {l : List Int} {a sz : Int} (h : a < 0) : getOk kd l a sz = false := by unfold getOk; rw [rawOk_neg h, Bool.false_and]
set_option maxRecDepth 100000 in
theorem str_size (t : List UInt8) : (⟨t.toArray⟩ : ByteArray).size = t.length := rfl
set_option maxRecDepth 100000 in
theorem getOk1 {l : List Int} {a sz : Int} (hl : isBytes l) : getOk 1 l a sz = gOk l a sz := by
  unfold getOk rawOk rawTxt okBy
  simp only [if_true]
  cases h : gOk l a sz
  · rfl
  · have := gTxt_ok hl h
    rw [this.2, str_size, this.1]
    simp
set_option maxRecDepth 100000 in
theorem getOk2 {l : List Int} {a sz : Int} : getOk 2 l a sz = (inR l a sz && prnS ⟨(tPart l a sz).toArray⟩) := by
  unfold getOk rawOk rawTxt okBy
  simp only [show ((2 : Int) = 1) = False by simp, if_false, if_true]
  cases h : inR l a sz
  · rfl
  · have h1 := tPart_len h
    have h2 := inR_yes h
    rw [str_size, h1]
    have : decide (((sz.toNat : Nat) : Int) = sz) = true := by simp; omega
    rw [this, Bool.true_and]
set_option maxRecDepth 100000 in
theorem getOk3 {l : List Int} {a sz : Int} (hl : isBytes l) : getOk 3 l a sz = (lenGot l a 2 && (decide (1 ≤ lenVal l a 2) && decide (lenVal l a 2 ≤ sz)) && gOk l (lenEnd l a 2) (lenVal l a 2)) := by
  unfold getOk rawOk rawTxt okBy
  simp only [show ((3 : Int) = 1) = False by simp, show ((3 : Int) = 2) = False by simp, if_false, if_true]
  cases hg : lenGot l a 2
  · rfl
  cases h : gOk l (lenEnd l a 2) (lenVal l a 2)
  · simp
  · have h1 := gTxt_ok hl h
    have h2 := gIn_bd (gOk_in h).1
    rw [h1.2, str_size, h1.1]
    simp
    omega
set_option maxRecDepth 100000 in
theorem getOk45 {l : List Int} {a sz : Int} {kd d : Int} (hk : kd = 4 ∧ d = 2 ∨ kd = 5 ∧ d = 3) : getOk kd l a sz = (lenGot l a d && (decide (1 ≤ lenVal l a d) && decide (lenVal l a d ≤ sz)) && (inR l (lenEnd l a d) (lenVal l a d) && prnS ⟨(tPart l (lenEnd l a d) (lenVal l a d)).toArray⟩)) := by
  have key : ∀ (G I p : Bool) (V : Int) (n : Nat), 0 ≤ V → (I = true → n = V.toNat) → (G && I && ((decide (0 < n) && decide ((n : Int) ≤ sz)) && p)) = (G && (decide (1 ≤ V) && decide (V ≤ sz)) && (I && p)) := by
    intro G I p V n hV hI
    cases G
    · rfl
    cases I
    · simp
    · have := hI rfl
      subst this
      have e1 : decide (0 < V.toNat) = decide (1 ≤ V) := by apply decide_eq_decide.2; omega
      have e2 : decide (((V.toNat : Nat) : Int) ≤ sz) = decide (V ≤ sz) := by apply decide_eq_decide.2; omega
      rw [e1, e2]
      cases decide (1 ≤ V) <;> cases decide (V ≤ sz) <;> simp
  rcases hk with ⟨rfl, rfl⟩ | ⟨rfl, rfl⟩
  · unfold getOk rawOk rawTxt okBy
    simp only [show ((4 : Int) = 1) = False by simp, show ((4 : Int) = 2) = False by simp, show ((4 : Int) = 3) = False by simp, if_false, if_true, true_or]
    rw [str_size]
    exact key _ _ _ _ _ (lenVal_bd l a 2).1 (fun h => tPart_len h)
  · unfold getOk rawOk rawTxt okBy
    simp only [show ((5 : Int) = 1) = False by simp, show ((5 : Int) = 2) = False by simp, show ((5 : Int) = 3) = False by simp, show ((5 : Int) = 4) = False by simp, if_false, if_true, or_true]
    rw [str_size]
    exact key _ _ _ _ _ (lenVal_bd l a 3).1 (fun h => tPart_len h)
set_option maxRecDepth 100000 in
/-- the text at x, m bytes long: what string(b[x:x+m]) gives -/
theorem part_str {hi : Nat} {w : World} {b off c x m : Nat} {l : List Int} (h : rd .u8 hi w (.slice (some ⟨b, off, none⟩) l.length c) l) (h0 : 0 < l.length) (hm : x + m ≤ l.length) :
    (convert 26 9 (.slice (some ⟨b, off + x, none⟩) (x + m - x) (c - x))).run Tryz.prog w = .ok (.string ⟨(tPart l (x : Int) (m : Int)).toArray⟩) w := by
  obtain ⟨A, c', he, hc, hj⟩ := h
  injection he with e1 e2 e3
  subst e1
  subst e3
  have hj' : ∀ j, j < l.length → w.cell? ⟨b, off + j, none⟩ = some (.int .u8 (l.getD j 0)) := fun j hjl => by
    obtain ⟨b', off', e, _, hx⟩ := hj j hjl
    simp only [Option.some.injEq, Addr.mk.injEq, and_true] at e
    obtain ⟨rfl, rfl⟩ := e
    exact hx
  obtain ⟨b', off', e, hb, -⟩ := hj 0 h0
  simp only [Option.some.injEq, Addr.mk.injEq, and_true] at e
  obtain ⟨rfl, rfl⟩ := e
  rw [Nat.add_sub_cancel_left]
  exact str_of_rd (rd_part hj' hb hc hm)

set_option maxRecDepth 100000 in
set_option maxHeartbeats 3200000 in
theorem specGetField_any (hi : Nat) (v : Value) (l : List Int) (a no : Int) (w : World) (hn : l.length ≤ 1048576) (ha : a ≤ 9223372036854775807) (hl : isBytes l) (h : rd .u8 hi w v l) (hhi : hi ≤ w.heap.size) :
    Calls Tryz.prog 44 #[v, .int .i64 a, .int .i64 no] w fun e w' => e = getRes l a no ∧ Below w.heap.size w w' := by
  have H := Lib.hid h
  have HL := Lib.hid hl
  have HZ : Hid (getRes l a no = if fKind no = 0 then trip false [] 0 else trip (getOk (fKind no) l a (fSize no)) (rawTxt (fKind no) l a (fSize no)) (rawEnd (fKind no) l a (fSize no))) := Lib.hid rfl
  have H1 := Lib.hid (specFieldKind_any no)
  have H2 := Lib.hid (specFieldSize_any no)
  have hsz := (kind_size no).2.2.2.2
  have hs0 : fKind no ≠ 0 → 1 ≤ fSize no := fun h => fSize_pos h
  have hk := kind_cases no
  clear h hl
  rw [HZ.out]
  clear HZ
  generalize fKind no = kd at H1 hk hs0 ⊢
  generalize fSize no = sz at H2 hsz hs0 ⊢
  rcases hk with rfl | hk
  · rw [if_pos rfl, trip_no]
    go_enter Tryz.func44, Tryz.ntmps44
    go_wp2_with fail
    refine (H1.out _).mono ?_
    rintro e w1 ⟨rfl, rfl⟩
    go_wp2_with fail
    refine (H2.out _).mono ?_
    rintro e w1 ⟨rfl, rfl⟩
    go_wp2
    go_ret3
    exact ⟨rfl, Below.refl _ _⟩
  have hne : kd ≠ 0 := by omega
  rw [if_neg hne]
  have hs1 := hs0 hne
  clear hs0
  by_cases h0 : a < 0
  · rw [getOk_neg h0, trip_no]
    have hne' : (kd == 0) = false := beq_eq_false_iff_ne.2 hne
    clear hne
    go_enter Tryz.func44, Tryz.ntmps44
    go_wp2_with fail
    refine (H1.out _).mono ?_
    rintro e w1 ⟨rfl, rfl⟩
    go_wp2_with fail
    refine (H2.out _).mono ?_
    rintro e w1 ⟨rfl, rfl⟩
    go_wp2
    go_ret3
    exact ⟨rfl, Below.refl _ _⟩
  clear hne
  obtain ⟨m, rfl⟩ : ∃ m : Nat, sz = m := ⟨sz.toNat, by omega⟩
  obtain ⟨x, rfl⟩ : ∃ x : Nat, a = x := ⟨a.toNat, by omega⟩
  clear h0
  rcases hk with rfl | rfl | rfl | rfl | rfl
  · rw [getOk1 HL.out]
    have HW : Hid (trip (gOk l (x : Int) (m : Int)) (rawTxt 1 l (x : Int) (m : Int)) (rawEnd 1 l (x : Int) (m : Int)) = gRes l (x : Int) (m : Int)) := Lib.hid (by rw [gRes_trip]; rfl)
    rw [HW.out]
    go_enter Tryz.func44, Tryz.ntmps44
    go_wp2_with fail
    refine (H1.out _).mono ?_
    rintro e w1 ⟨rfl, rfl⟩
    go_wp2_with fail
    refine (H2.out _).mono ?_
    rintro e w1 ⟨rfl, rfl⟩
    go_wp2_with fail
    refine (width_any _ _).mono ?_
    rw [show fWidth 1 = 0 from rfl]
    rintro e w1 ⟨rfl, rfl⟩
    go_wp2_with fail
    refine (specGetBcd_any hi _ l _ _ _ (by omega) ha HL.out H.out hhi).mono ?_
    rintro e w2 ⟨he, hb⟩
    unfold gRes at he
    subst he
    go_wp2
    go_ret3
    exact ⟨rfl, hb⟩
  · rw [getOk2]
    obtain ⟨A, c, rfl, hc⟩ := H.out.form
    rcases Nat.lt_or_ge l.length x with hx | hx
    · rw [inR_no (l := l) (a := (x : Int)) (n := (m : Int)) (by omega), Bool.false_and, trip_no]
      have d1 : (l.length : Int) < (x : Int) := by omega
      go_enter Tryz.func44, Tryz.ntmps44
      go_wp2_with fail
      refine (H1.out _).mono ?_
      rintro e w1 ⟨rfl, rfl⟩
      go_wp2_with fail
      refine (H2.out _).mono ?_
      rintro e w1 ⟨rfl, rfl⟩
      go_wp2_with fail
      refine (width_any _ _).mono ?_
      rw [show fWidth 2 = 0 from rfl]
      rintro e w1 ⟨rfl, rfl⟩
      go_wp2
      go_ret3
      exact ⟨rfl, Below.refl _ _⟩
    rcases Nat.lt_or_ge l.length (x + m) with hxm | hxm
    · rw [inR_no (l := l) (a := (x : Int)) (n := (m : Int)) (by omega), Bool.false_and, trip_no]
      have d1 : ¬ (l.length : Int) < (x : Int) := by omega
      have d2 : (l.length : Int) - (x : Int) < (m : Int) := by omega
      go_enter Tryz.func44, Tryz.ntmps44
      go_wp2_with fail
      refine (H1.out _).mono ?_
      rintro e w1 ⟨rfl, rfl⟩
      go_wp2_with fail
      refine (H2.out _).mono ?_
      rintro e w1 ⟨rfl, rfl⟩
      go_wp2_with fail
      refine (width_any _ _).mono ?_
      rw [show fWidth 2 = 0 from rfl]
      rintro e w1 ⟨rfl, rfl⟩
      go_wp2
      go_ret3
      exact ⟨rfl, Below.refl _ _⟩
    have hin : inR l (x : Int) (m : Int) = true := by simp [inR]; omega
    have hl0 : 0 < l.length := by omega
    obtain ⟨b, off, rfl, -⟩ : ∃ b off, A = some ⟨b, off, none⟩ ∧ True := by
      obtain ⟨A', c', he, -, hj⟩ := H.out
      injection he with e1
      subst e1
      obtain ⟨b, off, e, -⟩ := hj 0 hl0
      exact ⟨b, off, e, trivial⟩
    rw [hin, Bool.true_and]
    have HPS := Lib.hid (fun W (hW : rd .u8 hi W (.slice (some ⟨b, off, none⟩) l.length c) l) => part_str (x := x) (m := m) hW hl0 hxm)
    have HTX : Hid (tPart l (x : Int) (m : Int) = rawTxt 2 l (x : Int) (m : Int)) := Lib.hid rfl
    have HPL : Hid ((⟨(tPart l (x : Int) (m : Int)).toArray⟩ : ByteArray).size ≤ maxLen) := Lib.hid (by have := tPart_le l (x : Int) (m : Int); rw [str_size]; unfold maxLen; omega)
    rw [← HTX.out]
    have HEN : Hid (rawEnd 2 l (x : Int) (m : Int) = (x : Int) + (m : Int)) := Lib.hid rfl
    rw [HEN.out]
    have d1 : ¬ (l.length : Int) < (x : Int) := by omega
    have d2 : ¬ (l.length : Int) - (x : Int) < (m : Int) := by omega
    have d3 : (x : Int) + (m : Int) ≤ (c : Int) := by omega
    have d4 : (0 : Int) ≤ (x : Int) := by omega
    have d5 : (x : Int) ≤ (x : Int) + (m : Int) := by omega
    have hcx : ¬ c = x := by omega
    clear hin HTX HEN
    generalize tPart l (x : Int) (m : Int) = t at HPS HPL ⊢
    cases hp : prnS ⟨t.toArray⟩
    · have HP := Lib.hid hp
      rw [trip_no]
      clear hp
      go_enter Tryz.func44, Tryz.ntmps44
      go_wp2_with fail
      refine (H1.out _).mono ?_
      rintro e w1 ⟨rfl, rfl⟩
      go_wp2_with fail
      refine (H2.out _).mono ?_
      rintro e w1 ⟨rfl, rfl⟩
      go_wp2_with fail
      refine (width_any _ _).mono ?_
      rw [show fWidth 2 = 0 from rfl]
      rintro e w1 ⟨rfl, rfl⟩
      have hst := HPS.out _ H.out
      have hst2 := hst
      rw [Nat.add_sub_cancel_left] at hst2
      go_wp2_with fail
      refine (specPrintable_any _ _ HPL.out).mono ?_
      rw [HP.out]
      rintro e w9 ⟨rfl, rfl⟩
      go_wp2
      go_ret3
      exact ⟨rfl, Below.refl _ _⟩
    · have HP := Lib.hid hp
      rw [trip_yes]
      clear hp
      go_enter Tryz.func44, Tryz.ntmps44
      go_wp2_with fail
      refine (H1.out _).mono ?_
      rintro e w1 ⟨rfl, rfl⟩
      go_wp2_with fail
      refine (H2.out _).mono ?_
      rintro e w1 ⟨rfl, rfl⟩
      go_wp2_with fail
      refine (width_any _ _).mono ?_
      rw [show fWidth 2 = 0 from rfl]
      rintro e w1 ⟨rfl, rfl⟩
      have hst := HPS.out _ H.out
      have hst2 := hst
      rw [Nat.add_sub_cancel_left] at hst2
      go_wp2_with fail
      refine (specPrintable_any _ _ HPL.out).mono ?_
      rw [HP.out]
      rintro e w9 ⟨rfl, rfl⟩
      go_wp2
      go_ret3
      exact ⟨rfl, Below.refl _ _⟩
  · rw [getOk3 HL.out]
    have HRE : Hid (rawTxt 3 l (x : Int) (m : Int) = gTxt l (lenEnd l (x : Int) 2) (lenVal l (x : Int) 2) ∧ rawEnd 3 l (x : Int) (m : Int) = gEnd l (lenEnd l (x : Int) 2) (lenVal l (x : Int) 2)) := Lib.hid ⟨rfl, rfl⟩
    rw [HRE.out.1, HRE.out.2]
    have HGL := Lib.hid (specGetLen_any hi v l (x : Int) 2 w (by omega) ha HL.out H.out hhi)
    rw [lenRes_trip] at HGL
    have he := lenEnd_bd l (x : Int) 2
    clear HRE
    generalize lenEnd l (x : Int) 2 = en at HGL he ⊢
    generalize lenVal l (x : Int) 2 = vl at HGL ⊢
    cases hgot : lenGot l (x : Int) 2
    · rw [hgot] at HGL
      rw [Bool.false_and, Bool.false_and, trip_no]
      clear hgot
      go_enter Tryz.func44, Tryz.ntmps44
      go_wp2_with fail
      refine (H1.out _).mono ?_
      rintro e w1 ⟨rfl, rfl⟩
      go_wp2_with fail
      refine (H2.out _).mono ?_
      rintro e w1 ⟨rfl, rfl⟩
      go_wp2_with fail
      refine (width_any _ _).mono ?_
      rw [show fWidth 3 = 2 from rfl]
      rintro e w1 ⟨rfl, rfl⟩
      go_wp2_with fail
      refine (width_any _ _).mono ?_
      rw [show fWidth 3 = 2 from rfl]
      rintro e w1 ⟨rfl, rfl⟩
      go_wp2_with fail
      refine HGL.out.mono ?_
      rintro e w2 ⟨rfl, hb⟩
      go_wp2
      go_ret3
      exact ⟨rfl, hb⟩
    rw [hgot] at HGL
    rw [Bool.true_and]
    cases hr : (decide (1 ≤ vl) && decide (vl ≤ (m : Int)))
    · have HR := Lib.hid hr
      rw [Bool.false_and, trip_no]
      clear hgot hr
      go_enter Tryz.func44, Tryz.ntmps44
      go_wp2_with fail
      refine (H1.out _).mono ?_
      rintro e w1 ⟨rfl, rfl⟩
      go_wp2_with fail
      refine (H2.out _).mono ?_
      rintro e w1 ⟨rfl, rfl⟩
      go_wp2_with fail
      refine (width_any _ _).mono ?_
      rw [show fWidth 3 = 2 from rfl]
      rintro e w1 ⟨rfl, rfl⟩
      go_wp2_with fail
      refine (width_any _ _).mono ?_
      rw [show fWidth 3 = 2 from rfl]
      rintro e w1 ⟨rfl, rfl⟩
      go_wp2_with fail
      refine HGL.out.mono ?_
      rintro e w2 ⟨rfl, hb⟩
      go_wp2_with fail
      refine (l01In_any _ _ _ _).mono ?_
      rw [HR.out]
      rintro e w3 ⟨rfl, rfl⟩
      go_wp2
      go_ret3
      exact ⟨rfl, hb⟩
    · have HR := Lib.hid hr
      rw [Bool.true_and, ← gRes_trip]
      clear hgot hr
      go_enter Tryz.func44, Tryz.ntmps44
      go_wp2_with fail
      refine (H1.out _).mono ?_
      rintro e w1 ⟨rfl, rfl⟩
      go_wp2_with fail
      refine (H2.out _).mono ?_
      rintro e w1 ⟨rfl, rfl⟩
      go_wp2_with fail
      refine (width_any _ _).mono ?_
      rw [show fWidth 3 = 2 from rfl]
      rintro e w1 ⟨rfl, rfl⟩
      go_wp2_with fail
      refine (width_any _ _).mono ?_
      rw [show fWidth 3 = 2 from rfl]
      rintro e w1 ⟨rfl, rfl⟩
      go_wp2_with fail
      refine HGL.out.mono ?_
      rintro e w2 ⟨rfl, hb⟩
      have HBB := Lib.hid hb
      have hz := hb.size
      clear hb
      go_wp2_with fail
      refine (l01In_any _ _ _ _).mono ?_
      rw [HR.out]
      rintro e w3 ⟨rfl, rfl⟩
      go_wp2_with fail
      refine (specGetBcd_any hi _ l _ _ _ (by omega) (by omega) HL.out (H.out.below HBB.out hhi) (Nat.le_trans hhi hz)).mono ?_
      rintro e w4 ⟨he4, hb4⟩
      unfold gRes at he4
      subst he4
      go_wp2
      go_ret3
      exact ⟨rfl, HBB.out.trans (hb4.mono hz)⟩
  · rw [getOk45 (kd := 4) (d := 2) (by omega)]
    have HRE : Hid (rawTxt 4 l (x : Int) (m : Int) = tPart l (lenEnd l (x : Int) 2) (lenVal l (x : Int) 2) ∧ rawEnd 4 l (x : Int) (m : Int) = lenEnd l (x : Int) 2 + lenVal l (x : Int) 2) := Lib.hid ⟨rfl, rfl⟩
    rw [HRE.out.1, HRE.out.2]
    have HGL := Lib.hid (specGetLen_any hi v l (x : Int) 2 w (by omega) ha HL.out H.out hhi)
    rw [lenRes_trip] at HGL
    have he := lenEnd_bd l (x : Int) 2
    have hv := lenVal_bd l (x : Int) 2
    clear HRE
    generalize lenEnd l (x : Int) 2 = en at HGL he ⊢
    generalize lenVal l (x : Int) 2 = vl at HGL hv ⊢
    cases hgot : lenGot l (x : Int) 2
    · rw [hgot] at HGL
      rw [Bool.false_and, Bool.false_and, trip_no]
      clear hgot
      go_enter Tryz.func44, Tryz.ntmps44
      go_wp2_with fail
      refine (H1.out _).mono ?_
      rintro e w1 ⟨rfl, rfl⟩
      go_wp2_with fail
      refine (H2.out _).mono ?_
      rintro e w1 ⟨rfl, rfl⟩
      go_wp2_with fail
      refine (width_any _ _).mono ?_
      rw [show fWidth 4 = 2 from rfl]
      rintro e w1 ⟨rfl, rfl⟩
      go_wp2_with fail
      refine (width_any _ _).mono ?_
      rw [show fWidth 4 = 2 from rfl]
      rintro e w1 ⟨rfl, rfl⟩
      go_wp2_with fail
      refine HGL.out.mono ?_
      rintro e w2 ⟨rfl, hb⟩
      go_wp2
      go_ret3
      exact ⟨rfl, hb⟩
    rw [hgot] at HGL
    rw [Bool.true_and]
    cases hr : (decide (1 ≤ vl) && decide (vl ≤ (m : Int)))
    · have HR := Lib.hid hr
      rw [Bool.false_and, trip_no]
      clear hgot hr
      go_enter Tryz.func44, Tryz.ntmps44
      go_wp2_with fail
      refine (H1.out _).mono ?_
      rintro e w1 ⟨rfl, rfl⟩
      go_wp2_with fail
      refine (H2.out _).mono ?_
      rintro e w1 ⟨rfl, rfl⟩
      go_wp2_with fail
      refine (width_any _ _).mono ?_
      rw [show fWidth 4 = 2 from rfl]
      rintro e w1 ⟨rfl, rfl⟩
      go_wp2_with fail
      refine (width_any _ _).mono ?_
      rw [show fWidth 4 = 2 from rfl]
      rintro e w1 ⟨rfl, rfl⟩
      go_wp2_with fail
      refine HGL.out.mono ?_
      rintro e w2 ⟨rfl, hb⟩
      have HBB := Lib.hid hb
      have hz := hb.size
      clear hb
      go_wp2_with fail
      refine (l01In_any _ _ _ _).mono ?_
      rw [HR.out]
      rintro e w3 ⟨rfl, rfl⟩
      go_wp2
      go_ret3
      exact ⟨rfl, HBB.out⟩
    have HR := Lib.hid hr
    rw [Bool.true_and]
    have hr2 : 1 ≤ vl ∧ vl ≤ (m : Int) := by simpa using hr
    clear hgot hr
    obtain ⟨ex, rfl⟩ : ∃ ex : Nat, en = ex := ⟨en.toNat, by omega⟩
    obtain ⟨vm, rfl⟩ : ∃ vm : Nat, vl = vm := ⟨vl.toNat, by omega⟩
    obtain ⟨hr3, hr4⟩ := hr2
    obtain ⟨A, c, rfl, hc⟩ := H.out.form
    rcases Nat.lt_or_ge l.length ex with hx | hx
    · exact absurd hx (by omega)
    rcases Nat.lt_or_ge l.length (ex + vm) with hxm | hxm
    · rw [inR_no (l := l) (a := (ex : Int)) (n := (vm : Int)) (by omega), Bool.false_and, trip_no]
      have d1 : ¬ (l.length : Int) < (ex : Int) := by omega
      have d2 : (l.length : Int) - (ex : Int) < (vm : Int) := by omega
      go_enter Tryz.func44, Tryz.ntmps44
      go_wp2_with fail
      refine (H1.out _).mono ?_
      rintro e w1 ⟨rfl, rfl⟩
      go_wp2_with fail
      refine (H2.out _).mono ?_
      rintro e w1 ⟨rfl, rfl⟩
      go_wp2_with fail
      refine (width_any _ _).mono ?_
      rw [show fWidth 4 = 2 from rfl]
      rintro e w1 ⟨rfl, rfl⟩
      go_wp2_with fail
      refine (width_any _ _).mono ?_
      rw [show fWidth 4 = 2 from rfl]
      rintro e w1 ⟨rfl, rfl⟩
      go_wp2_with fail
      refine HGL.out.mono ?_
      rintro e w2 ⟨rfl, hb⟩
      have HBB := Lib.hid hb
      have hz := hb.size
      clear hb
      go_wp2_with fail
      refine (l01In_any _ _ _ _).mono ?_
      rw [HR.out]
      rintro e w3 ⟨rfl, rfl⟩
      go_wp2
      go_ret3
      exact ⟨rfl, HBB.out⟩
    have hin : inR l (ex : Int) (vm : Int) = true := by simp [inR]; omega
    have hl0 : 0 < l.length := by omega
    obtain ⟨b, off, rfl, -⟩ : ∃ b off, A = some ⟨b, off, none⟩ ∧ True := by
      obtain ⟨A', c', he, -, hj⟩ := H.out
      injection he with e1
      subst e1
      obtain ⟨b, off, e, -⟩ := hj 0 hl0
      exact ⟨b, off, e, trivial⟩
    rw [hin, Bool.true_and]
    have HPS := Lib.hid (fun W (hW : rd .u8 hi W (.slice (some ⟨b, off, none⟩) l.length c) l) => part_str (x := ex) (m := vm) hW hl0 hxm)
    have HTX : Hid (tPart l (ex : Int) (vm : Int) = tPart l (ex : Int) (vm : Int)) := Lib.hid rfl
    have HPL : Hid ((⟨(tPart l (ex : Int) (vm : Int)).toArray⟩ : ByteArray).size ≤ maxLen) := Lib.hid (by have := tPart_le l (ex : Int) (vm : Int); rw [str_size]; unfold maxLen; omega)
    rw [← HTX.out]
    have HEN : Hid ((ex : Int) + (vm : Int) = (ex : Int) + (vm : Int)) := Lib.hid rfl
    rw [HEN.out]
    have d1 : ¬ (l.length : Int) < (ex : Int) := by omega
    have d2 : ¬ (l.length : Int) - (ex : Int) < (vm : Int) := by omega
    have d3 : (ex : Int) + (vm : Int) ≤ (c : Int) := by omega
    have d4 : (0 : Int) ≤ (ex : Int) := by omega
    have d5 : (ex : Int) ≤ (ex : Int) + (vm : Int) := by omega
    have hcx : ¬ c = ex := by omega
    clear hin HTX HEN
    generalize tPart l (ex : Int) (vm : Int) = t at HPS HPL ⊢
    cases hp : prnS ⟨t.toArray⟩
    · have HP := Lib.hid hp
      rw [trip_no]
      clear hp
      go_enter Tryz.func44, Tryz.ntmps44
      go_wp2_with fail
      refine (H1.out _).mono ?_
      rintro e w1 ⟨rfl, rfl⟩
      go_wp2_with fail
      refine (H2.out _).mono ?_
      rintro e w1 ⟨rfl, rfl⟩
      go_wp2_with fail
      refine (width_any _ _).mono ?_
      rw [show fWidth 4 = 2 from rfl]
      rintro e w1 ⟨rfl, rfl⟩
      go_wp2_with fail
      refine (width_any _ _).mono ?_
      rw [show fWidth 4 = 2 from rfl]
      rintro e w1 ⟨rfl, rfl⟩
      go_wp2_with fail
      refine HGL.out.mono ?_
      rintro e w2 ⟨rfl, hb⟩
      have HBB := Lib.hid hb
      have hz := hb.size
      clear hb
      go_wp2_with fail
      refine (l01In_any _ _ _ _).mono ?_
      rw [HR.out]
      rintro e w3 ⟨rfl, rfl⟩
      have hst := HPS.out _ (H.out.below HBB.out hhi)
      have hst2 := hst
      rw [Nat.add_sub_cancel_left] at hst2
      go_wp2_with fail
      refine (specPrintable_any _ _ HPL.out).mono ?_
      rw [HP.out]
      rintro e w9 ⟨rfl, rfl⟩
      go_wp2
      go_ret3
      exact ⟨rfl, HBB.out⟩
    · have HP := Lib.hid hp
      rw [trip_yes]
      clear hp
      go_enter Tryz.func44, Tryz.ntmps44
      go_wp2_with fail
      refine (H1.out _).mono ?_
      rintro e w1 ⟨rfl, rfl⟩
      go_wp2_with fail
      refine (H2.out _).mono ?_
      rintro e w1 ⟨rfl, rfl⟩
      go_wp2_with fail
      refine (width_any _ _).mono ?_
      rw [show fWidth 4 = 2 from rfl]
      rintro e w1 ⟨rfl, rfl⟩
      go_wp2_with fail
      refine (width_any _ _).mono ?_
      rw [show fWidth 4 = 2 from rfl]
      rintro e w1 ⟨rfl, rfl⟩
      go_wp2_with fail
      refine HGL.out.mono ?_
      rintro e w2 ⟨rfl, hb⟩
      have HBB := Lib.hid hb
      have hz := hb.size
      clear hb
      go_wp2_with fail
      refine (l01In_any _ _ _ _).mono ?_
      rw [HR.out]
      rintro e w3 ⟨rfl, rfl⟩
      have hst := HPS.out _ (H.out.below HBB.out hhi)
      have hst2 := hst
      rw [Nat.add_sub_cancel_left] at hst2
      go_wp2_with fail
      refine (specPrintable_any _ _ HPL.out).mono ?_
      rw [HP.out]
      rintro e w9 ⟨rfl, rfl⟩
      go_wp2
      go_ret3
      exact ⟨rfl, HBB.out⟩
  · rw [getOk45 (kd := 5) (d := 3) (by omega)]
    have HRE : Hid (rawTxt 5 l (x : Int) (m : Int) = tPart l (lenEnd l (x : Int) 3) (lenVal l (x : Int) 3) ∧ rawEnd 5 l (x : Int) (m : Int) = lenEnd l (x : Int) 3 + lenVal l (x : Int) 3) := Lib.hid ⟨rfl, rfl⟩
    rw [HRE.out.1, HRE.out.2]
    have HGL := Lib.hid (specGetLen_any hi v l (x : Int) 3 w (by omega) ha HL.out H.out hhi)
    rw [lenRes_trip] at HGL
    have he := lenEnd_bd l (x : Int) 3
    have hv := lenVal_bd l (x : Int) 3
    clear HRE
    generalize lenEnd l (x : Int) 3 = en at HGL he ⊢
    generalize lenVal l (x : Int) 3 = vl at HGL hv ⊢
    cases hgot : lenGot l (x : Int) 3
    · rw [hgot] at HGL
      rw [Bool.false_and, Bool.false_and, trip_no]
      clear hgot
      go_enter Tryz.func44, Tryz.ntmps44
      go_wp2_with fail
      refine (H1.out _).mono ?_
      rintro e w1 ⟨rfl, rfl⟩
      go_wp2_with fail
      refine (H2.out _).mono ?_
      rintro e w1 ⟨rfl, rfl⟩
      go_wp2_with fail
      refine (width_any _ _).mono ?_
      rw [show fWidth 5 = 3 from rfl]
      rintro e w1 ⟨rfl, rfl⟩
      go_wp2_with fail
      refine (width_any _ _).mono ?_
      rw [show fWidth 5 = 3 from rfl]
      rintro e w1 ⟨rfl, rfl⟩
      go_wp2_with fail
      refine HGL.out.mono ?_
      rintro e w2 ⟨rfl, hb⟩
      go_wp2
      go_ret3
      exact ⟨rfl, hb⟩
    rw [hgot] at HGL
    rw [Bool.true_and]
    cases hr : (decide (1 ≤ vl) && decide (vl ≤ (m : Int)))
    · have HR := Lib.hid hr
      rw [Bool.false_and, trip_no]
      clear hgot hr
      go_enter Tryz.func44, Tryz.ntmps44
      go_wp2_with fail
      refine (H1.out _).mono ?_
      rintro e w1 ⟨rfl, rfl⟩
      go_wp2_with fail
      refine (H2.out _).mono ?_
      rintro e w1 ⟨rfl, rfl⟩
      go_wp2_with fail
      refine (width_any _ _).mono ?_
      rw [show fWidth 5 = 3 from rfl]
      rintro e w1 ⟨rfl, rfl⟩
      go_wp2_with fail
      refine (width_any _ _).mono ?_
      rw [show fWidth 5 = 3 from rfl]
      rintro e w1 ⟨rfl, rfl⟩
      go_wp2_with fail
      refine HGL.out.mono ?_
      rintro e w2 ⟨rfl, hb⟩
      have HBB := Lib.hid hb
      have hz := hb.size
      clear hb
      go_wp2_with fail
      refine (l01In_any _ _ _ _).mono ?_
      rw [HR.out]
      rintro e w3 ⟨rfl, rfl⟩
      go_wp2
      go_ret3
      exact ⟨rfl, HBB.out⟩
    have HR := Lib.hid hr
    rw [Bool.true_and]
    have hr2 : 1 ≤ vl ∧ vl ≤ (m : Int) := by simpa using hr
    clear hgot hr
    obtain ⟨ex, rfl⟩ : ∃ ex : Nat, en = ex := ⟨en.toNat, by omega⟩
    obtain ⟨vm, rfl⟩ : ∃ vm : Nat, vl = vm := ⟨vl.toNat, by omega⟩
    obtain ⟨hr3, hr4⟩ := hr2
    obtain ⟨A, c, rfl, hc⟩ := H.out.form
    rcases Nat.lt_or_ge l.length ex with hx | hx
    · exact absurd hx (by omega)
    rcases Nat.lt_or_ge l.length (ex + vm) with hxm | hxm
    · rw [inR_no (l := l) (a := (ex : Int)) (n := (vm : Int)) (by omega), Bool.false_and, trip_no]
      have d1 : ¬ (l.length : Int) < (ex : Int) := by omega
      have d2 : (l.length : Int) - (ex : Int) < (vm : Int) := by omega
      go_enter Tryz.func44, Tryz.ntmps44
      go_wp2_with fail
      refine (H1.out _).mono ?_
      rintro e w1 ⟨rfl, rfl⟩
      go_wp2_with fail
      refine (H2.out _).mono ?_
      rintro e w1 ⟨rfl, rfl⟩
      go_wp2_with fail
      refine (width_any _ _).mono ?_
      rw [show fWidth 5 = 3 from rfl]
      rintro e w1 ⟨rfl, rfl⟩
      go_wp2_with fail
      refine (width_any _ _).mono ?_
      rw [show fWidth 5 = 3 from rfl]
      rintro e w1 ⟨rfl, rfl⟩
      go_wp2_with fail
      refine HGL.out.mono ?_
      rintro e w2 ⟨rfl, hb⟩
      have HBB := Lib.hid hb
      have hz := hb.size
      clear hb
      go_wp2_with fail
      refine (l01In_any _ _ _ _).mono ?_
      rw [HR.out]
      rintro e w3 ⟨rfl, rfl⟩
      go_wp2
      go_ret3
      exact ⟨rfl, HBB.out⟩
    have hin : inR l (ex : Int) (vm : Int) = true := by simp [inR]; omega
    have hl0 : 0 < l.length := by omega
    obtain ⟨b, off, rfl, -⟩ : ∃ b off, A = some ⟨b, off, none⟩ ∧ True := by
      obtain ⟨A', c', he, -, hj⟩ := H.out
      injection he with e1
      subst e1
      obtain ⟨b, off, e, -⟩ := hj 0 hl0
      exact ⟨b, off, e, trivial⟩
    rw [hin, Bool.true_and]
    have HPS := Lib.hid (fun W (hW : rd .u8 hi W (.slice (some ⟨b, off, none⟩) l.length c) l) => part_str (x := ex) (m := vm) hW hl0 hxm)
    have HTX : Hid (tPart l (ex : Int) (vm : Int) = tPart l (ex : Int) (vm : Int)) := Lib.hid rfl
    have HPL : Hid ((⟨(tPart l (ex : Int) (vm : Int)).toArray⟩ : ByteArray).size ≤ maxLen) := Lib.hid (by have := tPart_le l (ex : Int) (vm : Int); rw [str_size]; unfold maxLen; omega)
    rw [← HTX.out]
    have HEN : Hid ((ex : Int) + (vm : Int) = (ex : Int) + (vm : Int)) := Lib.hid rfl
    rw [HEN.out]
    have d1 : ¬ (l.length : Int) < (ex : Int) := by omega
    have d2 : ¬ (l.length : Int) - (ex : Int) < (vm : Int) := by omega
    have d3 : (ex : Int) + (vm : Int) ≤ (c : Int) := by omega
    have d4 : (0 : Int) ≤ (ex : Int) := by omega
    have d5 : (ex : Int) ≤ (ex : Int) + (vm : Int) := by omega
    have hcx : ¬ c = ex := by omega
    clear hin HTX HEN
    generalize tPart l (ex : Int) (vm : Int) = t at HPS HPL ⊢
    cases hp : prnS ⟨t.toArray⟩
    · have HP := Lib.hid hp
      rw [trip_no]
      clear hp
      go_enter Tryz.func44, Tryz.ntmps44
      go_wp2_with fail
      refine (H1.out _).mono ?_
      rintro e w1 ⟨rfl, rfl⟩
      go_wp2_with fail
      refine (H2.out _).mono ?_
      rintro e w1 ⟨rfl, rfl⟩
      go_wp2_with fail
      refine (width_any _ _).mono ?_
      rw [show fWidth 5 = 3 from rfl]
      rintro e w1 ⟨rfl, rfl⟩
      go_wp2_with fail
      refine (width_any _ _).mono ?_
      rw [show fWidth 5 = 3 from rfl]
      rintro e w1 ⟨rfl, rfl⟩
      go_wp2_with fail
      refine HGL.out.mono ?_
      rintro e w2 ⟨rfl, hb⟩
      have HBB := Lib.hid hb
      have hz := hb.size
      clear hb
      go_wp2_with fail
      refine (l01In_any _ _ _ _).mono ?_
      rw [HR.out]
      rintro e w3 ⟨rfl, rfl⟩
      have hst := HPS.out _ (H.out.below HBB.out hhi)
      have hst2 := hst
      rw [Nat.add_sub_cancel_left] at hst2
      go_wp2_with fail
      refine (specPrintable_any _ _ HPL.out).mono ?_
      rw [HP.out]
      rintro e w9 ⟨rfl, rfl⟩
      go_wp2
      go_ret3
      exact ⟨rfl, HBB.out⟩
    · have HP := Lib.hid hp
      rw [trip_yes]
      clear hp
      go_enter Tryz.func44, Tryz.ntmps44
      go_wp2_with fail
      refine (H1.out _).mono ?_
      rintro e w1 ⟨rfl, rfl⟩
      go_wp2_with fail
      refine (H2.out _).mono ?_
      rintro e w1 ⟨rfl, rfl⟩
      go_wp2_with fail
      refine (width_any _ _).mono ?_
      rw [show fWidth 5 = 3 from rfl]
      rintro e w1 ⟨rfl, rfl⟩
      go_wp2_with fail
      refine (width_any _ _).mono ?_
      rw [show fWidth 5 = 3 from rfl]
      rintro e w1 ⟨rfl, rfl⟩
      go_wp2_with fail
      refine HGL.out.mono ?_
      rintro e w2 ⟨rfl, hb⟩
      have HBB := Lib.hid hb
      have hz := hb.size
      clear hb
      go_wp2_with fail
      refine (l01In_any _ _ _ _).mono ?_
      rw [HR.out]
      rintro e w3 ⟨rfl, rfl⟩
      have hst := HPS.out _ (H.out.below HBB.out hhi)
      have hst2 := hst
      rw [Nat.add_sub_cancel_left] at hst2
      go_wp2_with fail
      refine (specPrintable_any _ _ HPL.out).mono ?_
      rw [HP.out]
      rintro e w9 ⟨rfl, rfl⟩
      go_wp2
      go_ret3
      exact ⟨rfl, HBB.out⟩
end Go.Proofs.YtkkbhlaakhkjnaaGreatDoor
/- What Parse comes to, as plain data; no conditions. -/
set_option linter.unusedVariables false
namespace Go.Proofs.YtkkbhlaakhkjnaaGreatDoor
open Go.ChangeShapes Go.WideShapes Go.ChangeAt Go.RowKit

def gfOk (l : List Int) (a no : Int) : Bool := decide (fKind no ≠ 0) && getOk (fKind no) l a (fSize no)
def gfTxt (l : List Int) (a no : Int) : ByteArray := ⟨(rawTxt (fKind no) l a (fSize no)).toArray⟩
def gfEnd (l : List Int) (a no : Int) : Int := rawEnd (fKind no) l a (fSize no)
set_option maxRecDepth 100000 in
theorem get_yes {l : List Int} {a no : Int} (h : gfOk l a no = true) : getRes l a no = .returned (.tuple #[.string (gfTxt l a no), .int .i64 (gfEnd l a no), .bool true]) := by
  unfold gfOk at h
  simp only [Bool.and_eq_true, decide_eq_true_eq] at h
  unfold getRes
  rw [if_neg h.1, trip_on h.2]
  rfl
set_option maxRecDepth 100000 in
theorem get_no {l : List Int} {a no : Int} (h : gfOk l a no = false) : getRes l a no = .returned (.tuple #[.string ⟨#[]⟩, .int .i64 0, .bool false]) := by
  unfold gfOk at h
  unfold getRes
  by_cases hk : fKind no = 0
  · rw [if_pos hk, trip_of rfl]
  · rw [if_neg hk]
    simp only [hk, ne_eq, not_false_eq_true, decide_true, Bool.true_and] at h
    rw [trip_of h]
set_option maxRecDepth 100000 in
theorem gEnd_le {l : List Int} {a n : Int} (h : gOk l a n = true) : gEnd l a n ≤ l.length := by
  unfold gEnd
  rw [if_pos h]
  exact (gIn_bd (gOk_in h).1).2.2.2
set_option maxRecDepth 100000 in
theorem gfEnd_le {l : List Int} {a no : Int} (h : gfOk l a no = true) : gfEnd l a no ≤ l.length := by
  unfold gfOk getOk at h
  simp only [Bool.and_eq_true, decide_eq_true_eq] at h
  obtain ⟨-, h, -⟩ := h
  unfold gfEnd rawEnd
  unfold rawOk at h
  split at h
  · next h1 => rw [if_pos h1]; exact gEnd_le h
  · next h1 =>
    rw [if_neg h1]
    split at h
    · next h2 => rw [if_pos h2]; exact (inR_yes h).2.2
    · next h2 =>
      rw [if_neg h2]
      split at h
      · next h3 =>
        rw [if_pos h3]
        simp only [Bool.and_eq_true] at h
        exact gEnd_le h.2
      · next h3 =>
        rw [if_neg h3]
        split at h
        · next h4 => rw [if_pos h4]; simp only [Bool.and_eq_true] at h; exact (inR_yes h.2).2.2
        · next h4 => rw [if_neg h4]; simp only [Bool.and_eq_true] at h; exact (inR_yes h.2).2.2
abbrev PSt := Option (Int × List FieldD)
def pstep (l : List Int) (st : PSt) (no : Int) : PSt := st.bind fun p => if gfOk l p.1 no = true then some (gfEnd l p.1 no, p.2 ++ [(no, gfTxt l p.1 no)]) else none
def pst (l nos : List Int) (a : Int) (i : Nat) : PSt := (nos.take i).foldl (pstep l) (some (a, []))
set_option maxRecDepth 100000 in
theorem pst_next (l nos : List Int) (a : Int) (i : Nat) (x : Int) (h : nos[i]? = some x) : pst l nos a (i + 1) = pstep l (pst l nos a i) x := by
  unfold pst
  rw [take_snocI h, List.foldl_append]
  rfl
set_option maxRecDepth 100000 in
theorem fold_none (l : List Int) : ∀ nos : List Int, nos.foldl (pstep l) none = none := by
  intro nos
  induction nos with
  | nil => rfl
  | cons x nos ih => exact ih
set_option maxRecDepth 100000 in
theorem pst_none {l nos : List Int} {a : Int} {i : Nat} (hi : i ≤ nos.length) (h : pst l nos a i = none) : pst l nos a nos.length = none := by
  unfold pst at h ⊢
  rw [List.take_length]
  rw [← List.take_append_drop i nos, List.foldl_append, h]
  exact fold_none l _
set_option maxRecDepth 100000 in
theorem pst_len {l nos : List Int} {a : Int} : ∀ (i : Nat) (e : Int) (L : List FieldD), pst l nos a i = some (e, L) → L.length ≤ i := by
  intro i
  induction i with
  | zero => intro e L h; simp [pst] at h; simp [← h.2]
  | succ i ih =>
    intro e L h
    by_cases hi : i < nos.length
    · rw [pst_next l nos a i _ (List.getElem?_eq_getElem hi)] at h
      unfold pstep at h
      obtain ⟨⟨e', L'⟩, h1, h2⟩ := Option.bind_eq_some_iff.1 h
      have := ih e' L' h1
      split at h2
      · simp only [Option.some.injEq, Prod.mk.injEq] at h2
        rw [← h2.2]; simp; omega
      · cases h2
    · have : pst l nos a (i + 1) = pst l nos a i := by
        unfold pst; rw [List.take_of_length_le (by omega), List.take_of_length_le (by omega)]
      rw [this] at h
      have := ih e L h
      omega
/-- the message and the code -/
def parseRes (l : List Int) : MsgD × Int :=
  if gOk l 0 4 = false then ((⟨#[]⟩, []), 1) else if nosOk l = false then ((⟨#[]⟩, []), 2) else
  match pst l (nosL l) (nosE l) (nosL l).length with
  | none => ((⟨#[]⟩, []), 3)
  | some (e, L) => if e = l.length then ((⟨(gTxt l 0 4).toArray⟩, L), 0) else ((⟨#[]⟩, []), 4)
/-- a message and a code -/
def codeRes (r : MsgD × Int) (w : World) (e : Ending) (w' : World) : Prop := ∃ u, e = .returned (.tuple #[.agg #[.string r.1.1, u], .int .i64 r.2]) ∧ FieldsR.mine w.heap.size w'.heap.size w' [u] r.1.2 ∧ Below w.heap.size w w'
set_option maxRecDepth 100000 in
theorem nosE_le (l : List Int) : nosE l ≤ l.length := by
  have hb : ∀ a, bEnd l a ≤ l.length := fun a => by
    unfold bEnd bIn
    split
    · next h => simp only [Bool.and_eq_true, decide_eq_true_eq] at h; omega
    · omega
  unfold nosE nosEnd
  split
  · split <;> exact hb _
  · omega
set_option maxRecDepth 100000 in
theorem nosL_len (l : List Int) : (nosL l).length ≤ 128 := by
  unfold nosL nosRaw
  split
  · split
    · have h1 : (lowOnes (bGet l 2)).length ≤ 64 := Nat.le_trans (List.length_filter_le _ _) (bGet_len64 l 2)
      have h2 := bGet_len64 l (bEnd l 2)
      rw [List.length_append, List.length_map]; omega
    · have h1 : (lowOnes (bGet l 2)).length ≤ 64 := Nat.le_trans (List.length_filter_le _ _) (bGet_len64 l 2)
      omega
  · simp
end Go.Proofs.YtkkbhlaakhkjnaaGreatDoor
/- The bits that PutBits sets are those that GetBits reads. Plain facts; no conditions. -/
set_option linter.unusedVariables false
namespace Go.Proofs.YtkkbhlaakhkjnaaGreatDoor
open Go.ChangeShapes Go.WideShapes Go.ChangeAt Go.RowKit

set_option maxRecDepth 100000 in
theorem or_byte : ∀ x < 256, ∀ a < 8, (∀ c < 8, (decide (bits BinOp.or IntKind.u8 ((x : Nat) : Int) (128 / 2 ^ (a : Nat)) / 2 ^ (7 - c) % 2 = 1) = (decide (((x : Nat) : Int) / 2 ^ (7 - c) % 2 = 1) || decide (c = a)))) ∧ 0 ≤ bits BinOp.or IntKind.u8 ((x : Nat) : Int) (128 / 2 ^ (a : Nat)) ∧ bits BinOp.or IntKind.u8 ((x : Nat) : Int) (128 / 2 ^ (a : Nat)) ≤ 255 := by decide +kernel
def okB (p : List Int) : Prop := p.length = 8 ∧ ∀ i, 0 ≤ p.getD i 0 ∧ p.getD i 0 ≤ 255
set_option maxRecDepth 100000 in
theorem getD_set (p : List Int) (i j : Nat) (x : Int) (h : i < p.length) : (p.set i x).getD j 0 = if j = i then x else p.getD j 0 := by
  rw [List.getD_eq_getElem?_getD, List.getD_eq_getElem?_getD, List.getElem?_set]
  by_cases e : i = j
  · subst e; simp [h]
  · rw [if_neg e, if_neg (fun h => e h.symm)]
set_option maxRecDepth 100000 in
theorem setB_bit {p : List Int} (hp : okB p) {k : Int} (h1 : 1 ≤ k) (h2 : k ≤ 64) : okB (setB p k) ∧ ∀ i, i < 64 → bitAt (setB p k) i = (bitAt p i || decide ((i : Int) = k - 1)) := by
  obtain ⟨n, rfl⟩ : ∃ n : Nat, k = n + 1 := ⟨(k - 1).toNat, by omega⟩
  have e1 : ((n : Int) + 1 - 1) / 8 = (n / 8 : Nat) := by omega
  have e2 : ((n : Int) + 1 - 1) % 8 = (n % 8 : Nat) := by omega
  have hn : n < 64 := by omega
  have hset : setB p (n + 1) = p.set (n / 8) (bits BinOp.or IntKind.u8 (p.getD (n / 8) 0) (128 / 2 ^ (n % 8))) := by
    unfold setB wt
    rw [if_pos ⟨h1, h2⟩, e1, e2]
    rfl
  have hb := hp.2 (n / 8)
  obtain ⟨x, hx⟩ : ∃ x : Nat, p.getD (n / 8) 0 = x := ⟨(p.getD (n / 8) 0).toNat, by omega⟩
  obtain ⟨hc, hl, hu⟩ := or_byte x (by omega) (n % 8) (by omega)
  have hlen : n / 8 < p.length := by rw [hp.1]; omega
  refine ⟨⟨by rw [hset, List.length_set]; exact hp.1, fun i => ?_⟩, fun i hi => ?_⟩
  · rw [hset, getD_set _ _ _ _ hlen, hx]
    split
    · exact ⟨hl, hu⟩
    · exact hp.2 i
  · unfold bitAt
    rw [hset, getD_set _ _ _ _ hlen, hx]
    by_cases e : i / 8 = n / 8
    · rw [if_pos e, hc (i % 8) (by omega), e, hx]
      congr 1
      rw [decide_eq_decide]
      omega
    · rw [if_neg e]
      have : decide ((i : Int) = (n : Int) + 1 - 1) = false := by rw [decide_eq_false_iff_not]; omega
      rw [this, Bool.or_false]
set_option maxRecDepth 100000 in
theorem fold_bit (L : List Int) : ∀ p : List Int, okB p → (∀ k ∈ L, 1 ≤ k ∧ k ≤ 64) → okB (L.foldl setB p) ∧ ∀ i, i < 64 → bitAt (L.foldl setB p) i = (bitAt p i || decide ((i : Int) + 1 ∈ L)) := by
  induction L with
  | nil => intro p hp _; exact ⟨hp, fun i _ => by simp⟩
  | cons k L ih =>
    intro p hp hk
    have h1 := hk k (List.mem_cons_self ..)
    obtain ⟨g1, g2⟩ := setB_bit hp h1.1 h1.2
    obtain ⟨g3, g4⟩ := ih (setB p k) g1 (fun z hz => hk z (List.mem_cons_of_mem _ hz))
    refine ⟨g3, fun i hi => ?_⟩
    rw [List.foldl_cons, g4 i hi, g2 i hi, Bool.or_assoc]
    congr 1
    rw [← Bool.decide_or, decide_eq_decide, List.mem_cons]
    constructor
    · rintro (h | h)
      · exact .inl (by omega)
      · exact .inr h
    · rintro (h | h)
      · exact .inl (by omega)
      · exact .inr h
set_option maxRecDepth 100000 in
theorem zero_bit : okB (List.replicate 8 0) ∧ ∀ i, i < 64 → bitAt (List.replicate 8 0) i = false := by
  constructor
  · refine ⟨rfl, fun i => ?_⟩
    rw [List.getD_eq_getElem?_getD, List.getElem?_replicate]
    split <;> simp
  · decide +kernel
set_option maxRecDepth 100000 in
theorem putB_bit {L : List Int} (h : ∀ k ∈ L, 1 ≤ k ∧ k ≤ 64) : okB (putB L) ∧ ∀ i, i < 64 → bitAt (putB L) i = decide ((i : Int) + 1 ∈ L) := by
  obtain ⟨g1, g2⟩ := fold_bit L _ zero_bit.1 h
  exact ⟨g1, fun i hi => by show bitAt (L.foldl setB _) i = _; rw [g2 i hi, zero_bit.2 i hi, Bool.false_or]⟩
set_option maxRecDepth 100000 in
/-- ascending numbers are their own bitmap's -/
theorem up_filter : ∀ (n : Nat) (L : List Int), L.Pairwise (· < ·) → (∀ k ∈ L, 1 ≤ k ∧ k ≤ n) → ((List.range n).filter fun i : Nat => decide ((i : Int) + 1 ∈ L)).map (fun i : Nat => (i : Int) + 1) = L := by
  intro n
  induction n with
  | zero =>
    intro L _ hk
    cases L with
    | nil => rfl
    | cons k L => have := hk k (List.mem_cons_self ..); omega
  | succ n ih =>
    intro L hp hk
    rw [List.range_succ, List.filter_append, List.map_append]
    by_cases hm : (n : Int) + 1 ∈ L
    · obtain ⟨L', hL⟩ : ∃ L', L = L' ++ [(n : Int) + 1] := by
        have hne : L ≠ [] := fun e => by subst e; cases hm
        refine ⟨L.dropLast, ?_⟩
        have hlast := List.dropLast_concat_getLast hne
        have hle := hk _ (List.getLast_mem hne)
        by_cases e : L.getLast hne = (n : Int) + 1
        · rw [← e]; exact hlast.symm
        · exfalso
          rw [← hlast] at hm hp
          rw [List.pairwise_append] at hp
          rcases List.mem_append.1 hm with h | h
          · have := hp.2.2 _ h _ (List.mem_singleton.2 rfl)
            omega
          · exact e (List.mem_singleton.1 h).symm
      subst hL
      rw [List.pairwise_append] at hp
      have hlt : ∀ k ∈ L', k < (n : Int) + 1 := fun k hk' => hp.2.2 k hk' _ (List.mem_singleton.2 rfl)
      have e1 : (List.range n).filter (fun i : Nat => decide ((i : Int) + 1 ∈ L' ++ [(n : Int) + 1])) = (List.range n).filter (fun i : Nat => decide ((i : Int) + 1 ∈ L')) := by
        refine List.filter_congr fun i hi => ?_
        have hi' : i < n := by simpa using hi
        rw [decide_eq_decide, List.mem_append, List.mem_singleton]
        constructor
        · rintro (h | h)
          · exact h
          · omega
        · exact .inl
      rw [e1, ih L' hp.1 (fun k hk' => by have := hk k (List.mem_append_left _ hk'); have := hlt k hk'; omega)]
      simp
    · have e1 : [n].filter (fun i : Nat => decide ((i : Int) + 1 ∈ L)) = [] := by simp [hm]
      rw [e1, ih L hp (fun k hk' => by
        have h1 := hk k hk'
        have h2 : k ≠ (n : Int) + 1 := fun e => hm (e ▸ hk')
        omega)]
      simp
set_option maxRecDepth 100000 in
theorem getB_putB {L : List Int} (h : ∀ k ∈ L, 1 ≤ k ∧ k ≤ 64) (U : List Int) (hU : U.Pairwise (· < ·)) (hm : ∀ z, z ∈ L ↔ z ∈ U) : getB (putB L) 64 = U := by
  have hb := putB_bit h
  unfold getB
  have e : (List.range 64).filter (bitAt (putB L)) = (List.range 64).filter (fun i : Nat => decide ((i : Int) + 1 ∈ U)) := by
    refine List.filter_congr fun i hi => ?_
    rw [hb.2 i (by simpa using hi), decide_eq_decide]
    exact hm _
  rw [e]
  exact up_filter 64 U hU (fun k hk => h k ((hm k).2 hk))
end Go.Proofs.YtkkbhlaakhkjnaaGreatDoor
