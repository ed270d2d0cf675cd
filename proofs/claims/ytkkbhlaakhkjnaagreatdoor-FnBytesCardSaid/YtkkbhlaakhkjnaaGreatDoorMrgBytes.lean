/- append of a whole slice as a step of a region that draws its order; a row that lies in one block; no conditions. -/
import Derived.Test.YtkkbhlaakhkjnaaGreatDoorAppAll
import Derived.Deep.RegionLaw
import Derived.Test.YtkkbhlaakhkjnaaGreatDoorMrg2
import Derived.Test.YtkkbhlaakhkjnaaGreatDoorMrg4
import Derived.Test.YtkkbhlaakhkjnaaGreatDoorMrgSmall
set_option linter.unusedVariables false
namespace Go.Proofs.YtkkbhlaakhkjnaaGreatDoor
open Go.ChangeShapes Go.WideShapes Go.ChangeAt Go.RowKit

section
variable {P : Program} (w : World)
set_option maxRecDepth 100000 in
/-- .. as a step of a region that draws its order (for go_region_law) -/
theorem app_all_step {ops : Array Oper} {o : Oper} {a : Act} {Kn : Act → World → Prop} {Q : Exit → Act → World → Prop} {E : Prop} (hgd : o.guard = none) (s x : Operand) (t : TypeId)
    (ho : o.op = .call { callee := .builtin .append, args := #[s, x], argTypes := #[t, t] })
    (base : Nat) (e : TypeId) (K : IntKind) (bytes : Nat) (ht : P.underlying t = some (.slice e)) (hinfo : (P.info? e).map (fun i => (i.zero, i.size, i.bytes)) = some (some (.int K 0), 1, bytes))
    (v : Value) (l : List Int) (hs : a.eval s = v) (u : Value) (hx : a.eval x = u) (hown : ow e K base w v l) (hi : Nat) (m : List Int) (hr : rd K hi w u m)
    (h63 : l.length + m.length ≤ maxLen) (hbytes : (l.length + m.length) * bytes ≤ 140737488355328) (hbase : base ≤ w.heap.size)
    (h : ∀ v' w', ow e K base w' v' (l ++ m) → w.grownBy w' v.ownBlock → Below base w w' → Kn (a.put o.dst v') w') : if Region.wanted o (yielded ops a.tmps) = true then o.wp P a w Kn Q else E := by
  rw [if_pos (by simp [Region.wanted, hgd])]
  exact wp_app_all w s x t ho base e K bytes ht hinfo v l hs hown hi u m hx hr h63 hbytes hbase fun v' w' h2 h3 => h v' w' h2 h3 ((Below.refl base w).grown h3 hbase fun k hk => (hown.lt k hk).1)
end
set_option maxRecDepth 100000 in
theorem ow_at {W : World} {n : Nat} {c : Int} {T : TypeId} {K : IntKind} {B : Nat} (h : W.heap[n]? = some (.cells #[.int K c] T (0, 0))) (hB : B ≤ n) : ow T K B W (.slice (some ⟨n, 0, none⟩) 1 1) [c] :=
  ⟨rfl, Or.inr ⟨n, 1, #[.int K c], rfl, hB, h, Nat.le_refl _, by decide, rfl, rfl⟩⟩
set_option maxRecDepth 100000 in
theorem rd_at {W : World} {n : Nat} {c : Int} {T : TypeId} {K : IntKind} (h : W.heap[n]? = some (.cells #[.int K c] T (0, 0))) : rd K W.heap.size W (.slice (some ⟨n, 0, none⟩) 1 1) [c] := (ow_at (B := 0) h (Nat.zero_le _)).nums.rd
end Go.Proofs.YtkkbhlaakhkjnaaGreatDoor
/- Encode of the reference of a right message: the bytes lie in a row of the call's own; no conditions. -/
set_option linter.unusedVariables false
namespace Go.Proofs.YtkkbhlaakhkjnaaGreatDoor
open Go.ChangeShapes Go.WideShapes Go.ChangeAt Go.RowKit

set_option maxRecDepth 100000 in
set_option maxHeartbeats 16000000 in
theorem specEncode_own (hi : Nat) (v : Value) (m : MsgD) (w : World) (hm : m.1.size ≤ 1048576) (hn : m.2.length ≤ 1048576) (hs : ∀ x ∈ m.2, x.2.size ≤ 1048576) (h : FieldsR.rd hi w [v] m.2) (hh : hi ≤ w.heap.size) (hok : msgOk m = true) :
    Calls Tryz.prog 10 #[.agg #[.string m.1, v]] w fun e w' => ∃ v, e = .returned (.tuple #[v, .bool true]) ∧ ow 5 .u8 w.heap.size w' v (encL m) ∧ Below w.heap.size w w' := by
  obtain ⟨A, c, rfl, hc, h'⟩ := fields_rd h
  have HR := Lib.hid h'
  have HOK := Lib.hid (fun (W : World) (hW : Below w.heap.size w W) => specMsgOk_any hi (.slice A m.2.length c) m W (by unfold maxLen; omega) hn (fun x hx => by have := hs x hx; unfold maxLen; omega) (Rep.below (R := FieldsR) h hW hh) (Nat.le_trans hh hW.size))
  clear h' hs h
  have HB0 : Hid (∀ o1, Below w.heap.size w (w.alloc o1)) := Lib.hid fun o1 => (Below.refl _ _).alloc (Nat.le_refl _) o1
  have HM : Hid (encL m = bcd m.1 ++ bitsL m.2 ++ bodyL m.2) := Lib.hid (by simp [encL, hok])
  have hmt : mtiOk m.1 = true ∧ listOk m.2 = true := by simpa [msgOk] using hok
  have hbo : bcdOk m.1 = true := by have := hmt.1; simp [mtiOk] at this; simp [bcdOk, this]
  have hf : ∀ (j : Nat) (x : FieldD), m.2[j]? = some x → fOk x.1 x.2 = true := fun j x hx => by
    have hj := (List.getElem?_eq_some_iff.1 hx).1
    have := listOk_at hmt.2 j hj
    unfold stepOk at this
    rw [getD_of hx] at this
    simp only [Bool.and_eq_true] at this
    exact this.1
  have h60 : ∀ x ∈ m.2, x.2.size ≤ 60 := fun x hx => by
    obtain ⟨j, hj⟩ := List.mem_iff_getElem?.1 hx
    exact fOk_60 (hf j x hj)
  have HF := Lib.hid hf
  have HBC := Lib.hid (fun W => specPutBcd_any m.1 W (by omega))
  have hbl := bcd_len m.1
  rw [hbo] at HBC
  rw [hok] at HOK
  have H60 := Lib.hid h60
  clear hok hmt hbo hf h60
  go_enter Tryz.func10, Tryz.ntmps10
  go_wp2_with fail
  refine (HOK.out _ (HB0.out _)).mono ?_
  rintro e w1 ⟨rfl, hb⟩
  have hz1 : w.heap.size + 1 ≤ w1.heap.size := by have := hb.size; simpa using this
  have b0 : w1.cell? ⟨w.heap.size, 0, none⟩ = some (.string m.1) := (hb.cell (p := ⟨w.heap.size, 0, none⟩) (by simp)).trans (by simp)
  have b1 : w1.cell? ⟨w.heap.size, 1, none⟩ = some (.slice A m.2.length c) := (hb.cell (p := ⟨w.heap.size, 1, none⟩) (by simp)).trans (by simp)
  have HBX : Hid (∀ wr, Below (w.heap.size + 1) w1 wr → wr.cell? ⟨w.heap.size, 0, none⟩ = some (.string m.1) ∧ wr.cell? ⟨w.heap.size, 1, none⟩ = some (.slice A m.2.length c)) := Lib.hid fun wr hw =>
    ⟨(hw.cell (p := ⟨_, 0, none⟩) (show w.heap.size < _ by omega)).trans b0, (hw.cell (p := ⟨_, 1, none⟩) (show w.heap.size < _ by omega)).trans b1⟩
  have HB : Hid (Below w.heap.size w w1) := Lib.hid ((HB0.out _).trans (hb.mono (by simp)))
  have hlt0 : w.heap.size < w1.heap.size := by omega
  clear hb
  go_wp2
  go_loopw [4, 5, 22] (fun lv hv iv wr => ∃ (i : Nat) (A1 : Option Addr) (c1 : Nat) (A2 : Option Addr) (c2 : Nat) (lo hg : List Int), i ≤ m.2.length ∧ iv = .int .i64 i ∧ lv = .slice A1 lo.length c1 ∧ hv = .slice A2 hg.length c2 ∧ Hid (lo = lows (m.2.take i) ∧ hg = highs (m.2.take i)) ∧ Hid (owE 3 1 iCells (w.heap.size + 1) wr (.slice A1 lo.length c1) lo) ∧ Hid (owE 3 1 iCells (w.heap.size + 1) wr (.slice A2 hg.length c2) hg) ∧ Hid (∀ g, (Value.slice A1 lo.length c1).ownBlock = some g → (Value.slice A2 hg.length c2).ownBlock ≠ some g) ∧ Hid (Below (w.heap.size + 1) w1 wr) ∧ w1.heap.size ≤ wr.heap.size) (fun _ _ iv _ => m.2.length - (intOf iv).toNat)
  case atStart => exact ⟨0, _, 0, _, 0, [], [], Nat.zero_le _, rfl, rfl, rfl, Lib.hid ⟨rfl, rfl⟩, Lib.hid ((owE_empty _ 1 _ iCells w1 (by omega)).alloc _), Lib.hid (by simpa using owE_empty 3 1 (w.heap.size + 1) iCells (w1.alloc (.cells #[] 3)) (by simp; omega)), Lib.hid (fun g hg e => by cases hg; simp [Value.ownBlock] at e), Lib.hid (((Below.refl (w.heap.size + 1) w1).alloc (by omega) (.cells #[] 3)).alloc (by simp; omega) (.cells #[] 3)), by simp; omega⟩
  case round =>
    obtain ⟨i, A1, c1, A2, c2, lo, hg, hi', rfl, rfl, rfl, HL, HO1, HO2, HAP, HBW, hz⟩ := hrel
    have hl1 : lo.length ≤ 1048576 := by rw [HL.out.1]; have := lows_len (m.2.take i); have := List.length_take_le i m.2; omega
    have hl2 : hg.length ≤ 1048576 := by rw [HL.out.2]; have := highs_len (m.2.take i); have := List.length_take_le i m.2; omega
    by_cases hin : i < m.2.length
    · obtain ⟨x, hx⟩ : ∃ x, m.2[i]? = some x := ⟨_, List.getElem?_eq_getElem hin⟩
      obtain ⟨b, off, rfl, hbl', d0, d1⟩ := HR.out i x hx
      have HWW : Hid (Below w.heap.size w wr) := Lib.hid (HB.out.trans (HBW.out.mono (by omega)))
      have d0 := (HWW.out.cell (p := ⟨b, off + i * 2, none⟩) (show b < w.heap.size by omega)).trans d0
      have d1 := (HWW.out.cell (p := ⟨b, off + i * 2 + 1, none⟩) (show b < w.heap.size by omega)).trans d1
      obtain ⟨hr1, hr2⟩ := fOk_range (HF.out i x hx)
      have HX := Lib.hid (take_snocF hx)
      have g1 : (i : Int) < (m.2.length : Int) := by omega
      have g2 : 0 ≤ (i : Int) := by omega
      clear hx
      by_cases h64 : 64 < x.1
      · have hlt' := h64
        go_wp2_with (at_builtin; refine app_elem iCells 1 (fun _ => rfl) (by decide) iCells_one 53 3 #[.int .i64 0] 8 Tryz.underlying53 infoInt rfl _ _ rfl (by rfl) (w.heap.size + 1) _ _ hg (x.1 - 64) _ _ (by rfl) (by rfl) (by rfl) (by simp) (HO2.out.alloc _) (by unfold maxLen; omega) (by omega) (by first | omega | (simp; omega)) ?_)
        intro A3 c3 w3 hown3 hc3 hg3 hlies
        have hz3 : wr.heap.size + 2 ≤ w3.heap.size := by have := hg3.size; simp at this; omega
        have HNO : Hid (owE 3 1 iCells (w.heap.size + 1) w3 (.slice A1 lo.length c1) lo) := Lib.hid (((HO1.out.alloc _).alloc _).grown hg3 (fun g hg' e => HAP.out g hg' e))
        have HAP3 : Hid (∀ g, (Value.slice A1 lo.length c1).ownBlock = some g → (Value.slice A3 (hg.length + 1) c3).ownBlock ≠ some g) := Lib.hid (apart_new hlies HAP.out (fun g hg' => by have := (HO1.out.lt g hg').2; simp; omega))
        have HB3 : Hid (Below (w.heap.size + 1) w1 w3) := Lib.hid (((HBW.out.alloc (by omega) _).alloc (by simp; omega) _).grown hg3 (by simp; omega) (fun g hg' => (HO2.out.lt g hg').1))
        have HO3 := Lib.hid hown3
        clear hown3 hg3 hlies
        go_wp2
        go_roundw
        case rel => exact ⟨i + 1, A1, c1, A3, c3, lo, hg ++ [x.1 - 64], by omega, by go_num, rfl, by rw [List.length_append]; rfl, Lib.hid ⟨by rw [HX.out, lows_snoc, if_neg (by omega)]; exact HL.out.1, by rw [HX.out, highs_snoc, if_pos h64, ← HL.out.2]⟩, HNO, Lib.hid (by rw [List.length_append]; exact HO3.out), Lib.hid (by rw [List.length_append]; exact HAP3.out), HB3, by omega⟩
        case measure => simp [intOf] <;> omega
      · have hle' : x.1 ≤ 64 := by omega
        go_wp2_with (at_builtin; refine app_elem iCells 1 (fun _ => rfl) (by decide) iCells_one 53 3 #[.int .i64 0] 8 Tryz.underlying53 infoInt rfl _ _ rfl (by rfl) (w.heap.size + 1) _ _ lo x.1 _ _ (by rfl) (by rfl) (by rfl) (by simp) (HO1.out.alloc _) (by unfold maxLen; omega) (by omega) (by first | omega | (simp; omega)) ?_)
        intro A3 c3 w3 hown3 hc3 hg3 hlies
        have hz3 : wr.heap.size + 2 ≤ w3.heap.size := by have := hg3.size; simp at this; omega
        have HNO : Hid (owE 3 1 iCells (w.heap.size + 1) w3 (.slice A2 hg.length c2) hg) := Lib.hid (((HO2.out.alloc _).alloc _).grown hg3 (fun g hg' e => HAP.out g e hg'))
        have HAP3 : Hid (∀ g, (Value.slice A3 (lo.length + 1) c3).ownBlock = some g → (Value.slice A2 hg.length c2).ownBlock ≠ some g) := Lib.hid (apart_comm (apart_new hlies (apart_comm HAP.out) (fun g hg' => by have := (HO2.out.lt g hg').2; simp; omega)))
        have HB3 : Hid (Below (w.heap.size + 1) w1 w3) := Lib.hid (((HBW.out.alloc (by omega) _).alloc (by simp; omega) _).grown hg3 (by simp; omega) (fun g hg' => (HO1.out.lt g hg').1))
        have HO3 := Lib.hid hown3
        clear hown3 hg3 hlies
        go_wp2
        go_roundw
        case rel => exact ⟨i + 1, A3, c3, A2, c2, lo ++ [x.1], hg, by omega, by go_num, by rw [List.length_append]; rfl, rfl, Lib.hid ⟨by rw [HX.out, lows_snoc, if_pos (by omega), ← HL.out.1], by rw [HX.out, highs_snoc, if_neg (by omega)]; exact HL.out.2⟩, Lib.hid (by rw [List.length_append]; exact HO3.out), HNO, Lib.hid (by rw [List.length_append]; exact HAP3.out), HB3, by omega⟩
        case measure => simp [intOf] <;> omega
    · obtain rfl : i = m.2.length := by omega
      have HLL : Hid (lo = lows m.2 ∧ hg = highs m.2) := Lib.hid (by have := HL.out; rwa [List.take_length] at this)

      obtain ⟨e0, e1⟩ := HBX.out wr HBW.out
      go_wp2_with fail
      refine (HBC.out _).mono ?_
      rintro e w2 ⟨u, rfl, hu, hb2⟩
      obtain ⟨A4, c4, rfl, hc4⟩ := hu.nums.form
      have hz2 : wr.heap.size ≤ w2.heap.size := hb2.size
      have HU := Lib.hid hu
      have HB2 : Hid (Below (w.heap.size + 1) w1 w2) := Lib.hid (HBW.out.trans (hb2.mono (by omega)))
      have HP1 := Lib.hid (HO1.out.below hb2 (Nat.le_refl _))
      have HP2 := Lib.hid (HO2.out.below hb2 (Nat.le_refl _))
      have HQ1 := Lib.hid HO1.out.lt
      have HQ2 : Hid (∀ g, (Value.slice A2 hg.length c2).ownBlock = some g → g < wr.heap.size) := Lib.hid (fun g hg' => (HO2.out.lt g hg').2)
      clear hu hb2 HO1 HO2
      by_cases hh0 : hg = []
      · have HBits : Hid (bcd m.1 ++ bitsL m.2 = bcd m.1 ++ putB lo) := Lib.hid (by unfold bitsL; rw [← HLL.out.2, if_pos hh0, ← HLL.out.1])
        subst hh0
        go_wp2_with fail
        refine (specPutBits_any w2.heap.size _ lo w2 (by omega) HP1.out.ints.nums.rd (Nat.le_refl _)).mono ?_
        rintro e w3 ⟨v3, rfl, hv3, hb3⟩
        obtain ⟨A8, c8, rfl, hc8⟩ := hv3.form
        have hz3 : w2.heap.size ≤ w3.heap.size := hb3.size
        have HV3 := Lib.hid hv3.rd
        have HU3 := Lib.hid (HU.out.below hb3 (Nat.le_refl _))
        have HB3 : Hid (Below (w.heap.size + 1) w1 w3) := Lib.hid (HB2.out.trans (hb3.mono (by omega)))
        have h8 := putB_len8 lo
        have h8' : (putB lo).length ≤ 8 := by omega
        clear hv3 hb3 h8
        go_wp2_with (at_builtin; refine app_all w3 rfl _ _ 26 rfl (w.heap.size + 1) 5 .u8 1 Tryz.underlying26 infoU8c _ (bcd m.1) rfl (HU3.out.mono (show w.heap.size + 1 ≤ wr.heap.size by omega)) w3.heap.size _ (putB lo) (by rfl) (HV3.out) (by unfold maxLen; omega) (by omega) (by omega) ?_)
        intro v4 w4 hown4 hg4 hb4
        obtain ⟨A9, c9, hv9, hc9⟩ := hown4.nums.form
        subst hv9
        have hz4 : w3.heap.size ≤ w4.heap.size := hg4.size
        have HO4 := Lib.hid hown4
        have HB4 : Hid (Below (w.heap.size + 1) w1 w4) := Lib.hid (HB3.out.trans hb4)
        have hP : (bcd m.1 ++ putB lo).length ≤ 100 := by rw [List.length_append]; omega
        clear hown4 hg4 hb4
        generalize bcd m.1 ++ putB lo = P at HO4 HBits hP
        obtain ⟨e0', e1'⟩ := HBX.out _ HB4.out
        have hPl := hP
        clear e0 e1
        go_wp2
        go_loopw [8, 67] (fun bv iv wr => ∃ (i : Nat) (A5 : Option Addr) (c5 : Nat) (L : List Int), i ≤ m.2.length ∧ iv = .int .i64 i ∧ bv = .slice A5 L.length c5 ∧ Hid (L = P ++ bodyL (m.2.take i)) ∧ L.length ≤ 100 + 1048700 * i ∧ Hid (ow 5 .u8 (w.heap.size + 1) wr (.slice A5 L.length c5) L) ∧ Hid (Below (w.heap.size + 1) w1 wr) ∧ w1.heap.size ≤ wr.heap.size) (fun _ iv _ => m.2.length - (intOf iv).toNat)
        case atStart => exact ⟨0, _, _, P, Nat.zero_le _, rfl, rfl, Lib.hid (by simp [bodyL]), by omega, HO4, HB4, by omega⟩
        case round =>
          obtain ⟨i, A5, c5, L, hi5, rfl, rfl, HL5, hL5, HO5, HB5, hz5⟩ := hrel
          by_cases hin : i < m.2.length
          · obtain ⟨x, hx⟩ : ∃ x, m.2[i]? = some x := ⟨_, List.getElem?_eq_getElem hin⟩
            obtain ⟨b, off, rfl, hbl', d0, d1⟩ := HR.out i x hx
            have HWW : Hid (Below w.heap.size w wr) := Lib.hid (HB.out.trans (HB5.out.mono (by omega)))
            have d0 := (HWW.out.cell (p := ⟨b, off + i * 2, none⟩) (show b < w.heap.size by omega)).trans d0
            have d1 := (HWW.out.cell (p := ⟨b, off + i * 2 + 1, none⟩) (show b < w.heap.size by omega)).trans d1
            have hxs := H60.out x (List.mem_of_getElem? hx)
            have HXF := Lib.hid (HF.out i x hx)
            have HX := Lib.hid (take_snocF hx)
            have g1 : (i : Int) < (m.2.length : Int) := by omega
            have g2 : 0 ≤ (i : Int) := by omega
            have hpl := putFL_len x.1 x.2 (by omega)
            clear hx
            go_wp2_with fail
            refine (specPutField_any x.1 x.2 _ (by omega)).mono ?_
            rw [HXF.out]
            rintro e w6 ⟨u6, rfl, hu6, hb6⟩
            obtain ⟨A6, c6, rfl, hc6⟩ := hu6.form
            have HU6 := Lib.hid hu6.rd
            have hz6 : wr.heap.size + 1 ≤ w6.heap.size := by have := hb6.size; simpa using this
            have HB6 : Hid (Below (w.heap.size + 1) w1 w6) := Lib.hid ((HB5.out.alloc (by omega) _).trans (hb6.mono (by simp; omega)))
            have HO6 : Hid (ow 5 .u8 (w.heap.size + 1) w6 (.slice A5 L.length c5) L) := Lib.hid ((HO5.out.below ((Below.refl _ _).alloc (Nat.le_refl _) _) (Nat.le_refl _)).below hb6 (by simp))
            clear hu6 hb6
            go_wp2_with (at_builtin; refine app_all w6 rfl _ _ 26 rfl (w.heap.size + 1) 5 .u8 1 Tryz.underlying26 infoU8c _ L rfl (HO6.out) w6.heap.size _ (putFL x.1 x.2) (by rfl) (HU6.out) (by unfold maxLen; omega) (by omega) (by omega) ?_)
            intro v7 w7 hown7 hg7 hb7
            obtain ⟨A7, c7, hv7, hc7⟩ := hown7.nums.form
            subst hv7
            have hz7 := hb7.size
            have hz7' : w6.heap.size ≤ w7.heap.size := hg7.size
            have HO7 := Lib.hid hown7
            have HB7 : Hid (Below (w.heap.size + 1) w1 w7) := Lib.hid (HB6.out.trans hb7)
            clear hown7 hg7 hb7
            go_wp2
            go_roundw
            case rel => exact ⟨i + 1, A7, c7, L ++ putFL x.1 x.2, by omega, by go_num, rfl, Lib.hid (by rw [HX.out, bodyL_snoc, HL5.out, List.append_assoc]), by rw [List.length_append]; omega, HO7, HB7, by omega⟩
            case measure => simp [intOf] <;> omega
          · obtain rfl : i = m.2.length := by omega
            have HE : Hid (L = P ++ bodyL m.2) := Lib.hid (by have := HL5.out; rwa [List.take_length] at this)
            go_wp2
            go_ret2
            have hLE : L = encL m := by rw [HE.out, ← HBits.out, ← HM.out]
            refine ⟨.slice A5 L.length c5, rfl, ?_, HB.out.trans (HB5.out.mono (by omega))⟩
            have hq := HO5.out.mono (show w.heap.size ≤ w.heap.size + 1 by omega)
            rw [← hLE]
            exact hq
      · have HBits : Hid (bcd m.1 ++ bitsL m.2 = bcd m.1 ++ (putB (lo ++ [1]) ++ putB hg)) := Lib.hid (by unfold bitsL; rw [← HLL.out.2, if_neg hh0, ← HLL.out.1])
        have hpos : 0 < hg.length := List.length_pos_iff.2 hh0
        have hpos' : (0 : Int) < (hg.length : Int) := by omega
        go_wp2_with (at_builtin; refine app_elem iCells 1 (fun _ => rfl) (by decide) iCells_one 53 3 #[.int .i64 0] 8 Tryz.underlying53 infoInt rfl _ _ rfl (by rfl) (w.heap.size + 1) _ _ lo 1 _ _ (by rfl) (by rfl) (by rfl) (by simp) (HP1.out) (by unfold maxLen; omega) (by omega) (by first | omega | (simp; omega)) ?_)
        intro A3 c3 w3 hown3 hc3 hg3 hlies
        have hz3 : w2.heap.size + 1 ≤ w3.heap.size := by have := hg3.size; simpa using this
        have HP2' : Hid (owE 3 1 iCells (w.heap.size + 1) w3 (.slice A2 hg.length c2) hg) := Lib.hid ((HP2.out.alloc _).grown hg3 (fun g hg' e => HAP.out g e hg'))
        have HU3 : Hid (ow 5 .u8 (w.heap.size + 1) w3 (.slice A4 (bcd m.1).length c4) (bcd m.1)) := Lib.hid (((HU.out.below ((Below.refl _ _).alloc (Nat.le_refl _) _) (Nat.le_refl _)).grownRow hg3 (fun g h1 h2 => by have h3 := (HQ1.out g h2).2; have h4 := HU.out.from g h1; omega)).mono (by omega))
        have HB3 : Hid (Below (w.heap.size + 1) w1 w3) := Lib.hid ((HB2.out.alloc (by omega) _).grown hg3 (by simp; omega) (fun g hg' => (HQ1.out g hg').1))
        have HO3 := Lib.hid hown3.ints
        have hl3 : (lo ++ [1]).length = lo.length + 1 := by simp
        clear hown3 hg3 hlies
        rw [← hl3] at HO3 ⊢
        have hll3 : (lo ++ [1]).length ≤ 1048577 := by omega
        clear hl3
        generalize lo ++ [1] = lo3 at HO3 hll3 HBits ⊢
        go_wp2_with fail
        refine (specPutBits_any w3.heap.size _ lo3 w3 (by omega) HO3.out.nums.rd (Nat.le_refl _)).mono ?_
        rintro e w4 ⟨v4, rfl, hv4, hb4⟩
        obtain ⟨A8, c8, rfl, hc8⟩ := hv4.form
        have hz4 : w3.heap.size ≤ w4.heap.size := hb4.size
        have HV4 := Lib.hid hv4.rd
        have HU4 := Lib.hid (HU3.out.below hb4 (Nat.le_refl _))
        have HP4 := Lib.hid (HP2'.out.below hb4 (Nat.le_refl _))
        have HB4 : Hid (Below (w.heap.size + 1) w1 w4) := Lib.hid (HB3.out.trans (hb4.mono (by omega)))
        have HR4 : Hid (∀ g, (Value.slice A4 (bcd m.1).length c4).ownBlock = some g → wr.heap.size ≤ g) := Lib.hid (fun g hg' => HU.out.from g hg')
        have HR5 : Hid (∀ g, (Value.slice A2 hg.length c2).ownBlock = some g → g < wr.heap.size) := Lib.hid HQ2.out
        have h8 := putB_len8 lo3
        have h8' : (putB lo3).length ≤ 8 := by omega
        clear hv4 hb4 h8
        go_wp2_with (at_builtin; refine app_all w4 rfl _ _ 26 rfl (w.heap.size + 1) 5 .u8 1 Tryz.underlying26 infoU8c _ (bcd m.1) rfl (HU4.out) w4.heap.size _ (putB lo3) (by rfl) (HV4.out) (by unfold maxLen; omega) (by omega) (by omega) ?_)
        intro v5 w5 hown5 hg5 hb5
        obtain ⟨A9, c9, hv9, hc9⟩ := hown5.nums.form
        subst hv9
        have hz5 : w4.heap.size ≤ w5.heap.size := hg5.size
        have HO5 := Lib.hid hown5
        have HP5 := Lib.hid ((HP4.out.grown hg5 (fun g h1 h2 => by have := HR4.out g h2; have := HR5.out g h1; omega)).ints.nums.rd)
        have HB5 : Hid (Below (w.heap.size + 1) w1 w5) := Lib.hid (HB4.out.trans hb5)
        have hP : (bcd m.1 ++ putB lo3).length ≤ 50 := by rw [List.length_append]; omega
        have HBits2 : Hid (bcd m.1 ++ bitsL m.2 = bcd m.1 ++ putB lo3 ++ putB hg) := Lib.hid (by rw [HBits.out, List.append_assoc])
        clear hown5 hg5 hb5 HBits
        generalize bcd m.1 ++ putB lo3 = P5 at HO5 HBits2 hP ⊢
        go_wp2_with fail
        refine (specPutBits_any w5.heap.size _ hg w5 (by omega) HP5.out (Nat.le_refl _)).mono ?_
        rintro e w6 ⟨v6, rfl, hv6, hb6⟩
        obtain ⟨A10, c10, rfl, hc10⟩ := hv6.form
        have hz6 : w5.heap.size ≤ w6.heap.size := hb6.size
        have HV6 := Lib.hid hv6.rd
        have HU6 := Lib.hid (HO5.out.below hb6 (Nat.le_refl _))
        have HB6 : Hid (Below (w.heap.size + 1) w1 w6) := Lib.hid (HB5.out.trans (hb6.mono (by omega)))
        have h9 := putB_len8 hg
        have h9' : (putB hg).length ≤ 8 := by omega
        clear hv6 hb6 h9
        go_wp2_with (at_builtin; refine app_all w6 rfl _ _ 26 rfl (w.heap.size + 1) 5 .u8 1 Tryz.underlying26 infoU8c _ P5 rfl (HU6.out) w6.heap.size _ (putB hg) (by rfl) (HV6.out) (by unfold maxLen; omega) (by omega) (by omega) ?_)
        intro v7 w7 hown7 hg7 hb7
        obtain ⟨A11, c11, hv11, hc11⟩ := hown7.nums.form
        subst hv11
        have hz7 : w6.heap.size ≤ w7.heap.size := hg7.size
        have HO7 := Lib.hid hown7
        have HB7 : Hid (Below (w.heap.size + 1) w1 w7) := Lib.hid (HB6.out.trans hb7)
        have hP7 : (P5 ++ putB hg).length ≤ 100 := by rw [List.length_append]; omega
        clear hown7 hg7 hb7
        generalize P5 ++ putB hg = P at HO7 HBits2 hP7 ⊢
        have HBits := HBits2
        obtain ⟨e0', e1'⟩ := HBX.out _ HB7.out
        have hPl := hP7
        clear e0 e1
        go_wp2
        go_loopw [8, 67] (fun bv iv wr => ∃ (i : Nat) (A5 : Option Addr) (c5 : Nat) (L : List Int), i ≤ m.2.length ∧ iv = .int .i64 i ∧ bv = .slice A5 L.length c5 ∧ Hid (L = P ++ bodyL (m.2.take i)) ∧ L.length ≤ 100 + 1048700 * i ∧ Hid (ow 5 .u8 (w.heap.size + 1) wr (.slice A5 L.length c5) L) ∧ Hid (Below (w.heap.size + 1) w1 wr) ∧ w1.heap.size ≤ wr.heap.size) (fun _ iv _ => m.2.length - (intOf iv).toNat)
        case atStart => exact ⟨0, _, _, P, Nat.zero_le _, rfl, rfl, Lib.hid (by simp [bodyL]), by omega, HO7, HB7, by omega⟩
        case round =>
          obtain ⟨i, A5, c5, L, hi5, rfl, rfl, HL5, hL5, HO5, HB5, hz5⟩ := hrel
          by_cases hin : i < m.2.length
          · obtain ⟨x, hx⟩ : ∃ x, m.2[i]? = some x := ⟨_, List.getElem?_eq_getElem hin⟩
            obtain ⟨b, off, rfl, hbl', d0, d1⟩ := HR.out i x hx
            have HWW : Hid (Below w.heap.size w wr) := Lib.hid (HB.out.trans (HB5.out.mono (by omega)))
            have d0 := (HWW.out.cell (p := ⟨b, off + i * 2, none⟩) (show b < w.heap.size by omega)).trans d0
            have d1 := (HWW.out.cell (p := ⟨b, off + i * 2 + 1, none⟩) (show b < w.heap.size by omega)).trans d1
            have hxs := H60.out x (List.mem_of_getElem? hx)
            have HXF := Lib.hid (HF.out i x hx)
            have HX := Lib.hid (take_snocF hx)
            have g1 : (i : Int) < (m.2.length : Int) := by omega
            have g2 : 0 ≤ (i : Int) := by omega
            have hpl := putFL_len x.1 x.2 (by omega)
            clear hx
            go_wp2_with fail
            refine (specPutField_any x.1 x.2 _ (by omega)).mono ?_
            rw [HXF.out]
            rintro e w6 ⟨u6, rfl, hu6, hb6⟩
            obtain ⟨A6, c6, rfl, hc6⟩ := hu6.form
            have HU6 := Lib.hid hu6.rd
            have hz6 : wr.heap.size + 1 ≤ w6.heap.size := by have := hb6.size; simpa using this
            have HB6 : Hid (Below (w.heap.size + 1) w1 w6) := Lib.hid ((HB5.out.alloc (by omega) _).trans (hb6.mono (by simp; omega)))
            have HO6 : Hid (ow 5 .u8 (w.heap.size + 1) w6 (.slice A5 L.length c5) L) := Lib.hid ((HO5.out.below ((Below.refl _ _).alloc (Nat.le_refl _) _) (Nat.le_refl _)).below hb6 (by simp))
            clear hu6 hb6
            go_wp2_with (at_builtin; refine app_all w6 rfl _ _ 26 rfl (w.heap.size + 1) 5 .u8 1 Tryz.underlying26 infoU8c _ L rfl (HO6.out) w6.heap.size _ (putFL x.1 x.2) (by rfl) (HU6.out) (by unfold maxLen; omega) (by omega) (by omega) ?_)
            intro v7 w7 hown7 hg7 hb7
            obtain ⟨A7, c7, hv7, hc7⟩ := hown7.nums.form
            subst hv7
            have hz7 := hb7.size
            have hz7' : w6.heap.size ≤ w7.heap.size := hg7.size
            have HO7 := Lib.hid hown7
            have HB7 : Hid (Below (w.heap.size + 1) w1 w7) := Lib.hid (HB6.out.trans hb7)
            clear hown7 hg7 hb7
            go_wp2
            go_roundw
            case rel => exact ⟨i + 1, A7, c7, L ++ putFL x.1 x.2, by omega, by go_num, rfl, Lib.hid (by rw [HX.out, bodyL_snoc, HL5.out, List.append_assoc]), by rw [List.length_append]; omega, HO7, HB7, by omega⟩
            case measure => simp [intOf] <;> omega
          · obtain rfl : i = m.2.length := by omega
            have HE : Hid (L = P ++ bodyL m.2) := Lib.hid (by have := HL5.out; rwa [List.take_length] at this)
            go_wp2
            go_ret2
            have hLE : L = encL m := by rw [HE.out, ← HBits.out, ← HM.out]
            refine ⟨.slice A5 L.length c5, rfl, ?_, HB.out.trans (HB5.out.mono (by omega))⟩
            have hq := HO5.out.mono (show w.heap.size ≤ w.heap.size + 1 by omega)
            rw [← hLE]
            exact hq
end Go.Proofs.YtkkbhlaakhkjnaaGreatDoor
/- The reference's draw of bytes: bytes, not many; no conditions. -/
set_option linter.unusedVariables false
namespace Go.Proofs.YtkkbhlaakhkjnaaGreatDoor
open Go.ChangeShapes Go.WideShapes Go.ChangeAt Go.RowKit

set_option maxRecDepth 100000 in
theorem enc_10 {m : MsgD} (h : msgOk m = true) : 10 ≤ (encL m).length := by
  unfold encL
  rw [if_pos h]
  have h4 := (ok_small h).1
  have hbo : bcdOk m.1 = true := by unfold msgOk mtiOk at h; simp only [Bool.and_eq_true, decide_eq_true_eq] at h; simp [bcdOk, h.1.1, h.1.2]
  have h2 := bcd_size hbo
  have h3 : 8 ≤ (bitsL m.2).length := by
    unfold bitsL
    split
    · rw [putB_len8]; exact Nat.le_refl _
    · rw [List.length_append, putB_len8, putB_len8]; omega
  rw [List.length_append, List.length_append]
  omega
set_option maxRecDepth 100000 in
theorem ow.pos {T : TypeId} {B : Nat} {w : World} {v : Value} {L : List Int} (h : ow T .u8 B w v L) (hp : 0 < L.length) : ∃ g c, v = .slice (some ⟨g, 0, none⟩) L.length c ∧ L.length ≤ c ∧ B ≤ g ∧ g < w.heap.size ∧ ∀ j x, L[j]? = some x → w.cell? ⟨g, j, none⟩ = some (.int .u8 x) ∧ w.frozen? ⟨g, j, none⟩ = false := by
  obtain ⟨A, c, rfl, hc, hj⟩ := h.nums
  obtain ⟨g, off, rfl, h1, h2, -, -⟩ := hj 0 hp
  have hh : w.ownsRow B T 1 (.slice (some ⟨g, off, none⟩) L.length c) L.length (L.map (Value.int .u8)) := h
  obtain rfl : off = 0 := by
    rcases hh.2 with ⟨_, h0⟩ | ⟨g', cap, cur, hv, -⟩
    · omega
    · simp only [Value.slice.injEq, Option.some.injEq, Addr.mk.injEq, and_true] at hv
      exact hv.1.2
  refine ⟨g, c, rfl, hc, h1, h2, fun j x hx => ?_⟩
  obtain ⟨b, off, e, -, -, h3, h4⟩ := hj j (List.getElem?_eq_some_iff.1 hx).1
  simp only [Option.some.injEq, Addr.mk.injEq, and_true] at e
  obtain ⟨rfl, rfl⟩ := e
  rw [Nat.zero_add] at h3 h4
  rw [List.getD_eq_getElem?_getD, hx] at h3
  exact ⟨h3, h4⟩
set_option maxRecDepth 100000 in
theorem rd_set {w : World} {g c y hi : Nat} {z : Int} {L : List Int} (h : ∀ j x, L[j]? = some x → w.cell? ⟨g, j, none⟩ = some (.int .u8 x)) (hc : L.length ≤ c) (hy : y < L.length) (hg : g < hi) : rd .u8 hi (w.setCell ⟨g, y, none⟩ (.int .u8 z)) (.slice (some ⟨g, 0, none⟩) L.length c) (L.set y z) := by
  refine ⟨some ⟨g, 0, none⟩, c, by rw [List.length_set], by rw [List.length_set]; exact hc, fun j hj => ⟨g, 0, rfl, hg, ?_⟩⟩
  rw [List.length_set] at hj
  rw [Nat.zero_add]
  by_cases e : j = y
  · subst e
    rw [World.cell?_setCell_same _ _ _ (h j _ (List.getElem?_eq_getElem hj)), List.getD_eq_getElem?_getD, List.getElem?_set_self hj]
    rfl
  · rw [World.cell?_setCell_other _ _ _ _ (fun he => e (congrArg Addr.off he).symm), List.getD_eq_getElem?_getD, List.getElem?_set_ne (fun h => e h.symm), h j _ (List.getElem?_eq_getElem hj), List.getElem?_eq_getElem hj]
    rfl
set_option maxRecDepth 100000 in
theorem isBytes_set {L : List Int} {y : Nat} {z : Int} (h : isBytes L) (h0 : 0 ≤ z) (h1 : z ≤ 255) : isBytes (L.set y z) := fun x hx => by
  rcases List.mem_or_eq_of_mem_set hx with h' | rfl
  · exact h x h'
  · omega
set_option maxRecDepth 100000 in
theorem rd_take {w : World} {hi n y c : Nat} {A : Option Addr} {L : List Int} (h : rd .u8 hi w (.slice A n c) L) (hy : y ≤ L.length) : rd .u8 hi w (.slice A y c) (L.take y) := by
  obtain ⟨A', c', hv, hc, hj⟩ := h
  simp only [Value.slice.injEq] at hv
  obtain ⟨rfl, -, rfl⟩ := hv
  have hl : (L.take y).length = y := by rw [List.length_take]; omega
  refine ⟨A, c, by rw [hl], by omega, fun j hl' => ?_⟩
  obtain ⟨b, off, e, h1, h2⟩ := hj j (by omega)
  refine ⟨b, off, e, h1, ?_⟩
  rw [h2, List.getD_eq_getElem?_getD, List.getD_eq_getElem?_getD, List.getElem?_take_of_lt (by omega)]
/-- what a draw of bytes comes to -/
def bytesRes (b : Nat) (w : World) (e : Ending) (w' : World) : Prop := ∃ v L, e = .returned v ∧ rd .u8 w'.heap.size w' v L ∧ isBytes L ∧ L.length ≤ 30001 ∧ w.grownBy w' (some b)

set_option maxRecDepth 100000 in
set_option maxHeartbeats 1600000 in
theorem bytes30_any (b : Nat) (sv : Value) (i0 : Nat) (h0 : Int) (w : World) (hc : curAt w b sv i0 h0) (hi : i0 ≤ lenOf sv) (hr : readable w b sv) :
    Calls Tryz.prog 56 #[.pointer (some ⟨b, 0, none⟩), .int .i64 30] w (bytesRes b w) := by
  have hblt := lt_of_cur hc
  have HR : Hid (∀ w' : World, w.grownBy w' (some b) → readable w' b sv) := Lib.hid fun w' hg => hr.grownAt hg (by omega)
  go_enter Tryz.func56, Tryz.ntmps56
  go_wp2_with fail
  refine (below_any b sv i0 h0 31 _ (cur_alloc hc _) hi (hr.alloc _) (by decide) (by decide)).mono ?_
  rintro e w1 ⟨x, i1, h1, rfl, hx0, hx1, hi1, hc1, ho1⟩
  have HG1 : Hid (w.grownBy w1 (some b)) := Lib.hid (grown_trans (grown_alloc (grown_refl _ _) _) ho1.grown)
  have hz1 : w.heap.size + 1 ≤ w1.heap.size := by have := ho1.size; simp at this; omega
  have HO1 : Hid (ow 5 .u8 w.heap.size w1 (.slice (some ⟨w.heap.size, 0, none⟩) 0 0) []) := Lib.hid (ow.grownRow (ow_blank 5 .u8 w.heap.size w (Nat.le_refl _)) ho1.grown (fun g hg e => by cases e; simp [Value.ownBlock] at hg <;> omega))
  have HC1 := Lib.hid hc1
  clear hc1 ho1 hc hi hr
  go_wp2
  go_loopw [5, 6] (fun bv nv wr => ∃ (k : Int) (A : Option Addr) (c : Nat) (L : List Int) (i : Nat) (hh : Int), nv = .int .i64 k ∧ bv = .slice A L.length c ∧ 0 ≤ k ∧ (L.length : Int) + k ≤ 30 ∧ Hid (isBytes L) ∧ Hid (ow 5 .u8 w.heap.size wr (.slice A L.length c) L) ∧ Hid (curAt wr b sv i hh) ∧ i ≤ lenOf sv ∧ Hid (w.grownBy wr (some b)) ∧ w.heap.size ≤ wr.heap.size) (fun _ nv _ => (intOf nv).toNat)
  case atStart => exact ⟨x, _, 0, [], i1, h1, rfl, rfl, hx0, by simp; omega, Lib.hid (fun z hz => by simp at hz), HO1, HC1, hi1, HG1, by omega⟩
  case round =>
    obtain ⟨k, A, c, L, i, hh, rfl, rfl, hk0, hk, HY, HO, HC, hir, HG, hz⟩ := hrel
    by_cases hpos : 0 < k
    · go_wp2_with fail
      refine (byte_any b sv i hh wr HC.out hir (HR.out _ HG.out)).mono ?_
      rintro e w4 ⟨y, i4, h4, rfl, hy0, hy1, hi4, hc4, ho4⟩
      have hy256 : IntKind.u8.wrap y = y := IntWalk.u8_in _ (by omega)
      have HG4 : Hid (w.grownBy w4 (some b)) := Lib.hid (grown_trans HG.out ho4.grown)
      have HO4 : Hid (ow 5 .u8 w.heap.size w4 (.slice A L.length c) L) := Lib.hid (ow.grownRow HO.out ho4.grown (fun g hg e => by cases e; have := (HO.out.from) b hg; omega))
      have HC4 := Lib.hid hc4
      have hz4 : wr.heap.size ≤ w4.heap.size := by rw [ho4.size]; exact Nat.le_refl _
      have HO5 := Lib.hid (HO4.out.below ((Below.refl w4.heap.size w4).alloc (Nat.le_refl _) (.cells #[.int .u8 y] 5)) (Nat.le_refl _))
      have HS5 := Lib.hid (ow_at (W := w4.alloc (.cells #[.int .u8 y] 5)) (K := .u8) (B := w.heap.size) (heap_alloc_new w4 (.cells #[.int .u8 y] 5)) (by omega)).nums.rd
      have hbw : b < w4.heap.size := by omega
      clear hc4 ho4
      go_wp2_with (at_builtin; refine app_all (w4.alloc (.cells #[.int .u8 y] 5)) rfl _ _ 26 rfl w.heap.size 5 .u8 1 Tryz.underlying26 infoU8c _ L rfl HO5.out _ _ [y] (by rfl) HS5.out (by unfold maxLen; simp <;> omega) (by simp <;> omega) (by simp; omega) ?_)
      intro v6 w6 hown6 hg6 hb6
      obtain ⟨A6, c6, rfl, hc6⟩ := hown6.nums.form
      have z6 : w4.heap.size + 1 ≤ w6.heap.size := by have := hg6.size; simpa using this
      have HO6 := Lib.hid hown6
      have HB6 : Hid (Below w.heap.size w4 w6) := Lib.hid (((Below.refl w.heap.size w4).alloc (by omega) _).trans hb6)
      clear hown6 hg6 hb6
      go_wp2
      go_roundw
      case rel => exact ⟨k - 1, A6, c6, L ++ [y], i4, h4, rfl, rfl, by omega, by simp; omega, Lib.hid (isBytes_app HY.out (by intro z hz; rw [List.mem_singleton.1 hz]; omega)), HO6, Lib.hid ((HB6.out.block b hblt).trans HC4.out), hi4, Lib.hid (grown_then HG4.out HB6.out (Nat.le_refl _)), by omega⟩
      case measure => simp [intOf] <;> omega
    · go_wp2
      go_ret
      exact ⟨_, L, rfl, HO.out.nums.rd, HY.out, by omega, HG.out⟩

set_option maxRecDepth 100000 in
set_option maxHeartbeats 1600000 in
theorem msgBytes_any (b : Nat) (sv : Value) (i0 : Nat) (h0 : Int) (w : World) (hc : curAt w b sv i0 h0) (hi : i0 ≤ lenOf sv) (hr : readable w b sv) :
    Calls Tryz.prog 57 #[.pointer (some ⟨b, 0, none⟩)] w (bytesRes b w) := by
  have hblt := lt_of_cur hc
  have HR : Hid (∀ w' : World, w.grownBy w' (some b) → readable w' b sv) := Lib.hid fun w' hg => hr.grownAt hg (by omega)
  go_enter Tryz.func57, Tryz.ntmps57
  go_wp2_with fail
  refine (msgDraw_any b sv i0 h0 w hc hi hr).mono ?_
  rintro e w1 ⟨m, u, i1, h1, rfl, hok, hm, hi1, hc1, hg1⟩
  obtain ⟨A1, c1, rfl, -⟩ := Rep.slice_form hm.rd
  obtain ⟨hsz, hml, hms, -⟩ := ok_small hok
  have hE1 := enc_small hok
  have hE2 := enc_10 hok
  have HY := Lib.hid (encL_bytes hok)
  have HG1 := Lib.hid hg1
  have HC1 := Lib.hid hc1
  have hz1 : w.heap.size ≤ w1.heap.size := hg1.size
  have HE := Lib.hid (fun (_ : Unit) => specEncode_own w1.heap.size (.slice A1 m.2.length c1) m w1 (by omega) (by omega) hms hm.rd (Nat.le_refl _) hok)
  clear hm hms hc1 hg1 hc hi hr
  go_wp2_with fail
  refine (HE.out ()).mono ?_
  rintro e w2 ⟨u2, rfl, hown, hb2⟩
  clear HE
  generalize encL m = L at hE1 hE2 HY hown ⊢
  clear hok hsz hml
  obtain ⟨g, c, rfl, hLc, hg1, hg2, hcell⟩ := hown.pos (by omega)
  have HG2 : Hid (w.grownBy w2 (some b)) := Lib.hid (grown_trans HG1.out (grown_below hb2))
  have HC2 : Hid (curAt w2 b sv i1 h1) := Lib.hid ((hb2.block b (by omega)).trans HC1.out)
  have hz2 : w1.heap.size ≤ w2.heap.size := hb2.size
  have hbg : b < g := by omega
  have HO := Lib.hid hown
  have HCE := Lib.hid hcell
  clear hown hb2 HG1 HC1 hcell
  go_wp2_with fail
  refine (below_any b sv i1 h1 8 w2 HC2.out hi1 (HR.out _ HG2.out) (by decide) (by decide)).mono ?_
  rintro e w3 ⟨x, i3, h3, rfl, hx0, hx1, hi3, hc3, ho3⟩
  have HG3 : Hid (w.grownBy w3 (some b)) := Lib.hid (grown_trans HG2.out ho3.grown)
  have HC3 := Lib.hid hc3
  have hz3 : w2.heap.size ≤ w3.heap.size := by rw [ho3.size]; exact Nat.le_refl _
  have HCE3 : Hid (∀ j x, L[j]? = some x → w3.cell? ⟨g, j, none⟩ = some (.int .u8 x) ∧ w3.frozen? ⟨g, j, none⟩ = false) := Lib.hid (fun j x hx => by
    have hk := ho3.block g (by omega)
    exact ⟨(cell_keep hk).trans (HCE.out j x hx).1, (frozen_keep hk).trans (HCE.out j x hx).2⟩)
  have HO3 : Hid (ow 5 .u8 w1.heap.size w3 (.slice (some ⟨g, 0, none⟩) L.length c) L) := Lib.hid (ow.grownRow HO.out ho3.grown (fun k hk e => by cases e; simp [Value.ownBlock] at hk; omega))
  clear hc3 ho3 HO HCE HG2 HC2
  by_cases e0 : x = 0
  · subst e0
    go_wp2_with fail
    refine (below_any b sv i3 h3 (L.length + 1) w3 HC3.out hi3 (HR.out _ HG3.out) (by omega) (by omega)).mono ?_
    rintro e w4 ⟨y, i4, h4, rfl, hy0, hy1, hi4, hc4, ho4⟩
    obtain ⟨n, rfl⟩ := Int.eq_ofNat_of_zero_le hy0
    have HG4 : Hid (w.grownBy w4 (some b)) := Lib.hid (grown_trans HG3.out ho4.grown)
    have HO4 := Lib.hid (ow.grownRow HO3.out ho4.grown (fun k hk e => by cases e; simp [Value.ownBlock] at hk; omega))
    clear hc4 ho4
    go_wp2
    go_ret
    exact ⟨_, L.take n, rfl, rd_take HO4.out.nums.rd (by omega), fun z hz => HY.out z (List.mem_of_mem_take hz), by rw [List.length_take]; omega, HG4.out⟩
  by_cases e1 : x = 1
  · subst e1
    go_wp2_with fail
    refine (below_any b sv i3 h3 L.length w3 HC3.out hi3 (HR.out _ HG3.out) (by omega) (by omega)).mono ?_
    rintro e w4 ⟨y, i4, h4, rfl, hy0, hy1, hi4, hc4, ho4⟩
    obtain ⟨n, rfl⟩ := Int.eq_ofNat_of_zero_le hy0
    have hn : n < L.length := by omega
    have HG4 : Hid (w.grownBy w4 (some b)) := Lib.hid (grown_trans HG3.out ho4.grown)
    have HCE4 : Hid (∀ j x, L[j]? = some x → w4.cell? ⟨g, j, none⟩ = some (.int .u8 x) ∧ w4.frozen? ⟨g, j, none⟩ = false) := Lib.hid (fun j x hx => by
      have hk := ho4.block g (by omega)
      exact ⟨(cell_keep hk).trans (HCE3.out j x hx).1, (frozen_keep hk).trans (HCE3.out j x hx).2⟩)
    have HC4 := Lib.hid hc4
    have hz4 : w3.heap.size ≤ w4.heap.size := by rw [ho4.size]; exact Nat.le_refl _
    clear hc4 ho4
    go_wp2_with fail
    refine (byte_any b sv i4 h4 w4 HC4.out hi4 (HR.out _ HG4.out)).mono ?_
    rintro e w5 ⟨z, i5, h5, rfl, hz50, hz51, hi5, hc5, ho5⟩
    have hy256 : IntKind.u8.wrap z = z := IntWalk.u8_in _ (by omega)
    have HG5 : Hid (w.grownBy w5 (some b)) := Lib.hid (grown_trans HG4.out ho5.grown)
    have HCE5 : Hid (∀ j x, L[j]? = some x → w5.cell? ⟨g, j, none⟩ = some (.int .u8 x) ∧ w5.frozen? ⟨g, j, none⟩ = false) := Lib.hid (fun j x hx => by
      have hk := ho5.block g (by omega)
      exact ⟨(cell_keep hk).trans (HCE4.out j x hx).1, (frozen_keep hk).trans (HCE4.out j x hx).2⟩)
    have hz5 : w4.heap.size ≤ w5.heap.size := by rw [ho5.size]; exact Nat.le_refl _
    obtain ⟨k0, k1⟩ := HCE5.out n _ (List.getElem?_eq_getElem hn)
    generalize L[n] = old at k0
    have gn : (n : Int) < (L.length : Int) := by omega
    have hgw : g < w5.heap.size := by omega
    clear hc5 ho5
    go_wp2
    go_ret
    exact ⟨_, L.set n z, rfl, rd_set (fun j x hx => (HCE5.out j x hx).1) hLc hn (by simp [World.setCell]; omega), isBytes_set HY.out hz50 hz51, by rw [List.length_set]; omega, grown_then HG5.out ((Below.refl w1.heap.size w5).setCell (p := ⟨g, n, none⟩) hg1 _) hz1⟩
  by_cases e2 : x = 2
  · subst e2
    go_wp2_with fail
    refine (below_any b sv i3 h3 8 w3 HC3.out hi3 (HR.out _ HG3.out) (by omega) (by omega)).mono ?_
    rintro e w4 ⟨y, i4, h4, rfl, hy0, hy1, hi4, hc4, ho4⟩
    obtain ⟨n, rfl⟩ := Int.eq_ofNat_of_zero_le hy0
    have hn : 2 + n < L.length := by omega
    have HG4 : Hid (w.grownBy w4 (some b)) := Lib.hid (grown_trans HG3.out ho4.grown)
    have HCE4 : Hid (∀ j x, L[j]? = some x → w4.cell? ⟨g, j, none⟩ = some (.int .u8 x) ∧ w4.frozen? ⟨g, j, none⟩ = false) := Lib.hid (fun j x hx => by
      have hk := ho4.block g (by omega)
      exact ⟨(cell_keep hk).trans (HCE3.out j x hx).1, (frozen_keep hk).trans (HCE3.out j x hx).2⟩)
    have HC4 := Lib.hid hc4
    have hz4 : w3.heap.size ≤ w4.heap.size := by rw [ho4.size]; exact Nat.le_refl _
    clear hc4 ho4
    go_wp2_with fail
    refine (byte_any b sv i4 h4 w4 HC4.out hi4 (HR.out _ HG4.out)).mono ?_
    rintro e w5 ⟨z, i5, h5, rfl, hz50, hz51, hi5, hc5, ho5⟩
    have hy256 : IntKind.u8.wrap z = z := IntWalk.u8_in _ (by omega)
    have HG5 : Hid (w.grownBy w5 (some b)) := Lib.hid (grown_trans HG4.out ho5.grown)
    have HCE5 : Hid (∀ j x, L[j]? = some x → w5.cell? ⟨g, j, none⟩ = some (.int .u8 x) ∧ w5.frozen? ⟨g, j, none⟩ = false) := Lib.hid (fun j x hx => by
      have hk := ho5.block g (by omega)
      exact ⟨(cell_keep hk).trans (HCE4.out j x hx).1, (frozen_keep hk).trans (HCE4.out j x hx).2⟩)
    have hz5 : w4.heap.size ≤ w5.heap.size := by rw [ho5.size]; exact Nat.le_refl _
    obtain ⟨k0, k1⟩ := HCE5.out (2 + n) _ (List.getElem?_eq_getElem hn)
    generalize L[2 + n] = old at k0
    have gn : 2 + (n : Int) < (L.length : Int) := by omega
    have hgw : g < w5.heap.size := by omega
    have htn : (2 + (n : Int)).toNat = 2 + n := by omega
    clear hc5 ho5
    go_wp2
    go_ret
    exact ⟨_, L.set (2 + n) z, rfl, rd_set (fun j x hx => (HCE5.out j x hx).1) hLc hn (by simp [World.setCell]; omega), isBytes_set HY.out hz50 hz51, by rw [List.length_set]; omega, grown_then HG5.out ((Below.refl w1.heap.size w5).setCell (p := ⟨g, 2 + n, none⟩) hg1 _) hz1⟩
  by_cases e3 : x = 3
  · subst e3
    go_wp2_with fail
    refine (byte_any b sv i3 h3 w3 HC3.out hi3 (HR.out _ HG3.out)).mono ?_
    rintro e w4 ⟨z, i4, h4, rfl, hz40, hz41, hi4, hc4, ho4⟩
    have hy256 : IntKind.u8.wrap z = z := IntWalk.u8_in _ (by omega)
    have HG4 : Hid (w.grownBy w4 (some b)) := Lib.hid (grown_trans HG3.out ho4.grown)
    have HO4 := Lib.hid (ow.grownRow HO3.out ho4.grown (fun k hk e => by cases e; simp [Value.ownBlock] at hk; omega))
    have hz4 : w3.heap.size ≤ w4.heap.size := by rw [ho4.size]; exact Nat.le_refl _
    have HO5 := Lib.hid (HO4.out.below ((Below.refl w4.heap.size w4).alloc (Nat.le_refl _) (.cells #[.int .u8 z] 5)) (Nat.le_refl _))
    have HS5 := Lib.hid (ow_at (W := w4.alloc (.cells #[.int .u8 z] 5)) (K := .u8) (B := w.heap.size) (heap_alloc_new w4 (.cells #[.int .u8 z] 5)) (by omega)).nums.rd
    clear hc4 ho4
    go_wp2_with (at_builtin; refine app_all (w4.alloc (.cells #[.int .u8 z] 5)) rfl _ _ 26 rfl w1.heap.size 5 .u8 1 Tryz.underlying26 infoU8c _ L rfl HO5.out _ _ [z] (by rfl) HS5.out (by unfold maxLen; simp <;> omega) (by simp <;> omega) (by simp; omega) ?_)
    intro v6 w6 hown6 hg6 hb6
    obtain ⟨A6, c6, rfl, hc6⟩ := hown6.nums.form
    have HO6 := Lib.hid hown6
    have HG6 := Lib.hid (grown_then HG4.out (((Below.refl w1.heap.size w4).alloc (by omega) _).trans hb6) hz1)
    clear hown6 hg6 hb6
    go_wp2
    go_ret
    exact ⟨_, L ++ [z], rfl, HO6.out.nums.rd, isBytes_app HY.out (by intro y hy; rw [List.mem_singleton.1 hy]; omega), by simp; omega, HG6.out⟩
  go_wp2
  go_ret
  exact ⟨_, L, rfl, HO3.out.nums.rd, HY.out, by omega, HG3.out⟩

set_option maxRecDepth 100000 in
set_option maxHeartbeats 1600000 in
theorem makeBytes_any (sv : Value) (w : World) (hr : readable w w.heap.size sv) (hlen : lenOf sv ≤ 1048576) :
    Calls Tryz.prog 26 #[sv] w fun e w' => ∃ v L, e = .returned v ∧ rd .u8 w'.heap.size w' v L ∧ isBytes L ∧ L.length ≤ 30001 ∧ Below w.heap.size w w' := by
  go_enter Tryz.func26, Tryz.ntmps26
  go_wp2_with fail
  refine (new_any sv w hr hlen).mono ?_
  rintro e w1 ⟨h, rfl, hw1⟩
  have hc := made_cur sv w h
  rw [← hw1] at hc
  have hz1 : w.heap.size + 1 ≤ w1.heap.size := by rw [hw1]; simp
  have HB1 : Hid (Below w.heap.size w w1) := Lib.hid (by rw [hw1]; exact (Below.refl _ _).alloc (Nat.le_refl _) _)
  have HC := Lib.hid hc
  have HR : Hid (readable w1 w.heap.size sv) := Lib.hid (hr.below HB1.out)
  clear hw1 hc hr
  go_wp2_with fail
  refine (once_any w.heap.size sv 0 h 4 w1 HC.out (Nat.zero_le _) HR.out (by decide) (by decide)).mono ?_
  rintro e w2 ⟨y, i2, h2, rfl, hi2, hc2, ho2⟩
  have HC2 := Lib.hid hc2
  have HR2 := Lib.hid (HR.out.grownAt ho2.grown (by omega))
  have HB2 : Hid (Below w.heap.size w w2) := Lib.hid (HB1.out.trans (ho2.below (Nat.le_refl _)))
  have hz2 : w1.heap.size ≤ w2.heap.size := by rw [ho2.size]; exact Nat.le_refl _
  clear hc2 ho2
  cases y
  · go_wp2_with fail
    refine (msgBytes_any w.heap.size sv i2 h2 w2 HC2.out hi2 HR2.out).mono ?_
    rintro e w3 ⟨v3, L3, rfl, hv3, hy3, hl3, hg3⟩
    obtain ⟨A3, c3, rfl, -⟩ := hv3.form
    have HV3 := Lib.hid hv3
    have HY3 := Lib.hid hy3
    have HB3 : Hid (Below w.heap.size w w3) := Lib.hid (HB2.out.trans (below_of_grown hg3 (by omega) (fun k hk => by cases hk; exact Nat.le_refl _)))
    clear hv3 hy3 hg3
    go_wp2
    go_ret
    exact ⟨_, L3, rfl, HV3.out, HY3.out, hl3, HB3.out⟩
  · go_wp2_with fail
    refine (bytes30_any w.heap.size sv i2 h2 w2 HC2.out hi2 HR2.out).mono ?_
    rintro e w3 ⟨v3, L3, rfl, hv3, hy3, hl3, hg3⟩
    obtain ⟨A3, c3, rfl, -⟩ := hv3.form
    have HV3 := Lib.hid hv3
    have HY3 := Lib.hid hy3
    have HB3 : Hid (Below w.heap.size w w3) := Lib.hid (HB2.out.trans (below_of_grown hg3 (by omega) (fun k hk => by cases hk; exact Nat.le_refl _)))
    clear hv3 hy3 hg3
    go_wp2
    go_ret
    exact ⟨_, L3, rfl, HV3.out, HY3.out, hl3, HB3.out⟩
end Go.Proofs.YtkkbhlaakhkjnaaGreatDoor
