/- parseMsg and Parse of the program; no conditions on the bytes but their number. -/
import Derived.Test.YtkkbhlaakhkjnaaGreatDoorMrg3
import Derived.Test.YtkkbhlaakhkjnaaGreatDoorBase
import Derived.Test.YtkkbhlaakhkjnaaGreatDoorConv
import Derived.BigQuiet
import Derived.Deep.QuietTactic
import Derived.Deep.RegionWith
import Derived.Deep.Cut
import Derived.Deep.DeepCutAuto
import Derived.Lib.ItoaNum
import Derived.Lib.ItoaLen
import Derived.Test.YtkkbhlaakhkjnaaGreatDoorField
import Derived.Test.YtkkbhlaakhkjnaaGreatDoorRep
import Derived.Test.YtkkbhlaakhkjnaaGreatDoorNums
import Derived.Test.YtkkbhlaakhkjnaaGreatDoorMrg2
import Derived.Test.YtkkbhlaakhkjnaaGreatDoorCur
import Derived.Test.YtkkbhlaakhkjnaaGreatDoorFieldAt
import Derived.Test.YtkkbhlaakhkjnaaGreatDoorMrg1
import Derived.Test.YtkkbhlaakhkjnaaGreatDoorApp
import Derived.Test.YtkkbhlaakhkjnaaGreatDoorFieldOk
import Derived.Test.YtkkbhlaakhkjnaaGreatDoorMsgRow
import Derived.Test.YtkkbhlaakhkjnaaGreatDoorMsgS
import Derived.Deep.RegionLaw
import Derived.Test.YtkkbhlaakhkjnaaGreatDoorPost
import Derived.Test.YtkkbhlaakhkjnaaGreatDoorOpenMsg
import Derived.Test.YtkkbhlaakhkjnaaGreatDoorOpenNB
import Derived.Test.YtkkbhlaakhkjnaaGreatDoorOpenB
import Derived.Test.YtkkbhlaakhkjnaaGreatDoorDoorZ
import Derived.Test.YtkkbhlaakhkjnaaGreatDoorNumsB
set_option linter.unusedVariables false
namespace Go.Proofs.YtkkbhlaakhkjnaaGreatDoor
open Go.ChangeShapes Go.WideShapes Go.ChangeAt Go.RowKit
open Go.Maps (Keyed IsMap)

/-- the message, or the panic -/
def pmRes (r : MsgD × Int) (w : World) (e : Ending) (w' : World) : Prop := Below w.heap.size w w' ∧ if r.2 = 0 then ∃ u, e = .returned (.agg #[.string r.1.1, u]) ∧ FieldsR.mine w.heap.size w'.heap.size w' [u] r.1.2 else e = fault r.2
set_option maxRecDepth 100000 in
theorem pmRes_no {r : MsgD × Int} {k : Int} {w w' : World} (hr : r.2 = k) (hk : k ≠ 0) (hb : Below w.heap.size w w') : pmRes r w (fault k) w' := ⟨hb, by rw [if_neg (by rw [hr]; exact hk), hr]⟩
set_option maxRecDepth 100000 in
theorem pmRes_yes {r : MsgD × Int} {w w' : World} {u : Value} (hr : r.2 = 0) (hu : FieldsR.mine w.heap.size w'.heap.size w' [u] r.1.2) (hb : Below w.heap.size w w') : pmRes r w (.returned (.agg #[.string r.1.1, u])) w' := ⟨hb, by rw [if_pos hr]; exact ⟨u, rfl, hu⟩⟩
set_option maxRecDepth 100000 in
theorem gEnd_two {l : List Int} (h : gOk l 0 4 = true) : gEnd l 0 4 = 2 := by unfold gEnd; rw [if_pos h]; rfl
set_option maxRecDepth 100000 in
theorem keys_up {l : List Int} (hl : isBytes l) (h : nosOk l = true) : (nosL l).Pairwise (· < ·) ∧ 2 ≤ nosE l := by
  have := nos_only hl h (L := (nosL l).map fun n => (n, (⟨#[]⟩ : ByteArray))) (by rw [List.map_map]; exact List.map_id _)
  exact ⟨this.1, this.2.2⟩
set_option maxRecDepth 100000 in
theorem asc_of_keys {L : List FieldD} {X : List Int} (h : L.map (·.1) = X) (hX : X.Pairwise (· < ·)) : asc L := by
  subst h
  exact List.pairwise_map.1 hX
set_option maxRecDepth 100000 in
theorem key_new {L : List FieldD} {X : List Int} {i : Nat} {x : Int} (h : L.map (·.1) = X.take i) (hX : X.Pairwise (· < ·)) (hx : X[i]? = some x) : ∀ y ∈ L, y.1 ≠ x := by
  obtain ⟨hi, rfl⟩ := List.getElem?_eq_some_iff.1 hx
  intro y hy e
  have hm : y.1 ∈ X.take i := by rw [← h]; exact List.mem_map_of_mem hy
  obtain ⟨j, hj, hje⟩ := List.mem_iff_getElem.1 hm
  rw [List.length_take] at hj
  rw [List.getElem_take] at hje
  have := List.pairwise_iff_getElem.1 hX j i (by omega) hi (by omega)
  omega
set_option maxRecDepth 100000 in
set_option maxHeartbeats 8000000 in
theorem parseMsg_any (hi : Nat) (v : Value) (l : List Int) (w : World) (p : Addr) (hg : 1 < w.heap.size) (hc : w.cell? ⟨1, 0, none⟩ = some (.iface 183 (.pointer (some p)))) (hn : l.length ≤ 1048577) (hl : isBytes l) (h : rd .u8 hi w v l) (hhi : hi ≤ w.heap.size) :
    Calls Tryz.prog 46 #[v] w (pmRes (parseRes l) w) := by
  obtain ⟨A, c, rfl, hcc⟩ := h.form
  have H := Lib.hid h
  have HL := Lib.hid hl
  have HCE := Lib.hid (fun (W : World) (hW : Below w.heap.size w W) => (hW.cell (p := ⟨1, 0, none⟩) hg).trans hc)
  have HG1 := Lib.hid (fun (W : World) (hW : Below w.heap.size w W) => implGetBcd_any hi _ l 0 4 W (by omega) (by decide) hl (h.below hW hhi) (Nat.le_trans hhi hW.size))
  have HG2 := Lib.hid (fun (W : World) (hW : Below w.heap.size w W) => parseBitmaps_any hi _ l W (by omega) hl (h.below hW hhi) (Nat.le_trans hhi hW.size))
  have HGF := Lib.hid (fun (a x : Int) (ha : a ≤ 9223372036854775807) (W : World) (hW : Below w.heap.size w W) => implGetField_any hi _ l a x W p (Nat.lt_of_lt_of_le hg hW.size) (HCE.out W hW) (by omega) ha hl (h.below hW hhi) (Nat.le_trans hhi hW.size))
  clear h hc
  have HB0 : Hid (∀ o, Below w.heap.size w (w.alloc o)) := Lib.hid fun o => (Below.refl _ _).alloc (Nat.le_refl _) o
  cases hgk : gOk l 0 4
  · have HK : Hid ((parseRes l).2 = 1) := Lib.hid (by simp [parseRes, hgk])
    have HE := Lib.hid (gRes_no hgk)
    clear hgk
    go_enter Tryz.func46, Tryz.ntmps46
    go_wp2_with fail
    refine (HG1.out _ (HB0.out _)).mono ?_
    rw [HE.out]
    rintro e w1 ⟨rfl, hb⟩
    have HB1 : Hid (Below w.heap.size w w1) := Lib.hid ((HB0.out _).trans (hb.mono (by simp)))
    clear hb
    go_wp2_with fail
    refine (need_no 1 _).mono ?_
    rintro e w2 ⟨rfl, rfl⟩
    go_wp2
    exact ⟨rfl, pmRes_no HK.out (by decide) HB1.out⟩
  have HE : Hid (gRes l 0 4 = .returned (.tuple #[.string ⟨(gTxt l 0 4).toArray⟩, .int .i64 2, .bool true])) := Lib.hid (by unfold gRes; rw [gEnd_two hgk, hgk])
  have HGK := Lib.hid hgk
  clear hgk
  cases ho : nosOk l
  · have HK : Hid ((parseRes l).2 = 2) := Lib.hid (by simp [parseRes, HGK.out, ho])
    have HO := Lib.hid ho
    clear ho
    go_enter Tryz.func46, Tryz.ntmps46
    go_wp2_with fail
    refine (HG1.out _ (HB0.out _)).mono ?_
    rw [HE.out]
    rintro e w1 ⟨rfl, hb⟩
    have HB1 : Hid (Below w.heap.size w w1) := Lib.hid ((HB0.out _).trans (hb.mono (by simp)))
    have hz1 : w.heap.size + 1 ≤ w1.heap.size := by have := hb.size; simpa using this
    clear hb
    go_wp2_with fail
    refine (need_yes 1 _).mono ?_
    rintro e w2 ⟨rfl, rfl⟩
    go_wp2_with fail
    refine (HG2.out _ HB1.out).mono ?_
    rintro e w2 ⟨hb2, he⟩
    rw [if_neg (by rw [HO.out]; decide)] at he
    subst he
    have HB2 : Hid (Below w.heap.size w w2) := Lib.hid (HB1.out.trans (hb2.mono (by omega)))
    clear hb2
    unfold fault
    go_wp2
    exact ⟨rfl, pmRes_no HK.out (by decide) HB2.out⟩
  have HP : Hid (∀ r, pst l (nosL l) (nosE l) (nosL l).length = r → parseRes l = (match r with | none => ((⟨#[]⟩, []), 3) | some (e, L) => if e = l.length then ((⟨(gTxt l 0 4).toArray⟩, L), 0) else ((⟨#[]⟩, []), 4))) := Lib.hid (fun r hr => by unfold parseRes; rw [HGK.out, ho, hr]; rfl)
  have HO := Lib.hid ho
  have hel := nosE_le l
  have hnl := nosL_len l
  obtain ⟨hup, h2e⟩ := keys_up HL.out ho
  have HUP := Lib.hid hup
  have HPO := Lib.hid (fun i (hi : i ≤ (nosL l).length) e L hs => pst_only HL.out (by omega : 0 ≤ nosE l) i hi e L hs)
  clear ho hup
  generalize (⟨(gTxt l 0 4).toArray⟩ : ByteArray) = mti at HE HP
  have hmm := @run_makeMap Tryz.prog
  go_enter Tryz.func46, Tryz.ntmps46
  go_wp2_with fail
  refine (HG1.out _ (HB0.out _)).mono ?_
  rw [HE.out]
  rintro e w1 ⟨rfl, hb⟩
  have HC1 := Lib.hid ((cellMsg.new w).below hb (by simp))
  have HB1 : Hid (Below w.heap.size w w1) := Lib.hid ((HB0.out _).trans (hb.mono (by simp)))
  have hz1 : w.heap.size + 1 ≤ w1.heap.size := by have := hb.size; simpa using this
  clear hb
  go_wp2_with fail
  refine (need_yes 1 _).mono ?_
  rintro e w2 ⟨rfl, rfl⟩
  go_wp2_with fail
  refine (HG2.out _ HB1.out).mono ?_
  rintro e w2 ⟨hb2, he⟩
  rw [if_pos HO.out] at he
  obtain ⟨v2, rfl, hv2⟩ := he
  generalize nosL l = X at hv2 hnl HP HUP HPO
  generalize nosE l = e0 at hel h2e HP HPO ⊢
  obtain ⟨A2, c2, rfl, hc2⟩ := hv2.form
  have HC2 := Lib.hid (HC1.out.below hb2 (by omega))
  have HB2 : Hid (Below w.heap.size w w2) := Lib.hid (HB1.out.trans (hb2.mono (by omega)))
  have hz2 : w1.heap.size ≤ w2.heap.size := hb2.size
  have HV := Lib.hid hv2
  clear hv2 hb2 HC1 HG1 HG2 HE
  go_wp2
  have HB3 : Hid (Below w2.heap.size w2 (w2.alloc (.map #[] 0))) := Lib.hid ((Below.refl _ _).alloc (Nat.le_refl _) _)
  have HM0 : Hid (mapAt (w2.alloc (.map #[] 0)) w2.heap.size 0 (.map [])) := Lib.hid (World.ownsMap_made w2 Tryz.prog 3 (plainElem (H := Unit) Tryz.prog 9))
  clear hmm
  go_loopw [4, 30] (fun av iv wr => ∃ (i : Nat) (a : Int) (D : DataW Unit) (L : List FieldD), i ≤ X.length ∧ iv = .int .i64 i ∧ av = .int .i64 a ∧ a ≤ l.length ∧ Hid (pst l X e0 i = some (a, L)) ∧ Hid (mapAt wr w2.heap.size i D) ∧ Hid (mapIs D L) ∧ Hid (Below w2.heap.size w2 wr) ∧ w2.heap.size < wr.heap.size) (fun _ iv _ => X.length - (intOf iv).toNat)
  case atStart => exact ⟨0, e0, _, [], Nat.zero_le _, rfl, rfl, hel, Lib.hid rfl, HM0, Lib.hid mapIs.start, HB3, by simp⟩
  case round =>
    obtain ⟨i, a, D, L, hi', rfl, rfl, hal, HS, HM, HI, HB, hz⟩ := hrel
    have HBr : Hid (Below w.heap.size w wr) := Lib.hid (HB2.out.trans (HB.out.mono (by omega)))
    by_cases hin : i < X.length
    · obtain ⟨x, hx⟩ : ∃ x, X[i]? = some x := ⟨_, List.getElem?_eq_getElem hin⟩
      obtain ⟨b, off, hA, hbl, d0⟩ := HV.out.at hx
      subst hA
      have d0 := (HB.out.cell (p := ⟨b, off + i, none⟩) hbl).trans d0
      have HX := Lib.hid hx
      have HN := Lib.hid (pst_next l X e0 i x hx)
      have g1 : (i : Int) < (X.length : Int) := by omega
      have g2 : 0 ≤ (i : Int) := by omega
      have HF := Lib.hid (HGF.out a x (by omega) wr HBr.out)
      clear hx
      cases hgf : gfOk l a x
      · have HK : Hid ((parseRes l).2 = 3) := Lib.hid (by
          rw [HP.out none (pst_none (i := i + 1) (by omega) (by rw [HN.out, HS.out]; simp [pstep, hgf]))])
        have HR := Lib.hid (get_no hgf)
        clear hgf
        go_wp2_with fail
        refine HF.out.mono ?_
        rw [HR.out]
        rintro e w3 ⟨rfl, hb3⟩
        have HB3 : Hid (Below w.heap.size w w3) := Lib.hid (HBr.out.trans (hb3.mono (by omega)))
        clear hb3
        go_wp2_with fail
        refine (need_no 3 _).mono ?_
        rintro e w4 ⟨rfl, rfl⟩
        go_wp2
        exact ⟨rfl, pmRes_no HK.out (by decide) HB3.out⟩
      · have hge := gfEnd_le hgf
        have HS1 : Hid (pst l X e0 (i + 1) = some (gfEnd l a x, L ++ [(x, gfTxt l a x)])) := Lib.hid (by rw [HN.out, HS.out]; simp [pstep, hgf])
        have HR := Lib.hid (get_yes hgf)
        have hfo := (field_of HL.out hgf).1
        have HTS : Hid ((gfTxt l a x).size ≤ maxLen) := Lib.hid (by have := fOk_60 hfo; unfold maxLen; omega)
        have HXW : Hid ((Lit.int .i64 x).wf = true) := Lib.hid (by have := fOk_range hfo; exact WalkArith.wf_i64 (by omega))
        have HKN := Lib.hid (key_new (HPO.out i hi' a L HS.out).1 HUP.out HX.out)
        clear hgf hfo
        generalize gfEnd l a x = e1 at hge HS1 HR
        generalize gfTxt l a x = t1 at HS1 HR HTS
        have HI1 := Lib.hid (HI.out.snoc (x := (x, t1)) HKN.out)
        go_wp2_with fail
        refine HF.out.mono ?_
        rw [HR.out]
        rintro e w3 ⟨rfl, hb3⟩
        have hz3 : wr.heap.size ≤ w3.heap.size := hb3.size
        have HM3 : Hid (mapAt w3 w2.heap.size i D) := Lib.hid (ownsMap_below HM.out hb3 hz)
        have HB3 : Hid (Below w2.heap.size w2 w3) := Lib.hid (HB.out.trans (hb3.mono (by omega)))
        clear hb3
        go_wp2_with fail
        refine (need_yes 3 _).mono ?_
        rintro e w4 ⟨rfl, rfl⟩
        go_wp2_with (at_mapUpdate; refine wpList_mapUpdate_own _ rfl _ _ _ 70 rfl 3 9 lawI Tryz.underlying70 _ w2.heap.size i D rfl HM3.out (by unfold maxLen; omega) _ _ _ rfl rfl (Maps.keyOf_int_mk Tryz.underlying3 HXW.out) _ [] (plainElem_string Tryz.underlying9 HTS.out) ?_)
        intro w4 hown4 hg4
        have hz4 : w3.heap.size ≤ w4.heap.size := hg4.size
        have HB4 : Hid (Below w2.heap.size w2 w4) := Lib.hid (HB3.out.grown hg4 (by omega) (fun j hj => by cases hj; exact Nat.le_refl _))
        have HO4 := Lib.hid hown4
        clear hown4 hg4
        go_wp2
        go_roundw
        case rel => exact ⟨i + 1, e1, _, L ++ [(x, t1)], by omega, by go_num, rfl, by omega, HS1, HO4, HI1, HB4, by omega⟩
        case measure => simp [intOf] <;> omega
    · obtain rfl : i = X.length := by omega
      have HC := Lib.hid (HC2.out.below HB.out (by omega))
      obtain ⟨hkeys, hfo, -, -⟩ := HPO.out X.length (Nat.le_refl _) a L HS.out
      rw [List.take_length] at hkeys
      have HAS := Lib.hid (asc_of_keys hkeys HUP.out)
      have HWF : Hid (∀ y ∈ L, (Lit.int .i64 y.1).wf = true) := Lib.hid fun y hy => by have := fOk_range (hfo y hy); exact WalkArith.wf_i64 (by omega)
      have hLl : L.length = X.length := by rw [← hkeys, List.length_map]
      have hLb : L.length ≤ 128 := by omega
      clear hkeys hfo hLl
      by_cases hae : a = l.length
      · have HK : Hid (parseRes l = ((mti, L), 0)) := Lib.hid (by rw [HP.out _ HS.out]; simp [hae])
        have hae' : (a == (l.length : Int)) = true := by simpa using hae
        have HFS := Lib.hid (implFieldsOf_any w2.heap.size X.length D L wr HM.out HI.out HAS.out (by omega) (by omega) HWF.out)
        clear hae
        go_wp2_with fail
        refine (need_yes 4 _).mono ?_
        rintro e w4 ⟨rfl, rfl⟩
        go_wp2_with fail
        refine HFS.out.mono ?_
        rintro e w5 ⟨u5, rfl, hu5, hb5⟩
        obtain ⟨A5, c5, rfl, -⟩ := Rep.slice_form hu5.rd
        obtain ⟨r0, r1, f0, f1⟩ := HC.out.below hb5 (by omega)
        have hz5 : wr.heap.size ≤ w5.heap.size := hb5.size
        have HB5 : Hid (Below w.heap.size w w5) := Lib.hid (HBr.out.trans (hb5.mono (by omega)))
        have HU5 := Lib.hid hu5
        clear hb5 hu5
        go_wp2
        refine bodyPost_ret (v := .agg #[.string mti, .slice A5 L.length c5]) (by simp [results, Tryz.results46, go_sem, r0, r1]) rfl ?_
        have hb6 := (HB5.out.setCell (p := ⟨w.heap.size, 0, none⟩) (Nat.le_refl _) (.string mti)).setCell (p := ⟨w.heap.size, 1, none⟩) (Nat.le_refl _) (.slice A5 L.length c5)
        have ht := ((Turned.refl w.heap.size (w.heap.size + 1) w5).set (b := w.heap.size) 0 (.string mti) (by omega) (by omega)).set (b := w.heap.size) 1 (.slice A5 L.length c5) (by omega) (by omega)
        rw [HK.out]
        exact pmRes_yes (r := ((mti, L), 0)) rfl ((HU5.out.turned ht (.inr (by omega)) (Nat.le_refl _)).mono (by omega) ht.size) hb6
      · have HK : Hid ((parseRes l).2 = 4) := Lib.hid (by rw [HP.out _ HS.out]; simp [hae])
        have hae' : (a == (l.length : Int)) = false := by simpa using hae
        clear hae
        go_wp2_with fail
        refine (need_no 4 _).mono ?_
        rintro e w4 ⟨rfl, rfl⟩
        go_wp2
        exact ⟨rfl, pmRes_no HK.out (by decide) HBr.out⟩
end Go.Proofs.YtkkbhlaakhkjnaaGreatDoor
/- Parse of the program: the deferred closure takes the panic back; no conditions on the bytes but their number. -/
set_option linter.unusedVariables false
namespace Go.Proofs.YtkkbhlaakhkjnaaGreatDoor
open Go.ChangeShapes Go.WideShapes Go.ChangeAt Go.RowKit

set_option maxRecDepth 100000 in
theorem assert_yes (c : Int) (w : World) : (Instr.typeAssert (.iface 67 (.int .i64 c)) 20 67 true).run Tryz.prog w = .ok (.tuple #[.int .i64 c, .bool true]) w := by kernel_rfl
set_option maxRecDepth 100000 in
theorem assert_no (w : World) : (Instr.typeAssert .nilIface 20 67 true).run Tryz.prog w = .ok (.tuple #[.int .i64 0, .bool false]) w := by kernel_rfl
set_option maxRecDepth 100000 in
set_option maxHeartbeats 1600000 in
/-- the closure, the frame below panics with a fault -/
theorem catch_fault (b q : Nat) (c : Int) (x y z : Value) (older : List PanicEntry) (w : World) (h0 : w.cell? ⟨b, 0, none⟩ = some x) (h1 : w.cell? ⟨b, 1, none⟩ = some y) (h2 : w.cell? ⟨q, 0, none⟩ = some z) (f0 : w.frozen? ⟨b, 0, none⟩ = false) (f1 : w.frozen? ⟨b, 1, none⟩ = false) (f2 : w.frozen? ⟨q, 0, none⟩ = false) (hbq : b ≠ q) :
    CallsD Tryz.prog 45 #[.pointer (some ⟨b, 0, none⟩), .pointer (some ⟨q, 0, none⟩)] (.panicking ({ v := .iface 67 (.int .i64 c), recovered := false } :: older)) w fun e u' w' =>
      e = .returned (.tuple #[]) ∧ u' = .panicking ({ v := .iface 67 (.int .i64 c), recovered := true } :: older) ∧ w' = ((w.setCell ⟨b, 0, none⟩ (.string ⟨#[]⟩)).setCell ⟨b, 1, none⟩ (.slice none 0 0)).setCell ⟨q, 0, none⟩ (.int .i64 c) := by
  refine callsD_of_wpS Tryz.func45 rfl fun c₀ cs hu => ?_
  apply wpS_seq
  apply wpS_region
  simp [wpOpsS, go_sem, recoverD, hu, Tryz.ntmps45, Exit.thenS, assert_yes]
  apply wpS_seq
  apply wpS_region
  simp [wpOpsS, go_sem, Exit.thenS]
  refine wpS_cond (t := true) (by simp [Act.eval, Array.replicate]) ?_
  simp only [if_true]
  apply wpS_region
  simp [wpOpsS, go_sem, Array.replicate, h0, h1, h2, f0, f1, f2, bodyPostS, results, Tryz.results45]
set_option maxRecDepth 100000 in
set_option maxHeartbeats 1600000 in
/-- the closure, the frame below returns -/
theorem catch_none (b q : Nat) (w : World) :
    CallsD Tryz.prog 45 #[.pointer (some ⟨b, 0, none⟩), .pointer (some ⟨q, 0, none⟩)] .returning w fun e u' w' => e = .returned (.tuple #[]) ∧ u' = .returning ∧ w' = w := by
  refine callsD_of_wpS Tryz.func45 rfl fun c₀ cs hu => ?_
  apply wpS_seq
  apply wpS_region
  simp [wpOpsS, go_sem, recoverD, hu, Tryz.ntmps45, Exit.thenS, assert_no]
  apply wpS_seq
  apply wpS_region
  simp [wpOpsS, go_sem, Exit.thenS]
  refine wpS_cond (t := false) (by simp [Act.eval, Array.replicate]) ?_
  simp only [Bool.false_eq_true, if_false]
  refine wpS_of_wp (wp_skip ?_)
  cases c₀
  simp_all [bodyPostS, results, Tryz.results45]
set_option maxRecDepth 100000 in
set_option maxHeartbeats 4000000 in
theorem implParse_any (hi : Nat) (v : Value) (l : List Int) (w : World) (p : Addr) (hg : 1 < w.heap.size) (hc : w.cell? ⟨1, 0, none⟩ = some (.iface 183 (.pointer (some p)))) (hn : l.length ≤ 1048577) (hl : isBytes l) (h : rd .u8 hi w v l) (hhi : hi ≤ w.heap.size) :
    Calls Tryz.prog 20 #[v] w (codeRes (parseRes l) w) := by
  obtain ⟨A, c, rfl, hcc⟩ := h.form
  have HPM := Lib.hid (fun (W : World) (hW : Below w.heap.size w W) => parseMsg_any hi _ l W p (Nat.lt_of_lt_of_le hg hW.size) ((hW.cell (p := ⟨1, 0, none⟩) hg).trans hc) hn hl (h.below hW hhi) (Nat.le_trans hhi hW.size))
  clear h hc
  have HB0 : Hid (∀ o1 o2, Below w.heap.size w ((w.alloc o1).alloc o2)) := Lib.hid fun o1 o2 => ((Below.refl _ _).alloc (Nat.le_refl _) o1).alloc (by simp) o2
  have hmf : ∀ (fn : Fn) (first cap : Array Value) (w : World), (Instr.makeFunc fn first cap).run Tryz.prog w = .ok (.func fn first cap) w := fun _ _ _ _ => rfl
  rcases parse_code l with h0 | ⟨h1, h4, hm⟩
  · have HR0 := Lib.hid h0
    clear h0
    go_enter_defers Tryz.func20, Tryz.ntmps20
    go_wp2_with fail
    refine (HPM.out _ (HB0.out _ _)).mono ?_
    rintro e w1 ⟨hb, he⟩
    rw [if_pos HR0.out] at he
    obtain ⟨u, rfl, hu⟩ := he
    obtain ⟨A5, c5, rfl, -⟩ := Rep.slice_form hu.rd
    obtain ⟨hcc', hff⟩ := bcell hb
    have hz : w.heap.size + 1 + 1 ≤ w1.heap.size := by have := hb.size; simpa using this
    have r0 : w1.cell? ⟨w.heap.size, 0, none⟩ = some (.string ⟨#[]⟩) := (hcc' w.heap.size 0 (by simp; omega)).trans (by simp)
    have r1 : w1.cell? ⟨w.heap.size, 1, none⟩ = some (.slice none 0 0) := (hcc' w.heap.size 1 (by simp; omega)).trans (by simp)
    have q0 : w1.cell? ⟨w.heap.size + 1, 0, none⟩ = some (.int .i64 0) := (hcc' (w.heap.size + 1) 0 (by simp)).trans (by simp)
    have f0 : w1.frozen? ⟨w.heap.size, 0, none⟩ = false := (hff w.heap.size 0 (by simp; omega)).trans (by simp)
    have f1 : w1.frozen? ⟨w.heap.size, 1, none⟩ = false := (hff w.heap.size 1 (by simp; omega)).trans (by simp)
    have f2 : w1.frozen? ⟨w.heap.size + 1, 0, none⟩ = false := (hff (w.heap.size + 1) 0 (by simp)).trans (by simp)
    have HB1 : Hid (Below w.heap.size w w1) := Lib.hid ((HB0.out _ _).trans (hb.mono (by simp; omega)))
    have HU : Hid (FieldsR.mine (w.heap.size + 2) w1.heap.size w1 [.slice A5 (parseRes l).1.2.length c5] (parseRes l).1.2) := Lib.hid (by simpa using hu)
    clear hb hu hcc' hff
    go_wp2
    refine leaves_cons (f := 45) (args := #[.pointer (some ⟨w.heap.size, 0, none⟩), .pointer (some ⟨w.heap.size + 1, 0, none⟩)]) (by simp) (by simp [go_sem]) ?_
    refine (catch_none w.heap.size (w.heap.size + 1) _).mono ?_
    rintro e u' w'' ⟨rfl, rfl, rfl⟩
    simp [Leaves, settle, results, Tryz.results20, go_sem, r0, r1, q0]
    have ht := (((Turned.refl w.heap.size (w.heap.size + 2) w1).set (b := w.heap.size) 0 (.string (parseRes l).1.1) (by omega) (by omega)).set (b := w.heap.size) 1 (.slice A5 (parseRes l).1.2.length c5) (by omega) (by omega)).set (b := w.heap.size + 1) 0 (.int .i64 0) (by omega) (by omega)
    exact ⟨_, by rw [HR0.out], (HU.out.turned ht (.inr (Nat.le_refl _)) (Nat.le_refl _)).mono (by omega) ht.size, ((HB1.out.setCell (p := ⟨_, _, none⟩) (Nat.le_refl _) _).setCell (p := ⟨_, _, none⟩) (Nat.le_refl _) _).setCell (p := ⟨_, _, none⟩) (show _ ≤ w.heap.size + 1 by omega) _⟩
  · have HMM := Lib.hid hm
    have hne : (parseRes l).2 ≠ 0 := by omega
    have HNE := Lib.hid hne
    clear hm hne
    go_enter_defers Tryz.func20, Tryz.ntmps20
    go_wp2_with fail
    refine (HPM.out _ (HB0.out _ _)).mono ?_
    rintro e w1 ⟨hb, he⟩
    rw [if_neg HNE.out] at he
    subst he
    obtain ⟨hcc', hff⟩ := bcell hb
    have hz : w.heap.size + 1 + 1 ≤ w1.heap.size := by have := hb.size; simpa using this
    have r0 : w1.cell? ⟨w.heap.size, 0, none⟩ = some (.string ⟨#[]⟩) := (hcc' w.heap.size 0 (by simp; omega)).trans (by simp)
    have r1 : w1.cell? ⟨w.heap.size, 1, none⟩ = some (.slice none 0 0) := (hcc' w.heap.size 1 (by simp; omega)).trans (by simp)
    have q0 : w1.cell? ⟨w.heap.size + 1, 0, none⟩ = some (.int .i64 0) := (hcc' (w.heap.size + 1) 0 (by simp)).trans (by simp)
    have f0 : w1.frozen? ⟨w.heap.size, 0, none⟩ = false := (hff w.heap.size 0 (by simp; omega)).trans (by simp)
    have f1 : w1.frozen? ⟨w.heap.size, 1, none⟩ = false := (hff w.heap.size 1 (by simp; omega)).trans (by simp)
    have f2 : w1.frozen? ⟨w.heap.size + 1, 0, none⟩ = false := (hff (w.heap.size + 1) 0 (by simp)).trans (by simp)
    have HB1 : Hid (Below w.heap.size w w1) := Lib.hid ((HB0.out _ _).trans (hb.mono (by simp; omega)))
    clear hb hcc' hff
    unfold fault
    go_wp2
    refine leaves_cons (f := 45) (args := #[.pointer (some ⟨w.heap.size, 0, none⟩), .pointer (some ⟨w.heap.size + 1, 0, none⟩)]) (by simp) (by simp [go_sem]) ?_
    refine (catch_fault w.heap.size (w.heap.size + 1) (parseRes l).2 _ _ _ [] _ r0 r1 q0 f0 f1 f2 (by omega)).mono ?_
    rintro e u' w'' ⟨rfl, rfl, rfl⟩
    simp [Leaves, settle, results, Tryz.results20, go_sem, r0, r1, q0]
    refine ⟨.slice none 0 0, by rw [HMM.out], by rw [HMM.out]; exact mine_none _ _ _, ((HB1.out.setCell (p := ⟨_, _, none⟩) (Nat.le_refl _) _).setCell (p := ⟨_, _, none⟩) (Nat.le_refl _) _).setCell (p := ⟨_, _, none⟩) (show _ ≤ w.heap.size + 1 by omega) _⟩
set_option maxRecDepth 100000 in
theorem parse_len (b : List Int) : (parseRes b).1.2.length ≤ 128 := by
  unfold parseRes
  split
  · simp
  · split
    · simp
    · generalize hq : pst b (nosL b) (nosE b) (nosL b).length = q
      cases q with
      | none => simp
      | some p =>
        obtain ⟨e, L⟩ := p
        have hl := pst_len _ e L hq
        have hn := nosL_len b
        show (if e = (b.length : Int) then (((⟨(gTxt b 0 4).toArray⟩, L), 0) : MsgD × Int) else ((⟨#[]⟩, []), 4)).1.2.length ≤ 128
        split
        · show L.length ≤ 128; omega
        · simp
set_option maxRecDepth 100000 in
theorem parse_size {b : List Int} (hb : isBytes b) : (parseRes b).1.1.size ≤ 4 ∧ (parseRes b).1.2.length ≤ 128 := by
  refine ⟨?_, parse_len b⟩
  rcases parse_code b with h | ⟨-, -, h⟩
  · have hp : parseRes b = ((parseRes b).1, 0) := Prod.ext rfl h
    have hok := (parse_only hb hp).1
    unfold msgOk mtiOk at hok
    simp only [Bool.and_eq_true, decide_eq_true_eq] at hok
    omega
  · rw [h]; exact Nat.zero_le _
end Go.Proofs.YtkkbhlaakhkjnaaGreatDoor
/- The law package's helpers on slices of strings: compare, mark, held; no conditions. -/
set_option linter.unusedVariables false
namespace Go.Proofs.YtkkbhlaakhkjnaaGreatDoor
open Go.ChangeShapes Go.WideShapes Go.ChangeAt Go.RowKit

/-- block b holds the strings of a list -/
def strRow (w : World) (b : Nat) (l : List (List UInt8)) : Prop := ∀ (j : Nat) (x : List UInt8), l[j]? = some x → w.cell? ⟨b, j, none⟩ = some (.string ⟨x.toArray⟩)
/-- .. and may be written -/
def strFree (w : World) (b n : Nat) : Prop := ∀ j : Nat, j < n → w.frozen? ⟨b, j, none⟩ = false
set_option maxRecDepth 100000 in
theorem strRow.below {w w' : World} {b B : Nat} {l : List (List UInt8)} (h : strRow w b l) (hb : Below B w w') (hlt : b < B) : strRow w' b l := fun j x hx => (hb.cell (p := ⟨b, j, none⟩) hlt).trans (h j x hx)
set_option maxRecDepth 100000 in
theorem strFree.below {w w' : World} {b B n : Nat} (h : strFree w b n) (hb : Below B w w') (hlt : b < B) : strFree w' b n := fun j hj => (hb.frozen (p := ⟨b, j, none⟩) hlt).trans (h j hj)

/-- the text of a mark -/
def markOf (k : Int) : List UInt8 := 109 :: Lib.decDigits k.toNat
set_option maxRecDepth 100000 in
theorem str_appS (a b : List UInt8) : ((⟨a.toArray⟩ : ByteArray) ++ (⟨b.toArray⟩ : ByteArray)) = ⟨(a ++ b).toArray⟩ := by apply ByteArray.ext; simp
set_option maxRecDepth 100000 in
theorem str_consS (c : UInt8) (b : List UInt8) : ((⟨#[c]⟩ : ByteArray) ++ (⟨b.toArray⟩ : ByteArray)) = ⟨(c :: b).toArray⟩ := str_appS [c] b
/-- the digits still to come -/
def restOf (k : Int) : List UInt8 := if k ≤ 0 then [] else Lib.decDigits k.toNat
set_option maxRecDepth 100000 in
theorem rest_all {k : Int} (h : 0 < k) : restOf k = Lib.decDigits k.toNat := by unfold restOf; rw [if_neg (by omega)]
set_option maxRecDepth 100000 in
theorem rest_none {k : Int} (h : k ≤ 0) : restOf k = [] := by unfold restOf; rw [if_pos h]
set_option maxRecDepth 100000 in
theorem rest_step {k : Int} (h : 0 < k) (t : List UInt8) : restOf (k / 10) ++ (UInt8.ofNat (48 + k % 10).toNat :: t) = restOf k ++ t := by
  rw [rest_all h]
  by_cases h1 : k < 10
  · rw [rest_none (k := k / 10) (by omega), Lib.decDigits_one (i := k.toNat) (by omega), show (48 + k % 10).toNat = 48 + k.toNat by omega]; rfl
  · rw [rest_all (k := k / 10) (by omega)]
    conv => rhs; rw [Lib.decDigits, dif_neg (show ¬ k.toNat < 10 by omega)]
    rw [show (k / 10).toNat = k.toNat / 10 by omega, show (48 + k % 10).toNat = 48 + k.toNat % 10 by omega]
    simp
set_option maxRecDepth 100000 in
theorem rest_len {k : Int} {t l : List UInt8} (h : restOf k ++ t = l) : t.length ≤ l.length := by rw [← h, List.length_append]; omega
set_option maxRecDepth 100000 in
theorem mark_len (k : Int) (h : k ≤ 1000000000) : (Lib.decDigits k.toNat).length ≤ 20 := by rw [Lib.decDigits_length]; exact Lib.nDigits_le20 _ (by omega)
set_option maxRecDepth 100000 in
set_option maxHeartbeats 800000 in
theorem markText_any (k : Int) (w : World) (h0 : 0 < k) (h1 : k ≤ 1000000000) :
    Calls Tryz.prog 75 #[.int .i64 k] w fun e w' => e = .returned (.string ⟨(markOf k).toArray⟩) ∧ Below w.heap.size w w' := by
  have hcv := fun (W : World) (c : Int) (T : TypeId) => conv_one W c T
  go_enter Tryz.func75, Tryz.ntmps75
  go_wp2
  go_loopw [3, 0] (fun tv kv wr => ∃ (m : Int) (t : List UInt8), kv = .int .i64 m ∧ tv = .string ⟨t.toArray⟩ ∧ restOf m ++ t = Lib.decDigits k.toNat ∧ 0 ≤ m ∧ m ≤ 1000000000 ∧ Below w.heap.size w wr) (fun _ kv _ => (intOf kv).toNat)
  case atStart => exact ⟨k, [], rfl, rfl, by simp [rest_all h0], by omega, h1, Below.refl _ _⟩
  case round =>
    obtain ⟨m, t, rfl, rfl, hd, hm0, hm1, hb⟩ := hrel
    have hl := rest_len hd
    have hl2 := mark_len k h1
    have hl3 : t.length ≤ 20 := by omega
    have HD := Lib.hid hd
    clear hd hl hl2
    by_cases hpos : 0 < m
    · have hst := Lib.hid (rest_step hpos t)
      go_wp2
      go_roundw
      case rel => exact ⟨m / 10, _, rfl, congrArg Value.string (str_consS _ _), hst.out.trans HD.out, by omega, by omega, hb.alloc hb.size _⟩
      case measure => simp [intOf] <;> omega
    · have hst := Lib.hid (rest_none (k := m) (by omega))
      go_wp2
      go_ret
      refine ⟨congrArg (fun b => Ending.returned (Value.string b)) ((str_consS _ _).trans ?_), hb⟩
      have := HD.out
      rw [hst.out] at this
      unfold markOf
      rw [← this]; rfl

/-- what the law package writes into a slice of strings: the marks from k on -/
def marksOf (k : Int) : Nat → List (List UInt8)
  | 0 => []
  | n + 1 => markOf k :: marksOf (k + 1) n
set_option maxRecDepth 100000 in
theorem marks_get (n : Nat) : ∀ (k : Int) (j : Nat), j < n → (marksOf k n)[j]? = some (markOf (k + j)) := by
  induction n with
  | zero => intro k j h; omega
  | succ n ih =>
    intro k j h
    cases j with
    | zero => simp [marksOf]
    | succ j =>
      simp only [marksOf, List.getElem?_cons_succ]
      rw [ih (k + 1) j (by omega)]
      congr 2
      omega

/-- of what was there block b alone may have turned -/
structure wrote (b : Nat) (w w' : World) : Prop where
  os : w'.os = w.os
  tape : w'.tape = w.tape
  output : w'.output = w.output
  size : w.heap.size ≤ w'.heap.size
  block : ∀ k, k < w.heap.size → k ≠ b → w'.heap[k]? = w.heap[k]?
set_option maxRecDepth 100000 in
theorem wrote.refl (b : Nat) (w : World) : wrote b w w := ⟨rfl, rfl, rfl, Nat.le_refl _, fun _ _ _ => rfl⟩
set_option maxRecDepth 100000 in
theorem wrote.then {b : Nat} {u v w : World} (h : wrote b u v) (g : Below v.heap.size v w) : wrote b u w :=
  ⟨g.os.trans h.os, g.tape.trans h.tape, g.output.trans h.output, Nat.le_trans h.size g.size, fun k hk hne => (g.block k (Nat.lt_of_lt_of_le hk h.size)).trans (h.block k hk hne)⟩
set_option maxRecDepth 100000 in
theorem wrote.set {b : Nat} {u v : World} (h : wrote b u v) (o : Nat) (x : Value) : wrote b u (v.setCell ⟨b, o, none⟩ x) :=
  ⟨h.os, h.tape, h.output, by simpa [World.setCell] using h.size, fun k hk hne => (Below.heap_setCell _ _ _ _ hne).trans (h.block k hk hne)⟩
set_option maxRecDepth 100000 in
theorem wrote.below {b B : Nat} {u v : World} (h : wrote b u v) (hB : B ≤ b) (hs : B ≤ u.heap.size) : Below B u v := ⟨h.os, h.tape, h.output, h.size, fun k hk => h.block k (by omega) (by omega)⟩
set_option maxRecDepth 100000 in
theorem wrote.row {b c : Nat} {u v : World} {l : List (List UInt8)} (h : wrote b u v) (hc : c < u.heap.size) (hne : c ≠ b) (hr : strRow u c l) : strRow v c l := fun j x hx =>
  (World.cell?_of_block (h.block c hc hne)).trans (hr j x hx)

/-- the first i places hold marks, all places can be written -/
def marked (w : World) (b : Nat) (k : Int) (i n : Nat) : Prop := ∀ j : Nat, j < n → w.frozen? ⟨b, j, none⟩ = false ∧ (∃ v, w.cell? ⟨b, j, none⟩ = some v) ∧ (j < i → w.cell? ⟨b, j, none⟩ = some (.string ⟨(markOf (k + j)).toArray⟩))
set_option maxRecDepth 100000 in
theorem marked.below {w w' : World} {b : Nat} {k : Int} {i n : Nat} (h : marked w b k i n) (hb : Below w.heap.size w w') (hlt : b < w.heap.size) : marked w' b k i n := fun j hj =>
  ⟨(hb.frozen (p := ⟨b, j, none⟩) hlt).trans (h j hj).1, by obtain ⟨v, hv⟩ := (h j hj).2.1; exact ⟨v, (hb.cell (p := ⟨b, j, none⟩) hlt).trans hv⟩, fun hi => (hb.cell (p := ⟨b, j, none⟩) hlt).trans ((h j hj).2.2 hi)⟩
set_option maxRecDepth 100000 in
theorem marked.set {w : World} {b : Nat} {k : Int} {i n : Nat} (h : marked w b k i n) (hi : i < n) : marked (w.setCell ⟨b, i, none⟩ (.string ⟨(markOf (k + i)).toArray⟩)) b k (i + 1) n := by
  intro j hj
  have hf : ∀ a, (w.setCell ⟨b, i, none⟩ (.string ⟨(markOf (k + i)).toArray⟩)).frozen? a = w.frozen? a := fun a => by simp
  refine ⟨(hf _).trans (h j hj).1, ?_⟩
  by_cases e : i = j
  · subst e
    obtain ⟨v, hv⟩ := (h i hj).2.1
    have := World.cell?_setCell_same w ⟨b, i, none⟩ (.string ⟨(markOf (k + i)).toArray⟩) hv
    exact ⟨⟨_, this⟩, fun _ => this⟩
  · have hne : ∀ x, (w.setCell ⟨b, i, none⟩ x).cell? ⟨b, j, none⟩ = w.cell? ⟨b, j, none⟩ := fun x => World.cell?_setCell_other _ _ _ _ (fun he => e (by simpa using congrArg Addr.off he))
    obtain ⟨v, hv⟩ := (h j hj).2.1
    exact ⟨⟨v, (hne _).trans hv⟩, fun hlt => (hne _).trans ((h j hj).2.2 (by omega))⟩

end Go.Proofs.YtkkbhlaakhkjnaaGreatDoor
/- Fields and messages: what the law package's marks and looks at the marks do; no conditions. -/
set_option linter.unusedVariables false
namespace Go.Proofs.YtkkbhlaakhkjnaaGreatDoor
open Go.ChangeShapes Go.WideShapes Go.ChangeAt Go.RowKit

def fieldMark (k : Int) (j : Nat) : FieldD := (k + 2 * (j : Int), ⟨(markOf (k + 2 * (j : Int) + 1)).toArray⟩)
def fieldsMark (k : Int) (n : Nat) : List FieldD := (List.range n).map (fieldMark k)
set_option maxRecDepth 100000 in
theorem fieldsMark_len (k : Int) (n : Nat) : (fieldsMark k n).length = n := by simp [fieldsMark]
set_option maxRecDepth 100000 in
theorem fieldsMark_get (k : Int) (n j : Nat) (h : j < n) : (fieldsMark k n).getD j (0, ⟨#[]⟩) = fieldMark k j := by simp [fieldsMark, h]
set_option maxRecDepth 100000 in
theorem fieldsMark_at (k : Int) (n j : Nat) (h : j < n) : (fieldsMark k n)[j]? = some (fieldMark k j) := by simp [fieldsMark, h]
set_option maxRecDepth 100000 in
/-- a slice of fields of one's own: empty, or one block that may be written -/
theorem fields_own {lo hi : Nat} {w : World} {v : Value} {l : List FieldD} (h : FieldsR.mine lo hi w [v] l) :
    ∃ A c, v = .slice A l.length c ∧ l.length ≤ c ∧ (l = [] ∨ ∃ b off, A = some ⟨b, off, none⟩ ∧ lo ≤ b ∧ b < hi ∧ roomL w b off (l.length * 2)) := by
  obtain ⟨F, ⟨A, c, hv, hc, h⟩, -, hF⟩ := h
  simp only [List.cons.injEq, and_true] at hv
  refine ⟨A, c, hv, hc, ?_⟩
  rcases h with ⟨rfl, _⟩ | ⟨b, off, Fs, rfl, rfl, hl, h⟩
  · exact .inl rfl
  · have hb := hF b (List.mem_cons_self ..)
    refine .inr ⟨b, off, rfl, hb.1, hb.2, fun t ht => ?_⟩
    have hj : t / 2 < l.length := by omega
    obtain ⟨xs, h1, h2, h3⟩ := h (t / 2) _ _ (List.getElem?_eq_getElem hj) (List.getElem?_eq_getElem (by omega))
    rw [field_own] at h1
    obtain ⟨rfl, -⟩ := h1
    have hk : FieldR.k = 2 := rfl
    rw [hk] at h2 h3
    have e : off + t = off + t / 2 * 2 + t % 2 := by omega
    rw [e]
    refine ⟨?_, h3 (t % 2) (by omega)⟩
    rcases Nat.mod_two_eq_zero_or_one t with m | m
    · rw [m]; exact ⟨_, h2 0 _ rfl⟩
    · rw [m]; exact ⟨_, h2 1 _ rfl⟩
set_option maxRecDepth 100000 in
set_option maxHeartbeats 1600000 in
theorem markFields_any (lo hi : Nat) (v : Value) (l : List FieldD) (k : Int) (w : World) (hn : l.length ≤ 2000000) (hk0 : 0 < k) (hk1 : k ≤ 1000000) (h : FieldsR.mine lo hi w [v] l) (hh : hi ≤ w.heap.size) :
    Calls Tryz.prog 41 #[v, .int .i64 k] w fun e w' => e = .returned (.int .i64 (k + 2 * (l.length : Int))) ∧ FieldsR.mine lo hi w' [v] (fieldsMark k l.length) ∧ Turned lo hi w w' := by
  obtain ⟨A, c, rfl, hc, hm⟩ := fields_own h
  clear h
  rcases hm with rfl | ⟨b, off, rfl, h1, h2, hm⟩
  · go_enter Tryz.func41, Tryz.ntmps41
    go_wp2
    go_loop [1, 5] (fun kv iv => iv = .int .i64 0 ∧ kv = .int .i64 k) (fun _ _ => 0)
    case atStart => exact ⟨rfl, rfl⟩
    case round =>
      obtain ⟨rfl, rfl⟩ := hrel
      go_wp2
      go_ret
      exact ⟨by simp, ⟨[], ⟨A, c, rfl, hc, .inl ⟨rfl, rfl⟩⟩, List.nodup_nil, by simp⟩, Turned.refl _ _ _⟩
  generalize l.length = n at hn hc hm ⊢
  have HM := Lib.hid hm
  clear hm
  go_enter Tryz.func41, Tryz.ntmps41
  go_wp2
  go_loopw [1, 5] (fun kv iv wr => ∃ i : Nat, i ≤ n ∧ iv = .int .i64 i ∧ kv = .int .i64 (k + 2 * (i : Int)) ∧ Hid (filled wr b off 2 n i fun j => fCells (fieldMark k j)) ∧ Hid (Turned lo hi w wr) ∧ w.heap.size ≤ wr.heap.size) (fun _ iv _ => n - (intOf iv).toNat)
  case atStart => exact ⟨0, Nat.zero_le _, rfl, val_int (by simp), Lib.hid (filled.start HM.out), Lib.hid (Turned.refl _ _ _), Nat.le_refl _⟩
  case round =>
    obtain ⟨i, hi', rfl, rfl, HF, HT, hz⟩ := hrel
    by_cases hin : i < n
    · obtain ⟨⟨u0, d0⟩, f0⟩ := HF.out.cells hin 0 (by omega)
      obtain ⟨⟨u1, d1⟩, f1⟩ := HF.out.cells hin 1 (by omega)
      simp only [Nat.add_zero] at d0 f0
      have g1 : (i : Int) < (n : Int) := by omega
      have g2 : 0 ≤ (i : Int) := by omega
      go_wp2_with fail
      refine (markText_any (k + 2 * (i : Int) + 1) _ (by omega) (by omega)).mono ?_
      rintro e w2 ⟨rfl, hb2⟩
      have hblk := hb2.block b (show b < _ by simp [World.setCell]; omega)
      have d1 := (hb2.cell (p := ⟨b, off + i * 2 + 1, none⟩) (show b < _ by simp [World.setCell]; omega)).trans ((World.cell?_setCell_other _ _ _ _ (by simp)).trans d1)
      have f1 : w2.frozen? ⟨b, off + i * 2 + 1, none⟩ = false := (hb2.frozen (p := ⟨b, off + i * 2 + 1, none⟩) (show b < _ by simp [World.setCell]; omega)).trans (by simpa using f1)
      have hz2 := hb2.size
      have hz3 : wr.heap.size ≤ w2.heap.size := by simpa [World.setCell] using hz2
      have HT2 : Hid (Turned lo hi w w2) := Lib.hid ((HT.out.set (b := b) (off + i * 2) (.int .i64 (k + 2 * (i : Int))) h1 h2).trans (Turned.of_below hb2))
      have HK := Lib.hid hblk
      clear hb2 hz2 hblk
      go_wp2
      go_roundw
      case rel => exact ⟨i + 1, by omega, by go_num, val_int (by omega), Lib.hid ((HF.out.next hin (fun _ _ => rfl)).keep (set_congr HK.out _ _)), Lib.hid (HT2.out.set _ _ h1 h2), by simp [World.setCell]; omega⟩
      case measure => simp [intOf] <;> omega
    · obtain rfl : i = n := by omega
      go_wp2
      go_ret
      refine ⟨rfl, ?_, HT.out⟩
      refine fields_mine (fieldsMark_len k i).symm hc h1 h2 ⟨HF.out.room, fun j hj => ?_⟩
      rw [fieldsMark_get k i j hj]
      exact HF.out.at_ j hj
set_option maxRecDepth 100000 in
theorem markOf_size (k : Int) (h : k ≤ 1000000000) : (markOf k).length ≤ 21 := by
  have := mark_len k h
  unfold markOf
  simp; omega
set_option maxRecDepth 100000 in
set_option maxHeartbeats 1600000 in
theorem heldFields_any (hi : Nat) (v : Value) (n : Nat) (k : Int) (w : World) (hn : n ≤ 2000000) (hk0 : 0 < k) (hk1 : k ≤ 1000000) (h : FieldsR.rd hi w [v] (fieldsMark k n)) (hh : hi ≤ w.heap.size) :
    Calls Tryz.prog 47 #[v, .int .i64 k] w fun e w' => e = .returned (.int .i64 (k + 2 * (n : Int))) ∧ Below w.heap.size w w' := by
  obtain ⟨A, c, hv, hc, h'⟩ := fields_rd h
  rw [fieldsMark_len] at hv hc
  have HR := Lib.hid h'
  clear h h'
  subst hv
  go_enter Tryz.func47, Tryz.ntmps47
  go_wp2
  go_loopw [1, 5] (fun kv iv wr => ∃ i : Nat, i ≤ n ∧ iv = .int .i64 i ∧ kv = .int .i64 (k + 2 * (i : Int)) ∧ Hid (Below w.heap.size w wr) ∧ w.heap.size ≤ wr.heap.size) (fun _ iv _ => n - (intOf iv).toNat)
  case atStart => exact ⟨0, Nat.zero_le _, rfl, val_int (by simp), Lib.hid (Below.refl _ _), Nat.le_refl _⟩
  case round =>
    obtain ⟨i, hi', rfl, rfl, HB, hz⟩ := hrel
    by_cases hin : i < n
    · obtain ⟨b, off, rfl, hb, c0, c1⟩ := HR.out i _ (fieldsMark_at k n i hin)
      have c0 := (HB.out.cell (p := ⟨b, _, none⟩) (show b < w.heap.size by omega)).trans c0
      have c1 := (HB.out.cell (p := ⟨b, _, none⟩) (show b < w.heap.size by omega)).trans c1
      simp only [fieldMark] at c0 c1
      have g1 : (i : Int) < (n : Int) := by omega
      have g2 : 0 ≤ (i : Int) := by omega
      have hml := markOf_size (k + 2 * (i : Int) + 1) (by omega)
      have HX : Hid (∀ w', Calls Tryz.prog 75 #[.int .i64 (k + 2 * (i : Int) + 1)] w' fun e w'' => e = .returned (.string ⟨(markOf (k + 2 * (i : Int) + 1)).toArray⟩) ∧ Below w'.heap.size w' w'') := Lib.hid fun w' => markText_any _ w' (by omega) (by omega)
      generalize markOf (k + 2 * (i : Int) + 1) = mk at c1 hml HX
      go_wp2
      go_region_held3 (fun w' => w'.cell? ⟨b, off + i * 2 + 1, none⟩ = some (.string ⟨mk.toArray⟩)) (go_keep) ((go_at_call 75; refine (HX.out _).mono ?_; rintro e w2 ⟨rfl, hb2⟩; have q := (hb2.cell (p := ⟨b, off + i * 2 + 1, none⟩) (show b < wr.heap.size by omega)).trans c1))
      have hz2 : wr.heap.size ≤ w2.heap.size := hb2.size
      have HB2 : Hid (Below w.heap.size w w2) := Lib.hid ((HB.out.trans (below_drew _ _)).trans (hb2.mono hz))
      clear hb2
      go_wp2
      go_roundw
      case rel => exact ⟨i + 1, by omega, by go_num, val_int (by omega), HB2, by omega⟩
      case measure => simp [intOf] <;> omega
    · obtain rfl : i = n := by omega
      go_wp2
      go_ret
      exact ⟨rfl, HB.out⟩
def msgMark (m : MsgD) (k : Int) : List FieldD := fieldsMark k m.2.length
set_option maxRecDepth 100000 in
theorem markMsg_any (lo hi : Nat) (v : Value) (m : MsgD) (k : Int) (w : World) (hn : m.2.length ≤ 2000000) (hk0 : 0 < k) (hk1 : k ≤ 1000000) (h : FieldsR.mine lo hi w [v] m.2) (hh : hi ≤ w.heap.size) :
    Calls Tryz.prog 15 #[.agg #[.string m.1, v], .int .i64 k] w fun e w' => e = .returned (.int .i64 (k + 2 * (m.2.length : Int))) ∧ FieldsR.mine lo hi w' [v] (msgMark m k) ∧ Turned lo hi w w' := by
  obtain ⟨A, c, rfl, -⟩ := Rep.slice_form h.rd
  have H := Lib.hid h
  clear h
  have HB0 : Hid (∀ o, Below w.heap.size w (w.alloc o)) := Lib.hid fun o => (Below.refl _ _).alloc (Nat.le_refl _) o
  go_enter Tryz.func15, Tryz.ntmps15
  go_wp2_with fail
  refine (markFields_any lo hi _ m.2 k _ hn hk0 hk1 (H.out.below (HB0.out _) hh) (by simp; omega)).mono ?_
  rintro e w2 ⟨rfl, hm, ht⟩
  have HM := Lib.hid hm
  have HT := Lib.hid ht
  clear hm ht
  go_wp2
  go_ret
  exact ⟨rfl, HM.out, (Turned.of_below (HB0.out _)).trans HT.out⟩
set_option maxRecDepth 100000 in
theorem heldMsg_any (hi : Nat) (v : Value) (t : ByteArray) (n : Nat) (k : Int) (w : World) (hn : n ≤ 2000000) (hk0 : 0 < k) (hk1 : k ≤ 1000000) (h : FieldsR.rd hi w [v] (fieldsMark k n)) (hh : hi ≤ w.heap.size) :
    Calls Tryz.prog 21 #[.agg #[.string t, v], .int .i64 k] w fun e w' => e = .returned (.int .i64 (k + 2 * (n : Int))) ∧ Below w.heap.size w w' := by
  obtain ⟨A, c, hv, -⟩ := Rep.slice_form h
  have H := Lib.hid h
  clear h
  subst hv
  have HB0 : Hid (∀ o, Below w.heap.size w (w.alloc o)) := Lib.hid fun o => (Below.refl _ _).alloc (Nat.le_refl _) o
  go_enter Tryz.func21, Tryz.ntmps21
  go_wp2_with fail
  refine (heldFields_any hi _ n k _ hn hk0 hk1 (Rep.below (R := FieldsR) H.out (HB0.out _) hh) (by simp; omega)).mono ?_
  rintro e w2 ⟨rfl, hb⟩
  have HB : Hid (Below w.heap.size w w2) := Lib.hid ((HB0.out _).trans (hb.mono (by simp)))
  have hp : 0 ≤ k + 2 * (n : Int) := by omega
  clear hb
  go_wp2
  go_ret
  exact ⟨rfl, HB.out⟩
end Go.Proofs.YtkkbhlaakhkjnaaGreatDoor
/- Numbers in memory while other blocks turn. No conditions. -/
set_option linter.unusedVariables false
namespace Go.Proofs.YtkkbhlaakhkjnaaGreatDoor
open Go.ChangeShapes Go.WideShapes Go.ChangeAt Go.RowKit

set_option maxRecDepth 100000 in
theorem nums.turned {K : IntKind} {lo hi lo' hi' : Nat} {w w' : World} {v : Value} {l : List Int} (h : nums K lo hi w v l) (ht : Turned lo' hi' w w') (h1 : hi ≤ lo' ∨ hi' ≤ lo) (h2 : hi ≤ w.heap.size) : nums K lo hi w' v l := by
  obtain ⟨A, c, rfl, hc, hj⟩ := h
  refine ⟨A, c, rfl, hc, fun j hl => ?_⟩
  obtain ⟨b, off, e, g1, g2, g3, g4⟩ := hj j hl
  have hk := ht.block b (by omega) (by omega)
  exact ⟨b, off, e, g1, g2, (cell_keep hk).trans g3, (frozen_keep hk).trans g4⟩
set_option maxRecDepth 100000 in
theorem rd.turned {K : IntKind} {hi lo' hi' : Nat} {w w' : World} {v : Value} {l : List Int} (h : rd K hi w v l) (ht : Turned lo' hi' w w') (h1 : hi ≤ lo') (h2 : hi ≤ w.heap.size) : rd K hi w' v l := by
  obtain ⟨A, c, rfl, hc, hj⟩ := h
  refine ⟨A, c, rfl, hc, fun j hl => ?_⟩
  obtain ⟨b, off, e, g2, g3⟩ := hj j hl
  have hk := ht.block b (by omega) (by omega)
  exact ⟨b, off, e, g2, (cell_keep hk).trans g3⟩
end Go.Proofs.YtkkbhlaakhkjnaaGreatDoor
/- What is found in a message's list after WithField and WithoutField. Plain facts; no conditions. -/
set_option linter.unusedVariables false
namespace Go.Proofs.YtkkbhlaakhkjnaaGreatDoor
open Go.ChangeShapes Go.WideShapes Go.ChangeAt Go.RowKit

set_option maxRecDepth 100000 in
theorem asc_one {l : List FieldD} (h : asc l) {x y : FieldD} (hx : x ∈ l) (hy : y ∈ l) (he : x.1 = y.1) : x = y := by
  obtain ⟨i, hi, rfl⟩ := List.mem_iff_getElem.1 hx
  obtain ⟨j, hj, rfl⟩ := List.mem_iff_getElem.1 hy
  have hp := List.pairwise_iff_getElem.1 h
  rcases Nat.lt_trichotomy i j with g | g | g
  · have := hp i j hi hj g; omega
  · subst g; rfl
  · have := hp j i hj hi g; omega
set_option maxRecDepth 100000 in
theorem fld_of {l : List FieldD} (h : asc l) {x : FieldD} (hx : x ∈ l) : fldHas l x.1 = true ∧ fldTxt l x.1 = x.2 := by
  constructor
  · unfold fldHas; rw [List.any_eq_true]; exact ⟨x, hx, by simp⟩
  · unfold fldTxt
    cases hf : l.find? (fun y => decide (y.1 = x.1)) with
    | none => exact absurd (List.find?_eq_none.1 hf x hx) (by simp)
    | some y =>
      have h1 := List.mem_of_find?_eq_some hf
      have h2 := List.find?_some hf
      rw [asc_one h h1 hx (by simpa using h2)]; rfl
set_option maxRecDepth 100000 in
theorem fld_no {l : List FieldD} {n : Int} (h : ∀ x ∈ l, x.1 ≠ n) : fldHas l n = false ∧ fldTxt l n = ⟨#[]⟩ :=
  find_none fun j y hj hy => h y (List.mem_of_getElem? hy)
set_option maxRecDepth 100000 in
theorem fld_same {l l' : List FieldD} (h : asc l) (h' : asc l') {n : Int} (he : ∀ x, x.1 = n → (x ∈ l ↔ x ∈ l')) : fldHas l n = fldHas l' n ∧ fldTxt l n = fldTxt l' n := by
  by_cases hx : ∃ x ∈ l, x.1 = n
  · obtain ⟨x, hx, rfl⟩ := hx
    have h1 := fld_of h hx
    have h2 := fld_of h' ((he x rfl).1 hx)
    rw [h1.1, h1.2, h2.1, h2.2]; exact ⟨rfl, rfl⟩
  · have h0 : ∀ x ∈ l, x.1 ≠ n := fun x g e => hx ⟨x, g, e⟩
    have h1 := fld_no h0
    have h2 := fld_no (l := l') (n := n) (fun x g e => h0 x ((he x e).2 g) e)
    rw [h1.1, h1.2, h2.1, h2.2]; exact ⟨rfl, rfl⟩
set_option maxRecDepth 100000 in
theorem with_found {l : List FieldD} (h : asc l) (no : Int) (s : ByteArray) : fldHas (withF no s l) no = true ∧ fldTxt (withF no s l) no = s :=
  fld_of (x := (no, s)) (withF_up h no s) ((withF_mem h no s _).2 (Or.inl rfl))
set_option maxRecDepth 100000 in
theorem with_other {l : List FieldD} (h : asc l) (no : Int) (s : ByteArray) {n : Int} (hn : n ≠ no) : fldHas (withF no s l) n = fldHas l n ∧ fldTxt (withF no s l) n = fldTxt l n :=
  fld_same (withF_up h no s) h fun x hx => by
    rw [withF_mem h no s x]
    constructor
    · rintro (e | e)
      · rw [e] at hx; exact absurd hx.symm hn
      · exact e.1
    · intro e; exact Or.inr ⟨e, fun g => hn (by rw [← hx, g])⟩
set_option maxRecDepth 100000 in
theorem without_up {l : List FieldD} (h : asc l) (no : Int) : asc (withoutL l no) := List.Pairwise.filter _ h
set_option maxRecDepth 100000 in
theorem without_mem {l : List FieldD} {no : Int} {x : FieldD} : x ∈ withoutL l no ↔ x ∈ l ∧ x.1 ≠ no := by simp [withoutL]
set_option maxRecDepth 100000 in
theorem without_gone (l : List FieldD) (no : Int) : fldHas (withoutL l no) no = false ∧ fldTxt (withoutL l no) no = ⟨#[]⟩ :=
  fld_no fun x hx => (without_mem.1 hx).2
set_option maxRecDepth 100000 in
theorem without_other {l : List FieldD} (h : asc l) {no n : Int} (hn : n ≠ no) : fldHas (withoutL l no) n = fldHas l n ∧ fldTxt (withoutL l no) n = fldTxt l n :=
  fld_same (without_up h no) h fun x hx => by
    rw [without_mem]
    exact ⟨fun e => e.1, fun e => ⟨e, fun g => hn (by rw [← hx, g])⟩⟩
set_option maxRecDepth 100000 in
theorem without_ok {m : MsgD} (no : Int) (h : msgOk m = true) : msgOk (m.1, withoutL m.2 no) = true := by
  unfold msgOk at h ⊢
  rw [Bool.and_eq_true] at h ⊢
  obtain ⟨hf, hp⟩ := listOk_all h.2
  exact ⟨h.1, listOk_of (fun x hx => hf x (without_mem.1 hx).1) (without_up hp no)⟩
set_option maxRecDepth 100000 in
theorem split_no {l : List FieldD} (h : asc l) (no : Int) : withoutL l no = below no l ++ above no l := by
  induction l with
  | nil => rfl
  | cons x l ih =>
    obtain ⟨hx, hl⟩ := List.pairwise_cons.1 h
    rcases Int.lt_trichotomy x.1 no with g | g | g
    · have h1 : withoutL (x :: l) no = x :: withoutL l no := List.filter_cons_of_pos (by simp only [decide_eq_true_eq]; omega)
      have h2 : below no (x :: l) = x :: below no l := List.filter_cons_of_pos (by simpa using g)
      have h3 : above no (x :: l) = above no l := List.filter_cons_of_neg (by simp only [decide_eq_true_eq]; omega)
      rw [h1, h2, h3, ih hl]; rfl
    · have hg := all_above (no := no) (l := l) (fun y hy => by have := hx y hy; omega)
      have h1 : withoutL (x :: l) no = withoutL l no := List.filter_cons_of_neg (by simp only [decide_eq_true_eq]; omega)
      have h2 : below no (x :: l) = below no l := List.filter_cons_of_neg (by simp only [decide_eq_true_eq]; omega)
      have h3 : above no (x :: l) = above no l := List.filter_cons_of_neg (by simp only [decide_eq_true_eq]; omega)
      rw [h1, h2, h3, ih hl]
    · have hg := all_above (no := no) (l := x :: l) (fun y hy => by
        rcases List.mem_cons.1 hy with rfl | hy
        · exact g
        · have := hx y hy; omega)
      rw [hg.1, hg.2.1]; exact hg.2.2
set_option maxRecDepth 100000 in
theorem without_with {l : List FieldD} (h : asc l) (no : Int) (s : ByteArray) : withoutL (withF no s l) no = withoutL l no := by
  rw [split_no h, withF_asc h]
  unfold withoutL
  rw [List.filter_append, List.filter_cons_of_neg (by simp)]
  congr 1
  · exact List.filter_eq_self.2 fun x hx => by have := (mem_below.1 hx).2; simp only [decide_eq_true_eq]; omega
  · exact List.filter_eq_self.2 fun x hx => by have := (mem_above.1 hx).2; simp only [decide_eq_true_eq]; omega
end Go.Proofs.YtkkbhlaakhkjnaaGreatDoor
/- The reference's draws of digits and of a number: what they return lies in its range; nothing that stood before turns. -/
set_option linter.unusedVariables false
namespace Go.Proofs.YtkkbhlaakhkjnaaGreatDoor
open Go.ChangeShapes Go.WideShapes Go.ChangeAt Go.RowKit

set_option maxRecDepth 100000 in
theorem str_join (a b : List UInt8) : ((⟨a.toArray⟩ : ByteArray) ++ (⟨b.toArray⟩ : ByteArray)) = ⟨(a ++ b).toArray⟩ := by apply ByteArray.ext; simp
set_option maxRecDepth 100000 in
theorem str_snoc (c : UInt8) (b : List UInt8) : ((⟨b.toArray⟩ : ByteArray) ++ (⟨#[c]⟩ : ByteArray)) = ⟨(b ++ [c]).toArray⟩ := str_join b [c]
set_option maxRecDepth 100000 in
theorem readable.below {w w' : World} {b : Nat} {sv : Value} (hr : readable w b sv) (hb : Below w.heap.size w w') : readable w' b sv := by
  unfold readable at hr ⊢
  split at hr
  · exact hr
  · obtain ⟨h1, h3⟩ := hr
    refine ⟨h1, fun i hi => ?_⟩
    obtain ⟨s, off, rfl, h2, z, hz, h4⟩ := h3 i hi
    have hlt : ∀ (s o : Nat) (v : Value), w.cell? ⟨s, o, none⟩ = some v → s < w.heap.size := fun s o v h => by
      rcases Nat.lt_or_ge s w.heap.size with h' | h'
      · exact h'
      · simp [World.cell?, Array.getElem?_eq_none h'] at h
    exact ⟨s, off, rfl, h2, z, (hb.cell (p := ⟨_, _, none⟩) (hlt _ _ _ hz)).trans hz, h4⟩
  · exact hr
set_option maxRecDepth 100000 in
theorem cur_alloc {w : World} {b : Nat} {sv : Value} {i : Nat} {h : Int} (hc : curAt w b sv i h) (o : Obj) : curAt (w.alloc o) b sv i h := by
  have hlt := lt_of_block hc
  show (w.heap.push o)[b]? = _
  rw [Array.getElem?_push, if_neg (by omega)]
  exact hc
set_option maxRecDepth 100000 in
theorem dig_of {x : Int} (h0 : 0 ≤ x) (h1 : x ≤ 9) : isDig (UInt8.ofNat (48 + x).toNat) = true := by
  rw [isDig_iff, UInt8.toNat_ofNat']
  simp
  omega

/-- a text of digits, at least one -/
def digText (most : Nat) (w : World) (e : Ending) (w' : World) : Prop :=
  ∃ t : List UInt8, e = .returned (.string ⟨t.toArray⟩) ∧ 1 ≤ t.length ∧ t.length ≤ most ∧ t.all isDig = true ∧ Below w.heap.size w w'

end Go.Proofs.YtkkbhlaakhkjnaaGreatDoor
/- The reference's draws of a text out of a list; what a step with the cursor leaves as it was; no conditions. -/
set_option linter.unusedVariables false
namespace Go.Proofs.YtkkbhlaakhkjnaaGreatDoor
open Go.ChangeShapes Go.WideShapes Go.ChangeAt Go.RowKit

/-- block p holds these texts -/
def textsAt (w : World) (p : Nat) (L : List (List UInt8)) : Prop := ∀ (j : Nat) (x : List UInt8), L[j]? = some x → w.cell? ⟨p, j, none⟩ = some (.string ⟨x.toArray⟩)
set_option maxRecDepth 100000 in
theorem onlyAt.grown {b : Nat} {u v : World} (h : onlyAt b u v) : u.grownBy v (some b) := ⟨h.os, h.tape, h.output, by rw [h.size]; exact Nat.le_refl _, fun k _ hne => h.block k (fun e => hne (by rw [e]))⟩
set_option maxRecDepth 100000 in
theorem grown_trans {u v w : World} {b : Nat} (h : u.grownBy v (some b)) (g : v.grownBy w (some b)) : u.grownBy w (some b) :=
  ⟨g.os.trans h.os, g.tape.trans h.tape, g.output.trans h.output, Nat.le_trans h.size g.size, fun k hk hne => (g.block k (Nat.lt_of_lt_of_le hk h.size) hne).trans (h.block k hk hne)⟩
set_option maxRecDepth 100000 in
theorem grown_below {u v : World} {b : Nat} (h : Below u.heap.size u v) : u.grownBy v (some b) := ⟨h.os, h.tape, h.output, h.size, fun k hk _ => h.block k hk⟩
set_option maxRecDepth 100000 in
theorem grown_alloc {u v : World} {b : Nat} (h : u.grownBy v (some b)) (o : Obj) : u.grownBy (v.alloc o) (some b) := grown_trans h (grown_below ((Below.refl _ _).alloc (Nat.le_refl _) _))
set_option maxRecDepth 100000 in
theorem readable.grownAt {w w' : World} {b : Nat} {sv : Value} (hr : readable w b sv) (hg : w.grownBy w' (some b)) (hb : b ≤ w.heap.size) : readable w' b sv := by
  unfold readable at hr ⊢
  split at hr
  · exact hr
  · obtain ⟨h1, h3⟩ := hr
    refine ⟨h1, fun i hi => ?_⟩
    obtain ⟨s, off, rfl, h2, z, hz, h4⟩ := h3 i hi
    exact ⟨s, off, rfl, h2, z, (World.cell?_of_block (a := ⟨s, _, none⟩) (hg.block s (by omega) (fun e => by simp at e; omega))).trans hz, h4⟩
  · exact hr
set_option maxRecDepth 100000 in
theorem lt_of_cur {w : World} {b : Nat} {sv : Value} {i : Nat} {h : Int} (hc : curAt w b sv i h) : b < w.heap.size := lt_of_block hc

set_option maxRecDepth 100000 in
set_option maxHeartbeats 800000 in
/-- one of the texts of a list -/
theorem pickStr_any (b : Nat) (sv : Value) (i : Nat) (h : Int) (p n : Nat) (L : List (List UInt8)) (w : World) (hc : curAt w b sv i h) (hi : i ≤ lenOf sv) (hr : readable w b sv) (hp : p ≠ b) (hL : textsAt w p L) (hn : L.length = n) (h0 : 0 < n) (h1 : n ≤ 256) :
    Calls Tryz.prog 85 #[.pointer (some ⟨b, 0, none⟩), .slice (some ⟨p, 0, none⟩) n n] w fun e w' => ∃ (x : List UInt8) (i' : Nat) (h' : Int), x ∈ L ∧ e = .returned (.string ⟨x.toArray⟩) ∧ i' ≤ lenOf sv ∧ curAt w' b sv i' h' ∧ onlyAt b w w' := by
  have HL := Lib.hid hL
  have HN := Lib.hid hn
  clear hL hn
  go_enter Tryz.func85, Tryz.ntmps85
  go_wp2_with fail
  refine (below_any b sv i h n w hc hi hr (by omega) (by omega)).mono ?_
  rintro e w1 ⟨x, i1, h1, rfl, hx0, hx1, hi1, hc1, ho1⟩
  obtain ⟨k, rfl⟩ := Int.eq_ofNat_of_zero_le hx0
  have hk : k < L.length := by have := HN.out; omega
  have hk' : k < n := by omega
  have hcell : w1.cell? ⟨p, k, none⟩ = some (.string ⟨(L[k]).toArray⟩) := (ho1.cell (p := ⟨p, k, none⟩) hp).trans (HL.out k _ (List.getElem?_eq_getElem hk))
  have HM := Lib.hid (List.getElem_mem hk)
  generalize L[k] = t at hcell HM
  go_wp2
  go_ret
  exact ⟨t, i1, h1, HM.out, rfl, hi1, hc1, ho1⟩
end Go.Proofs.YtkkbhlaakhkjnaaGreatDoor
/- FieldNos of both: all field numbers in ascending order; no conditions. -/
set_option linter.unusedVariables false
namespace Go.Proofs.YtkkbhlaakhkjnaaGreatDoor
open Go.ChangeShapes Go.WideShapes Go.ChangeAt Go.RowKit

def resI (L : List Int) (w : World) (e : Ending) (w' : World) : Prop := ∃ v, e = .returned v ∧ nums .i64 w.heap.size w'.heap.size w' v L ∧ Below w.heap.size w w'
def upTo (k : Nat) : List Int := ((List.range k).map fun (i : Nat) => (i : Int) + 1).filter fun n => fKind n != 0
set_option maxRecDepth 100000 in
theorem upTo_yes {k : Nat} (h : fKind ((k : Int) + 1) ≠ 0) : upTo (k + 1) = upTo k ++ [(k : Int) + 1] := by
  simp [upTo, List.range_succ, h]
set_option maxRecDepth 100000 in
theorem upTo_no {k : Nat} (h : fKind ((k : Int) + 1) = 0) : upTo (k + 1) = upTo k := by
  simp [upTo, List.range_succ, h]
set_option maxRecDepth 100000 in
theorem upTo_len (k : Nat) : (upTo k).length ≤ k := by
  unfold upTo
  exact Nat.le_trans (List.length_filter_le _ _) (by simp)
set_option maxRecDepth 100000 in
theorem upTo_all : upTo 128 = fNos := by decide +kernel

set_option maxRecDepth 100000 in
set_option maxHeartbeats 1600000 in
theorem specFieldNos_any (w : World) : Calls Tryz.prog 59 #[] w (resI fNos w) := by
  go_enter Tryz.func59, Tryz.ntmps59
  go_wp2
  go_loopw [1, 2] (fun bv iv wr => ∃ k : Nat, k ≤ 128 ∧ iv = .int .i64 ((k : Int) + 1) ∧ wr.ownsRow w.heap.size 3 1 bv (upTo k).length ((upTo k).map (Value.int .i64)) ∧ Below w.heap.size w wr) (fun _ iv _ => 129 - (intOf iv).toNat)
  case atStart =>
    refine ⟨0, Nat.zero_le _, rfl, ⟨rfl, Or.inr ⟨w.heap.size, 0, #[], rfl, Nat.le_refl _, ?_, Nat.le_refl _, Nat.zero_le _, rfl, rfl⟩⟩, (Below.refl _ _).alloc (Nat.le_refl _) _⟩
    show (w.heap.push _)[w.heap.size]? = _
    simp
  case round =>
    obtain ⟨k, hk, rfl, hown, hb⟩ := hrel
    by_cases hlt : k < 128
    · have g1 : (k : Int) + 1 ≤ 128 := by omega
      have hu := upTo_len k
      have htl : (upTo k).length + 1 ≤ 9223372036854775807 := by omega
      have htb : ((upTo k).length + 1) * 8 ≤ 140737488355328 := by omega
      by_cases hf : fKind ((k : Int) + 1) = 0
      · have HT : Hid (upTo (k + 1) = upTo k) := Lib.hid (upTo_no hf)
        have HF := Lib.hid hf
        have HO := Lib.hid hown
        clear hf hown
        go_wp2_with fail
        refine (specFieldKind_any _ _).mono ?_
        rw [HF.out]
        rintro e w1 ⟨rfl, rfl⟩
        go_wp2
        go_roundw
        case rel => exact ⟨k + 1, by omega, by go_num, by rw [HT.out]; exact HO.out, hb⟩
        case measure => simp [intOf] <;> omega
      · have HT : Hid (upTo (k + 1) = upTo k ++ [(k : Int) + 1]) := Lib.hid (upTo_yes hf)
        generalize upTo k = M at hown HT htl htb hu
        have hne : (fKind ((k : Int) + 1) != 0) = true := bne_iff_ne.2 hf
        clear hf hu
        go_wp2_with fail
        refine (specFieldKind_any _ _).mono ?_
        rintro e w1 ⟨rfl, rfl⟩
        go_wp2_with (at_builtin; refine app_one (Value.int .i64) (int_one .i64) 53 3 (.int .i64 0) 8 Tryz.underlying53 infoI64 rfl _ _ rfl (by rfl) w wr _ M _ (by rfl) (by rfl) hown hb htl htb ?_)
        intro v' w1 hown' hb'
        clear hown hb hne
        go_wp2
        go_roundw
        case rel => exact ⟨k + 1, by omega, by go_num, by rw [HT.out]; simpa using hown', hb'⟩
        case measure => simp [intOf] <;> omega
    · obtain rfl : k = 128 := by omega
      have HN := Lib.hid (nums_of_own hown)
      clear hown
      go_wp2
      go_ret
      refine ⟨_, rfl, ?_, hb⟩
      have := HN.out
      rwa [upTo_all] at this

end Go.Proofs.YtkkbhlaakhkjnaaGreatDoor
/- The reference's draws of a field and of its content: the content fits the field; no conditions. -/
set_option linter.unusedVariables false
set_option linter.unusedSimpArgs false
namespace Go.Proofs.YtkkbhlaakhkjnaaGreatDoor
open Go.ChangeShapes Go.WideShapes Go.ChangeAt Go.RowKit

def sizeB' : Value → Nat | .string s => s.size | _ => 0
def abTexts : List (List UInt8) := [[97], [98], [55], [32], [126]]
set_option maxRecDepth 100000 in
theorem ab_one {x : List UInt8} (h : x ∈ abTexts) : x.length = 1 ∧ x.all prn = true := by
  simp only [abTexts, List.mem_cons, List.not_mem_nil, or_false] at h
  rcases h with rfl | rfl | rfl | rfl | rfl <;> decide
set_option maxRecDepth 100000 in
theorem ab_at (w : World) (T : TypeId) : textsAt (w.alloc (.cells #[.string ⟨#[97]⟩, .string ⟨#[98]⟩, .string ⟨#[55]⟩, .string ⟨#[32]⟩, .string ⟨#[126]⟩] T)) w.heap.size abTexts := by
  intro j x hx
  have hj : j < 5 := by have := (List.getElem?_eq_some_iff.1 hx).1; simpa [abTexts] using this
  match j, hj, hx with
  | 0, _, hx => cases hx; simp
  | 1, _, hx => cases hx; simp
  | 2, _, hx => cases hx; simp
  | 3, _, hx => cases hx; simp
  | 4, _, hx => cases hx; simp
/-- is a byte right for a kind -/
def fitC (kd : Int) (c : UInt8) : Bool := if kd = 1 ∨ kd = 3 then isDig c else prn c
set_option maxRecDepth 100000 in
theorem fit_ok {kd sz : Int} {n : Nat} {t : List UInt8} (hk : kd = 1 ∨ kd = 2 ∨ kd = 3 ∨ kd = 4 ∨ kd = 5) (hn : 0 < n) (hs : if fWidth kd > 0 then (n : Int) ≤ sz else (n : Int) = sz) (ht : t.length = n) (hc : t.all (fitC kd) = true) : okBy kd sz ⟨t.toArray⟩ = true := by
  have hz : (⟨t.toArray⟩ : ByteArray).size = n := by rw [← ht]; rfl
  have hl : (⟨t.toArray⟩ : ByteArray).data.toList = t := rfl
  rcases hk with rfl | rfl | rfl | rfl | rfl
  all_goals simp only [fitC, fWidth, okBy, prnS, digs, hz, hl] at *
  all_goals simp at hs hc ⊢
  all_goals first | exact ⟨by omega, by omega, hc⟩ | exact ⟨by omega, hc⟩ | exact ⟨⟨by omega, by omega⟩, hc⟩

set_option maxRecDepth 100000 in
set_option maxHeartbeats 4000000 in
/-- a content that fits -/
theorem text_any (b : Nat) (sv : Value) (i : Nat) (h no : Int) (w : World) (hc : curAt w b sv i h) (hi : i ≤ lenOf sv) (hr : readable w b sv) (hk : fKind no ≠ 0) :
    Calls Tryz.prog 61 #[.pointer (some ⟨b, 0, none⟩), .int .i64 no] w fun e w' => ∃ (t : List UInt8) (i' : Nat) (h' : Int), e = .returned (.string ⟨t.toArray⟩) ∧ fOk no ⟨t.toArray⟩ = true ∧ i' ≤ lenOf sv ∧ curAt w' b sv i' h' ∧ w.grownBy w' (some b) := by
  have hcv := fun (W : World) (c : Int) (T : TypeId) => conv_one W c T
  have H1 := Lib.hid (specFieldKind_any no)
  have H2 := Lib.hid (specFieldSize_any no)
  have hz0 := fSize_pos hk
  have hz1 := (kind_size no).2.2.2.2
  have hkc := kind_cases no
  have HF : Hid (∀ t : List UInt8, okBy (fKind no) (fSize no) ⟨t.toArray⟩ = true → fOk no ⟨t.toArray⟩ = true) := Lib.hid (fun t ht => ht)
  generalize fKind no = kd at H1 hk hkc HF
  generalize fSize no = sz at H2 hz0 hz1 HF
  have hkd : kd = 1 ∨ kd = 2 ∨ kd = 3 ∨ kd = 4 ∨ kd = 5 := by omega
  have hblt := lt_of_cur hc
  clear hkc hk
  have HC := Lib.hid hkd
  clear hkd
  have hb0 : Hid (∀ w' : World, w.grownBy w' (some b) → readable w' b sv) := Lib.hid fun w' hg => hr.grownAt hg (by omega)
  by_cases hw : fWidth kd > 0
  · have HW := Lib.hid hw
    go_enter Tryz.func61, Tryz.ntmps61
    go_wp2_with fail
    refine (H2.out _).mono ?_
    rintro e w1 ⟨rfl, rfl⟩
    go_wp2_with fail
    refine (H1.out _).mono ?_
    rintro e w1 ⟨rfl, rfl⟩
    go_wp2_with fail
    refine (width_any _ _).mono ?_
    rintro e w1 ⟨rfl, rfl⟩
    generalize fWidth kd = wd at hw
    go_wp2_with fail
    refine (below_any b sv i h sz w hc hi hr (by omega) (by omega)).mono ?_
    rintro e w1 ⟨x, i1, h1, rfl, hx0, hx1, hi1, hc1, ho1⟩
    obtain ⟨n, hn⟩ : ∃ n : Nat, (1 : Int) + x = n := ⟨(1 + x).toNat, by omega⟩
    have HS : Hid (0 < n ∧ (if fWidth kd > 0 then (n : Int) ≤ sz else (n : Int) = sz)) := Lib.hid ⟨by omega, by rw [if_pos HW.out]; omega⟩
    have hg1 := ho1.grown
    have hn60 : n ≤ 60 := by omega
    clear hc hi hw
    go_wp2_with fail
    go_loopw [7] (fun tv wr => ∃ (t : List UInt8) (j : Nat) (hh : Int), tv = .string ⟨t.toArray⟩ ∧ t.length ≤ n ∧ t.all (fitC kd) = true ∧ j ≤ lenOf sv ∧ curAt wr b sv j hh ∧ w.grownBy wr (some b)) (fun tv _ => n - sizeB' tv)
    case atStart => exact ⟨[], i1, h1, rfl, by simp, rfl, hi1, hc1, hg1⟩
    case round =>
      obtain ⟨t, j, hh, rfl, htl, htc, hj, hcr, hgr⟩ := hrel
      have HT := Lib.hid htc
      have hlen : (⟨t.toArray⟩ : ByteArray).size = t.length := rfl
      clear htc
      by_cases hlt : t.length < n
      · by_cases hnum : kd = 1 ∨ kd = 3
        · have HN := Lib.hid hnum
          have hsel : (kd == 1) = true ∨ (kd == 1) = false ∧ (kd == 3) = true := by rcases hnum with rfl | rfl <;> simp
          clear hnum
          have hstep : Hid (∀ y : Int, 0 ≤ y → y ≤ 9 → (t ++ [UInt8.ofNat (48 + y).toNat]).all (fitC kd) = true) := Lib.hid fun y h0 h1 => by
            rw [List.all_append, HT.out]
            simp [fitC, HN.out, dig_of h0 h1]
          rcases hsel with hs1 | ⟨hs1, hs3⟩
          all_goals
            go_wp2_with fail
            refine (below_any b sv j hh 10 _ hcr hj (hb0.out _ hgr) (by decide) (by decide)).mono ?_
            rintro e w4 ⟨y, j4, h4, rfl, hy0, hy1, hj4, hc4, ho4⟩
            have hg4 := grown_trans hgr ho4.grown
            go_wp2
            go_roundw
            case rel => exact ⟨t ++ [UInt8.ofNat (48 + y).toNat], j4, h4, congrArg Value.string (str_snoc _ _), by simp; omega, hstep.out y hy0 (by omega), hj4, cur_alloc hc4 _, grown_alloc hg4 _⟩
            case measure => (show n - (_ ++ (⟨#[_]⟩ : ByteArray)).size < n - t.length; rw [str_snoc]; show n - (t ++ [_]).length < n - t.length; simp; omega)
        · have hs1 : (kd == 1) = false := by simp; omega
          have hs3 : (kd == 3) = false := by simp; omega
          have hstep : Hid (∀ x : List UInt8, x ∈ abTexts → (t ++ x).all (fitC kd) = true) := Lib.hid fun x hx => by
            have := (ab_one hx).2
            rw [List.all_append, HT.out]
            have e : fitC kd = prn := by funext c; unfold fitC; rw [if_neg hnum]
            rw [e, this]
            rfl
          go_wp2_with fail
          refine (pickStr_any b sv j hh _ 5 abTexts _ (cur_alloc hcr _) hj ((hb0.out _ hgr).alloc _) (by have := hgr.size; omega) (ab_at _ _) rfl (by decide) (by decide)).mono ?_
          rintro e w4 ⟨x, j4, h4, hx, rfl, hj4, hc4, ho4⟩
          have hg4 := grown_trans (grown_alloc hgr _) ho4.grown
          have hxl := (ab_one hx).1
          have hlx : (⟨x.toArray⟩ : ByteArray).size = x.length := rfl
          have HX := Lib.hid hx
          clear hx
          go_wp2
          go_roundw
          case rel => exact ⟨t ++ x, j4, h4, congrArg Value.string (str_join _ _), by simp; omega, hstep.out x HX.out, hj4, hc4, hg4⟩
          case measure => (show n - (_ ++ (⟨x.toArray⟩ : ByteArray)).size < n - t.length; rw [str_join]; show n - (t ++ x).length < n - t.length; simp; omega)
      · go_wp2
        go_ret
        exact ⟨t, j, hh, rfl, HF.out t (fit_ok HC.out HS.out.1 (by first | exact HS.out.2 | rw [if_neg (by omega)]) (by omega) HT.out), hj, hcr, hgr⟩
  · have hw' : fWidth kd = 0 := by
      have := HC.out
      unfold fWidth at hw ⊢
      split
      · simp [*] at hw
      · split
        · simp [*] at hw
        · rfl
    have HW := Lib.hid hw
    obtain ⟨n, hn⟩ : ∃ n : Nat, sz = n := ⟨sz.toNat, by omega⟩
    subst hn
    have HS : Hid (0 < n ∧ (if fWidth kd > 0 then (n : Int) ≤ (n : Int) else (n : Int) = (n : Int))) := Lib.hid ⟨by omega, by rw [if_neg HW.out]⟩
    have hn60 : n ≤ 60 := by omega
    obtain ⟨i1, hi1e⟩ : ∃ k, k = i := ⟨i, rfl⟩
    obtain ⟨h1, hh1e⟩ : ∃ k, k = h := ⟨h, rfl⟩
    subst hi1e
    subst hh1e
    have hc1 := hc
    have hi1 := hi
    have hg1 : w.grownBy w (some b) := grown_refl _ _
    clear hc hi hw
    go_enter Tryz.func61, Tryz.ntmps61
    go_wp2_with fail
    refine (H2.out _).mono ?_
    rintro e w1 ⟨rfl, rfl⟩
    go_wp2_with fail
    refine (H1.out _).mono ?_
    rintro e w1 ⟨rfl, rfl⟩
    go_wp2_with fail
    refine (width_any _ _).mono ?_
    rw [hw']
    rintro e w1 ⟨rfl, rfl⟩
    go_wp2_with fail
    go_loopw [7] (fun tv wr => ∃ (t : List UInt8) (j : Nat) (hh : Int), tv = .string ⟨t.toArray⟩ ∧ t.length ≤ n ∧ t.all (fitC kd) = true ∧ j ≤ lenOf sv ∧ curAt wr b sv j hh ∧ w.grownBy wr (some b)) (fun tv _ => n - sizeB' tv)
    case atStart => exact ⟨[], i1, h1, rfl, by simp, rfl, hi1, hc1, hg1⟩
    case round =>
      obtain ⟨t, j, hh, rfl, htl, htc, hj, hcr, hgr⟩ := hrel
      have HT := Lib.hid htc
      have hlen : (⟨t.toArray⟩ : ByteArray).size = t.length := rfl
      clear htc
      by_cases hlt : t.length < n
      · by_cases hnum : kd = 1 ∨ kd = 3
        · have HN := Lib.hid hnum
          have hsel : (kd == 1) = true ∨ (kd == 1) = false ∧ (kd == 3) = true := by rcases hnum with rfl | rfl <;> simp
          clear hnum
          have hstep : Hid (∀ y : Int, 0 ≤ y → y ≤ 9 → (t ++ [UInt8.ofNat (48 + y).toNat]).all (fitC kd) = true) := Lib.hid fun y h0 h1 => by
            rw [List.all_append, HT.out]
            simp [fitC, HN.out, dig_of h0 h1]
          rcases hsel with hs1 | ⟨hs1, hs3⟩
          all_goals
            go_wp2_with fail
            refine (below_any b sv j hh 10 _ hcr hj (hb0.out _ hgr) (by decide) (by decide)).mono ?_
            rintro e w4 ⟨y, j4, h4, rfl, hy0, hy1, hj4, hc4, ho4⟩
            have hg4 := grown_trans hgr ho4.grown
            go_wp2
            go_roundw
            case rel => exact ⟨t ++ [UInt8.ofNat (48 + y).toNat], j4, h4, congrArg Value.string (str_snoc _ _), by simp; omega, hstep.out y hy0 (by omega), hj4, cur_alloc hc4 _, grown_alloc hg4 _⟩
            case measure => (show n - (_ ++ (⟨#[_]⟩ : ByteArray)).size < n - t.length; rw [str_snoc]; show n - (t ++ [_]).length < n - t.length; simp; omega)
        · have hs1 : (kd == 1) = false := by simp; omega
          have hs3 : (kd == 3) = false := by simp; omega
          have hstep : Hid (∀ x : List UInt8, x ∈ abTexts → (t ++ x).all (fitC kd) = true) := Lib.hid fun x hx => by
            have := (ab_one hx).2
            rw [List.all_append, HT.out]
            have e : fitC kd = prn := by funext c; unfold fitC; rw [if_neg hnum]
            rw [e, this]
            rfl
          go_wp2_with fail
          refine (pickStr_any b sv j hh _ 5 abTexts _ (cur_alloc hcr _) hj ((hb0.out _ hgr).alloc _) (by have := hgr.size; omega) (ab_at _ _) rfl (by decide) (by decide)).mono ?_
          rintro e w4 ⟨x, j4, h4, hx, rfl, hj4, hc4, ho4⟩
          have hg4 := grown_trans (grown_alloc hgr _) ho4.grown
          have hxl := (ab_one hx).1
          have hlx : (⟨x.toArray⟩ : ByteArray).size = x.length := rfl
          have HX := Lib.hid hx
          clear hx
          go_wp2
          go_roundw
          case rel => exact ⟨t ++ x, j4, h4, congrArg Value.string (str_join _ _), by simp; omega, hstep.out x HX.out, hj4, hc4, hg4⟩
          case measure => (show n - (_ ++ (⟨x.toArray⟩ : ByteArray)).size < n - t.length; rw [str_join]; show n - (t ++ x).length < n - t.length; simp; omega)
      · go_wp2
        go_ret
        exact ⟨t, j, hh, rfl, HF.out t (fit_ok HC.out HS.out.1 (by first | exact HS.out.2 | rw [if_neg (by omega)]) (by omega) HT.out), hj, hcr, hgr⟩
end Go.Proofs.YtkkbhlaakhkjnaaGreatDoor
/- The reference's draw of a field and its content, and the laws' search in a list; no conditions. -/
set_option linter.unusedVariables false
namespace Go.Proofs.YtkkbhlaakhkjnaaGreatDoor
open Go.ChangeShapes Go.WideShapes Go.ChangeAt Go.RowKit

set_option maxRecDepth 100000 in
set_option maxHeartbeats 800000 in
theorem makeField_any (sv : Value) (w : World) (hr : readable w w.heap.size sv) (hlen : lenOf sv ≤ 1048576) :
    Calls Tryz.prog 28 #[sv] w fun e w' => ∃ (no : Int) (s : ByteArray), e = .returned (.tuple #[.int .i64 no, .string s]) ∧ no ∈ fNos ∧ fOk no s = true ∧ Below w.heap.size w w' := by
  go_enter Tryz.func28, Tryz.ntmps28
  go_wp2_with fail
  refine (new_any sv w hr hlen).mono ?_
  rintro e w1 ⟨h, rfl, rfl⟩
  have hc := made_cur sv w h
  have hb1 : Below w.heap.size w (w.alloc (.cells #[sv, .int .i64 0, .int .i64 h] 106)) := (Below.refl _ _).alloc (Nat.le_refl _) _
  generalize w.alloc (.cells #[sv, .int .i64 0, .int .i64 h] 106) = w1 at hc hb1 ⊢
  have hlt := lt_of_cur hc
  go_wp2_with fail
  refine (specFieldNos_any w1).mono ?_
  rintro e w2 ⟨v, rfl, hv, hb2⟩
  have hg2 : w1.grownBy w2 (some w.heap.size) := grown_below hb2
  have hc2 : curAt w2 w.heap.size sv 0 h := (hb2.block _ hlt).trans hc
  have hr2 := (hr.below hb1).grownAt hg2 (by omega)
  obtain ⟨A, c, hve, hcc, hj⟩ := hv
  have hl : fNos.length = 16 := by decide
  rw [hl] at hve hcc hj
  subst hve
  obtain ⟨p, off, rfl, hp, -⟩ := hj 0 (by omega)
  have hj' : ∀ j, j < 16 → w2.cell? ⟨p, off + j, none⟩ = some (.int .i64 (fNos.getD j 0)) := fun j hjl => by
    obtain ⟨b', off', e, _, _, hx, _⟩ := hj j hjl
    simp only [Option.some.injEq, Addr.mk.injEq, and_true] at e
    obtain ⟨rfl, rfl⟩ := e
    exact hx
  have HJ := Lib.hid hj'
  clear hj hj'
  go_wp2_with fail
  refine (below_any w.heap.size sv 0 h 16 w2 hc2 (Nat.zero_le _) hr2 (by decide) (by decide)).mono ?_
  rintro e w3 ⟨x, i3, h3, rfl, hx0, hx1, hi3, hc3, ho3⟩
  obtain ⟨k, rfl⟩ := Int.eq_ofNat_of_zero_le hx0
  have hk : k < 16 := by omega
  have hcell := (ho3.cell (p := ⟨p, off + k, none⟩) (by show p ≠ _; omega)).trans (HJ.out k hk)
  have HK : Hid (fKind (fNos.getD k 0) ≠ 0) := Lib.hid (known_iff k hk)
  have HM : Hid (fNos.getD k 0 ∈ fNos) := Lib.hid (by rw [List.getD_eq_getElem?_getD, List.getElem?_eq_getElem (by omega)]; exact List.getElem_mem _)
  generalize fNos.getD k 0 = no at hcell HK HM
  have hg3 := grown_trans hg2 ho3.grown
  have hr3 := (hr.below hb1).grownAt hg3 (by omega)
  go_wp2_with fail
  refine (text_any w.heap.size sv i3 h3 no w3 hc3 hi3 hr3 HK.out).mono ?_
  rintro e w4 ⟨t, i4, h4, rfl, hok, hi4, hc4, hg4⟩
  have HO := Lib.hid hok
  clear hok
  go_wp2
  go_ret2
  exact ⟨no, ⟨t.toArray⟩, rfl, HM.out, HO.out, hb1.trans (below_of_grown (grown_trans hg3 hg4) (by omega) (fun k hk => by cases hk; exact Nat.le_refl _))⟩

set_option maxRecDepth 100000 in
theorem take_mem {l : List Int} {n : Int} {k : Nat} (h : k < l.length) (hn : ¬ n ∈ l.take k) (he : l.getD k 0 ≠ n) : ¬ n ∈ l.take (k + 1) := by
  rw [List.take_succ_eq_append_getElem h, List.mem_append, List.mem_singleton]
  rintro (h1 | h1)
  · exact hn h1
  · exact he (by rw [List.getD_eq_getElem?_getD, List.getElem?_eq_getElem h]; exact h1.symm)
end Go.Proofs.YtkkbhlaakhkjnaaGreatDoor
/- The reference's draw of a message: it is valid; no conditions. -/
set_option linter.unusedVariables false
namespace Go.Proofs.YtkkbhlaakhkjnaaGreatDoor
open Go.ChangeShapes Go.WideShapes Go.ChangeAt Go.RowKit

set_option maxRecDepth 100000 in
theorem onlyAt.trunc {b : Nat} {u v : World} (h : onlyAt b u v) : u.grownBy v (some b) := h.grown
set_option maxRecDepth 100000 in
set_option maxHeartbeats 800000 in
/-- once in n -/
theorem once_any (b : Nat) (sv : Value) (i : Nat) (h n : Int) (w : World) (hc : curAt w b sv i h) (hi : i ≤ lenOf sv) (hr : readable w b sv) (hn : 0 < n) (hm : n ≤ 9223372036854775807) :
    Calls Tryz.prog 55 #[.pointer (some ⟨b, 0, none⟩), .int .i64 n] w fun e w' => ∃ (x : Bool) (i' : Nat) (h' : Int), e = .returned (.bool x) ∧ i' ≤ lenOf sv ∧ curAt w' b sv i' h' ∧ onlyAt b w w' := by
  go_enter Tryz.func55, Tryz.ntmps55
  go_wp2_with fail
  refine (below_any b sv i h n w hc hi hr hn hm).mono ?_
  rintro e w1 ⟨x, i1, h1, rfl, hx0, hx1, hi1, hc1, ho1⟩
  go_wp2
  go_ret
  exact ⟨_, i1, h1, rfl, hi1, hc1, ho1⟩

set_option maxRecDepth 100000 in
theorem getD_app {α : Type} {l : List α} {m : List α} {d : α} {j : Nat} (h : j < l.length) : (l ++ m).getD j d = l.getD j d := by
  rw [List.getD_eq_getElem?_getD, List.getD_eq_getElem?_getD, List.getElem?_append_left h]
set_option maxRecDepth 100000 in
theorem listOk_snoc {L : List FieldD} {y : FieldD} (h : listOk L = true) (hy : fOk y.1 y.2 = true) (hlt : ∀ x ∈ L, x.1 < y.1) : listOk (L ++ [y]) = true := by
  refine listOk_yes fun j hj => ?_
  rw [List.length_append] at hj
  simp only [List.length_singleton] at hj
  by_cases hjl : j < L.length
  · have := listOk_at h j hjl
    unfold stepOk at this ⊢
    rw [getD_app hjl]
    by_cases h0 : j = 0
    · subst h0; simpa using this
    · rwa [getD_app (by omega)]
  · obtain rfl : j = L.length := by omega
    have hg : (L ++ [y]).getD L.length noF = y := by rw [List.getD_eq_getElem?_getD, List.getElem?_append_right (Nat.le_refl _)]; simp
    unfold stepOk
    rw [hg, hy]
    by_cases h0 : L.length = 0
    · simp [h0]
    · rw [getD_app (by omega)]
      have hx := List.getElem?_eq_getElem (l := L) (i := L.length - 1) (by omega)
      rw [getD_of hx]
      simp [hlt _ (List.mem_of_getElem? hx)]
set_option maxRecDepth 100000 in
theorem nums.keep {K : IntKind} {lo hi : Nat} {w w' : World} {v : Value} {l : List Int} (h : nums K lo hi w v l) (hk : ∀ b, lo ≤ b → b < hi → w'.heap[b]? = w.heap[b]?) : nums K lo hi w' v l := by
  obtain ⟨A, c, rfl, hc, hj⟩ := h
  refine ⟨A, c, rfl, hc, fun j hl => ?_⟩
  obtain ⟨b, off, e, h1, h2, h3, h4⟩ := hj j hl
  exact ⟨b, off, e, h1, h2, (cell_keep (hk b h1 h2)).trans h3, (frozen_keep (hk b h1 h2)).trans h4⟩
set_option maxRecDepth 100000 in
theorem grown_then {w u v : World} {b B : Nat} (h : w.grownBy u (some b)) (g : Below B u v) (hB : w.heap.size ≤ B) : w.grownBy v (some b) :=
  ⟨g.os.trans h.os, g.tape.trans h.tape, g.output.trans h.output, Nat.le_trans h.size g.size, fun k hk hne => (g.block k (by omega)).trans (h.block k hk hne)⟩
set_option maxRecDepth 100000 in
theorem rd.grownAt {K : IntKind} {hi g lo : Nat} {w w' : World} {v : Value} {l : List Int} (h : nums K lo hi w v l) (hg : w.grownBy w' (some g)) (hgl : g < lo ∨ hi ≤ g) (hh : hi ≤ w.heap.size) : nums K lo hi w' v l := h.grown hg hh (fun k hk => by cases hk; exact hgl)
set_option maxRecDepth 100000 in
theorem fNos_up : ∀ i, i < 16 → ∀ j, j < 16 → i < j → fNos.getD i 0 < fNos.getD j 0 := by decide +kernel
set_option maxRecDepth 100000 in
theorem fNos_at (k : Nat) (h : k < 16) : fNos[k]? = some (fNos.getD k 0) := by
  have hl : fNos.length = 16 := by decide
  rw [List.getD_eq_getElem?_getD, List.getElem?_eq_getElem (by omega)]
  rfl

def mtiTexts : List (List UInt8) := [[48, 49, 48, 48], [48, 50, 48, 48], [48, 50, 50, 48], [48, 49, 49, 48], [48, 56, 48, 48], [49, 50, 51, 52], [48, 48, 48, 48]]
set_option maxRecDepth 100000 in
theorem mti_one {x : List UInt8} (h : x ∈ mtiTexts) : mtiOk ⟨x.toArray⟩ = true := by
  simp only [mtiTexts, List.mem_cons, List.not_mem_nil, or_false] at h
  rcases h with rfl | rfl | rfl | rfl | rfl | rfl | rfl <;> decide
set_option maxRecDepth 100000 in
theorem texts_at (w : World) (T : TypeId) (L : List (List UInt8)) (us : Array Value) (n : Nat) (hu : us = (L.map fun x => Value.string ⟨x.toArray⟩).toArray) (hn : n = w.heap.size) : textsAt (w.alloc (.cells us T)) n L := by
  subst hn
  subst hu
  intro j x hx
  rw [cell_of_row _ _ j _ _ (0, 0) (heap_alloc_new _ _)]
  simp [hx]
set_option maxRecDepth 100000 in
set_option maxHeartbeats 8000000 in
theorem msgDraw_any (b : Nat) (sv : Value) (i0 : Nat) (h0 : Int) (w : World) (hc : curAt w b sv i0 h0) (hi : i0 ≤ lenOf sv) (hr : readable w b sv) :
    Calls Tryz.prog 53 #[.pointer (some ⟨b, 0, none⟩)] w fun e w' => ∃ (m : MsgD) (u : Value) (i' : Nat) (h' : Int), e = .returned (.agg #[.string m.1, u]) ∧ msgOk m = true ∧ FieldsR.mine w.heap.size w'.heap.size w' [u] m.2 ∧ i' ≤ lenOf sv ∧ curAt w' b sv i' h' ∧ w.grownBy w' (some b) := by
  have hblt := lt_of_cur hc
  have HR : Hid (∀ w' : World, w.grownBy w' (some b) → readable w' b sv) := Lib.hid fun w' hg => hr.grownAt hg (by omega)
  go_enter Tryz.func53, Tryz.ntmps53
  go_wp2_with fail
  refine (pickStr_any b sv i0 h0 _ 7 mtiTexts _ (cur_alloc (cur_alloc hc _) _) hi ((hr.alloc _).alloc _) (by omega) (texts_at _ _ _ _ _ (by rfl) (by simp)) rfl (by decide) (by decide)).mono ?_
  rintro e w2 ⟨x, i2, h2, hx, rfl, hi2, hc2, ho2⟩
  have HMT := Lib.hid (mti_one hx)
  have HG2 : Hid (w.grownBy w2 (some b)) := Lib.hid (grown_trans (grown_alloc (grown_alloc (grown_refl _ _) _) _) ho2.grown)
  have hz2 : w.heap.size + 2 ≤ w2.heap.size := by have := ho2.size; simp at this; omega
  have r0 : w2.cell? ⟨w.heap.size, 0, none⟩ = some (.string ⟨#[]⟩) := (ho2.cell (p := ⟨w.heap.size, 0, none⟩) (by show w.heap.size ≠ b; omega)).trans (by simp)
  have r1 : w2.cell? ⟨w.heap.size, 1, none⟩ = some (.slice none 0 0) := (ho2.cell (p := ⟨w.heap.size, 1, none⟩) (by show w.heap.size ≠ b; omega)).trans (by simp)
  have hb2 := ho2.block w.heap.size (by omega)
  have HC2 : Hid (w2.heap[w.heap.size]? = some (.cells #[.string ⟨#[]⟩, .slice none 0 0] 31 (0, 0))) := Lib.hid (hb2.trans ((Below.heap_alloc _ _ _ (by simp)).trans (heap_alloc_new _ _)))
  have hc2' := cur_alloc hc2 (.cells #[.string ⟨x.toArray⟩, .slice none 0 0] 31)
  have HM2 := Lib.hid (growMsg.start ⟨x.toArray⟩ w2).rebase
  generalize (⟨x.toArray⟩ : ByteArray) = mti at HMT HM2 hc2' ⊢
  clear hx r0 r1 hb2 hc2 ho2 hc hi hr
  go_wp2_with fail
  refine (specFieldNos_any _).mono ?_
  rintro e w3 ⟨v3, rfl, hv3, hb3⟩
  have hv3' : nums .i64 (w2.heap.size + 1) w3.heap.size w3 v3 fNos := by simpa using hv3
  obtain ⟨A3, c3, rfl, hcc3⟩ := hv3'.form
  have hz3 : w2.heap.size + 1 ≤ w3.heap.size := by have := hb3.size; simpa using this
  have HV3 := Lib.hid hv3'
  have HG3 : Hid (w.grownBy w3 (some b)) := Lib.hid (grown_trans (grown_alloc HG2.out _) (grown_below hb3))
  have HC3 : Hid (w3.heap[w.heap.size]? = some (.cells #[.string ⟨#[]⟩, .slice none 0 0] 31 (0, 0))) := Lib.hid ((hb3.block w.heap.size (by simp; omega)).trans ((Below.heap_alloc _ _ _ (by omega)).trans HC2.out))
  have HM3 := Lib.hid (HM2.out.keepBelow hb3).rebase
  have HK3 : Hid (curAt w3 b sv i2 h2) := Lib.hid ((hb3.block b (by simp; omega)).trans hc2')
  have h16 : fNos.length = 16 := by decide
  rw [h16]
  clear hv3 hv3' hb3 hc2' h16 HG2 HC2 HM2
  go_wp2
  go_loopw [12] (fun iv wr => ∃ (i : Nat) (A : Option Addr) (c : Nat) (L : List FieldD) (j : Nat) (hh : Int), i ≤ 16 ∧ iv = .int .i64 i ∧ Hid (listOk L = true ∧ ∀ x ∈ L, ∀ q, i ≤ q → q < 16 → x.1 < fNos.getD q 0) ∧ L.length ≤ i ∧ Hid (growMsg w2.heap.size mti wr wr (.slice A L.length c) L) ∧ Hid (curAt wr b sv j hh) ∧ j ≤ lenOf sv ∧ Hid (w.grownBy wr (some b)) ∧ Hid (nums .i64 (w2.heap.size + 1) w3.heap.size wr (.slice A3 16 c3) fNos) ∧ Hid (wr.heap[w.heap.size]? = some (.cells #[.string ⟨#[]⟩, .slice none 0 0] 31 (0, 0))) ∧ w3.heap.size ≤ wr.heap.size ∧ Hid (∀ g, (Value.slice A L.length c).ownBlock = some g → w3.heap.size ≤ g)) (fun iv _ => 16 - (intOf iv).toNat)
  case atStart => exact ⟨0, none, 0, [], i2, h2, Nat.zero_le _, rfl, Lib.hid ⟨rfl, by simp⟩, Nat.le_refl _, HM3, HK3, hi2, HG3, HV3, HC3, Nat.le_refl _, Lib.hid (fun g hg => by cases hg)⟩
  case round =>
    obtain ⟨i, A, c, L, j, hh, hi', rfl, HL, hLl, HG, HK, hj, HW, HV, HC, hz, HQ⟩ := hrel
    by_cases hin : i < 16
    · obtain ⟨bn, offn, rfl, hbn, d0⟩ := HV.out.rd.at (fNos_at i hin)
      have HKN : Hid (fKind (fNos.getD i 0) ≠ 0) := Lib.hid (known_iff i hin)
      have HU : Hid (∀ q, i + 1 ≤ q → q < 16 → fNos.getD i 0 < fNos.getD q 0) := Lib.hid (fun q h1 h2 => fNos_up i hin q h2 (by omega))
      have HLT : Hid (∀ x ∈ L, x.1 < fNos.getD i 0) := Lib.hid (fun x hx => HL.out.2 x hx i (Nat.le_refl _) hin)
      generalize fNos.getD i 0 = no at d0 HKN HU HLT
      have g1 : (i : Int) < 16 := by omega
      have g2 : 0 ≤ (i : Int) := by omega
      go_wp2_with fail
      refine (once_any b sv j hh 3 wr HK.out hj (HR.out _ HW.out) (by decide) (by decide)).mono ?_
      rintro e w4 ⟨y, j4, h4, rfl, hj4, hk4, ho4⟩
      have HW4 : Hid (w.grownBy w4 (some b)) := Lib.hid (grown_trans HW.out ho4.grown)
      have HG4 := Lib.hid (HG.out.moved ho4.grown (by omega))
      have HV4 := Lib.hid (rd.grownAt HV.out ho4.grown (.inl (by omega)) hz)
      have HC4 : Hid (w4.heap[w.heap.size]? = some (.cells #[.string ⟨#[]⟩, .slice none 0 0] 31 (0, 0))) := Lib.hid ((ho4.block w.heap.size (by omega)).trans HC.out)
      have hz4 : wr.heap.size ≤ w4.heap.size := by rw [ho4.size]; exact Nat.le_refl _
      have HK4 := Lib.hid hk4
      clear hk4 ho4
      cases y
      · go_wp2
        go_roundw
        case rel => exact ⟨i + 1, A, c, L, j4, h4, by omega, by go_num, Lib.hid ⟨HL.out.1, fun x hx q h1 h2 => HL.out.2 x hx q (by omega) h2⟩, by omega, HG4, HK4, hj4, HW4, HV4, HC4, by omega, HQ⟩
        case measure => simp [intOf] <;> omega
      · have hcell := HG4.out.cell1
        have hfree := HG4.out.free 1
        go_wp2
        have HD4 : Hid (w4.grownBy w4.drew (some b)) := Lib.hid (grown_below (below_drew w4 _))
        have hbd : w2.heap.size < w4.heap.size := HG4.out.lt
        have hL1 : L.length + 1 ≤ maxLen := by unfold maxLen; omega
        have hL2 : (L.length + 1) * 24 ≤ 140737488355328 := by omega
        go_region_law (first
          | (go_simp; go_at_call 61; refine (text_any b sv j4 h4 no w4.drew HK4.out hj4 (HR.out _ (grown_trans HW4.out HD4.out)) HKN.out).mono ?_; rintro e w5 ⟨t, j5, h5, rfl, hok5, hj5, hk5, hg5⟩; have HG45 := Lib.hid (grown_trans HD4.out hg5); have HG5 := Lib.hid (HG4.out.moved HG45.out (by omega)); have hcell5 := HG5.out.cell1; have hbd5 : w2.heap.size < w5.heap.size := HG5.out.lt; have HK5 := Lib.hid hk5; have HO5 := Lib.hid hok5; have hz5 : w4.heap.size ≤ w5.heap.size := HG45.out.size; clear hk5 hok5 hg5)
          | (refine app_elem_step fCells 2 (fun _ => rfl) (by decide) fCells_one 29 55 #[.int .i64 0, .string ⟨#[]⟩] 24 Tryz.underlying29 infoField rfl _ _ (by rfl) (by rfl) (w2.heap.size + 1) w5 _ L (no, ⟨t.toArray⟩) _ _ (by rfl) (by rfl) (by rfl) rfl HG5.out.own hL1 hL2 (by omega) ?_; intro A6 c6 w6 hown6 hc6 hg6 hl6; obtain ⟨q6a, q6b⟩ := HG5.out.app_cell hg6; have HG6 := Lib.hid (HG5.out.app hg6 hown6); have hz6 : w5.heap.size + 1 ≤ w6.heap.size := Nat.le_trans (by simp) hg6.size; have HF6 := Lib.hid (HG5.out.app_far (v' := .slice A6 (L.length + 1) c6) hg6); have HL6 := Lib.hid hl6; clear hown6 hg6 hl6))
        all_goals
          go_wp2
          go_roundw
          case rel =>
            have HB56 := HG6.out.below
            have HW5 := grown_trans HW4.out HG45.out
            have HQ6 : ∀ g, (Value.slice A6 (L.length + 1) c6).ownBlock = some g → w3.heap.size ≤ g := fun g hg => by
              rcases HL6.out with h | h
              · exact HQ.out g (h ▸ hg)
              · rw [h] at hg; cases hg; omega
            refine ⟨i + 1, A6, c6, L ++ [(no, ⟨t.toArray⟩)], j5, h5, by omega, by go_num, Lib.hid ⟨listOk_snoc HL.out.1 HO5.out HLT.out, fun x hx q h1 h2 => ?_⟩, by simp; omega, Lib.hid (by simpa using HG6.out.rebase), Lib.hid ((HB56.block b (by omega)).trans HK5.out), hj5, Lib.hid (grown_then HW5 HB56 (by omega)), Lib.hid ((rd.grownAt HV4.out HG45.out (.inl (by omega)) (by omega)).keep fun g h1 h2 => HF6.out g (by omega) (by omega) (fun e => by have := HQ.out g e; omega)), Lib.hid ((HB56.block _ (by omega)).trans (((HG45.out).block _ (by omega) (fun e => by simp at e; omega)).trans HC4.out)), by simp [World.setCell]; omega, Lib.hid (by simpa using HQ6)⟩
            rcases List.mem_append.1 hx with h | h
            · exact HL.out.2 x h q (by omega) h2
            · rw [List.mem_singleton.1 h]; exact HU.out q h1 h2
          case measure => simp [intOf] <;> omega
    · obtain rfl : i = 16 := by omega
      have r0 := cell_of_row _ _ 0 _ _ (0, 0) HC.out
      have r1 := cell_of_row _ _ 1 _ _ (0, 0) HC.out
      simp only [List.getElem?_toArray, List.getElem?_cons_zero, List.getElem?_cons_succ] at r0 r1
      have f0 : wr.frozen? ⟨w.heap.size, 0, none⟩ = false := by unfold World.frozen?; rw [HC.out]; simp
      have f1 : wr.frozen? ⟨w.heap.size, 1, none⟩ = false := by unfold World.frozen?; rw [HC.out]; simp
      have e0 := HG.out.cell0
      have e1 := HG.out.cell1
      have hne : w.heap.size ≠ w2.heap.size := by omega
      go_wp2
      refine bodyPost_ret (v := .agg #[.string mti, .slice A L.length c]) (by simp [results, Tryz.results53, go_sem, r0, r1]) rfl ?_
      have hlt := HG.out.lt
      have ht := ((Turned.refl w.heap.size (w.heap.size + 1) wr).set (b := w.heap.size) 0 (.string mti) (by omega) (by omega)).set (b := w.heap.size) 1 (.slice A L.length c) (by omega) (by omega)
      refine ⟨(mti, L), _, j, hh, rfl, by simp [msgOk, HMT.out, HL.out.1], (HG.out.mine.turned ht (.inr (by omega)) (Nat.le_refl _)).mono (by omega) ht.size, hj, ?_, ?_⟩
      · exact (ht.block b (by have := lt_of_cur HK.out; omega) (.inl (by omega))).trans HK.out
      · exact ⟨ht.os.trans HW.out.os, ht.tape.trans HW.out.tape, ht.output.trans HW.out.output, Nat.le_trans HW.out.size ht.size, fun k hk hne => (ht.block k (by omega) (.inl (by omega))).trans (HW.out.block k hk hne)⟩
set_option maxRecDepth 100000 in
set_option maxHeartbeats 1600000 in
theorem makeMsg_any (sv : Value) (w : World) (hr : readable w w.heap.size sv) (hlen : lenOf sv ≤ 1048576) :
    Calls Tryz.prog 24 #[sv] w fun e w' => ∃ (m : MsgD) (u : Value), e = .returned (.agg #[.string m.1, u]) ∧ msgOk m = true ∧ FieldsR.mine w.heap.size w'.heap.size w' [u] m.2 ∧ Below w.heap.size w w' := by
  go_enter Tryz.func24, Tryz.ntmps24
  go_wp2_with fail
  have hr1 := (hr.alloc (.cells #[.string ⟨#[]⟩, .slice none 0 0] 31)).le (Nat.le_succ _)
  refine (new_any sv _ (by simpa using hr1) hlen).mono ?_
  rintro e w1 ⟨h, rfl, hw1⟩
  have hc := made_cur sv (w.alloc (.cells #[.string ⟨#[]⟩, .slice none 0 0] 31)) h
  rw [← hw1] at hc
  have hz1 : w1.heap.size = w.heap.size + 2 := by rw [hw1]; simp
  have hb1 : Below w.heap.size w w1 := by rw [hw1]; exact ((Below.refl _ _).alloc (Nat.le_refl _) _).alloc (by simp) _
  have hres : w1.heap[w.heap.size]? = some (.cells #[.string ⟨#[]⟩, .slice none 0 0] 31 (0, 0)) := by rw [hw1]; exact (Below.heap_alloc _ _ _ (by simp)).trans (heap_alloc_new _ _)
  have hsz : (w.alloc (.cells #[.string ⟨#[]⟩, .slice none 0 0] 31)).heap.size = w.heap.size + 1 := by simp
  rw [hsz] at hc ⊢
  have HB1 := Lib.hid hb1
  have HRES := Lib.hid hres
  have HC := Lib.hid hc
  have hz1' : w.heap.size + 2 ≤ w1.heap.size := by omega
  have HRD : Hid (readable w1 (w.heap.size + 1) sv) := Lib.hid ((hr.below hb1).le (by omega))
  clear hw1 hb1 hres hc hz1 hsz hr1 hr
  go_wp2_with fail
  refine (msgDraw_any (w.heap.size + 1) sv 0 h w1 HC.out (Nat.zero_le _) HRD.out).mono ?_
  rintro e w2 ⟨m, u, i2, h2, rfl, hok, hm, hi2, hc2, hg2⟩
  obtain ⟨A, c, rfl, hcc⟩ := Rep.slice_form hm.rd
  have HM := Lib.hid hm
  have HO := Lib.hid hok
  have hz2 : w1.heap.size ≤ w2.heap.size := hg2.size
  have hb2 : w2.heap[w.heap.size]? = some (.cells #[.string ⟨#[]⟩, .slice none 0 0] 31 (0, 0)) := (hg2.block _ (by omega) (fun e => by simp at e)).trans HRES.out
  have r0 := cell_of_row _ _ 0 _ _ (0, 0) hb2
  have r1 := cell_of_row _ _ 1 _ _ (0, 0) hb2
  simp only [List.getElem?_toArray, List.getElem?_cons_zero, List.getElem?_cons_succ] at r0 r1
  have f0 : w2.frozen? ⟨w.heap.size, 0, none⟩ = false := by unfold World.frozen?; rw [hb2]; simp
  have f1 : w2.frozen? ⟨w.heap.size, 1, none⟩ = false := by unfold World.frozen?; rw [hb2]; simp
  have hblk : (((w2.setCell ⟨w.heap.size, 0, none⟩ (.string m.1)).setCell ⟨w.heap.size, 1, none⟩ (.slice A m.2.length c)).alloc (.cells #[.string m.1, .slice A m.2.length c] 31)).heap[w.heap.size]? = some (.cells #[.string m.1, .slice A m.2.length c] 31 (0, 0)) := by
    refine (Below.heap_alloc _ _ _ (by simp [World.setCell]; omega)).trans ?_
    simp [World.setCell, Array.getElem?_modify, hb2]
  have k0 := cell_of_row _ _ 0 _ _ (0, 0) hblk
  have k1 := cell_of_row _ _ 1 _ _ (0, 0) hblk
  simp only [List.getElem?_toArray, List.getElem?_cons_zero, List.getElem?_cons_succ] at k0 k1
  have K0 := Lib.hid k0
  have K1 := Lib.hid k1
  clear k0 k1 hblk
  have HB2 : Hid (Below w.heap.size w w2) := Lib.hid (HB1.out.trans (below_of_grown hg2 (by omega) (fun k hk => by cases hk; omega)))
  have hlt : w.heap.size < w2.heap.size := by omega
  clear hm hok hc2 hg2 hb2
  go_wp2
  refine bodyPost_ret (v := .agg #[.string m.1, .slice A m.2.length c]) (by simp [results, Tryz.results24, go_sem, K0.out, K1.out]) rfl ?_
  have ht1 := ((Turned.refl w.heap.size (w.heap.size + 1) w2).set (b := w.heap.size) 0 (.string m.1) (by omega) (by omega)).set (b := w.heap.size) 1 (.slice A m.2.length c) (by omega) (by omega)
  have ht := ht1.trans (Turned.of_below (lo := w.heap.size) (hi := w.heap.size + 1) ((Below.refl _ _).alloc (Nat.le_refl _) (.cells #[.string m.1, .slice A m.2.length c] 31)))
  refine ⟨m, _, rfl, HO.out, (HM.out.turned ht (.inr (by omega)) (Nat.le_refl _)).mono (by omega) ht.size, ?_⟩
  exact HB2.out.trans (ht.below (Nat.le_refl _) (by omega))
end Go.Proofs.YtkkbhlaakhkjnaaGreatDoor
/- MsgSame of the program, with slices.Equal of two rows of fields; no conditions. -/
set_option linter.unusedVariables false
namespace Go.Proofs.YtkkbhlaakhkjnaaGreatDoor
open Go.ChangeShapes Go.WideShapes Go.ChangeAt Go.RowKit

set_option maxRecDepth 100000 in
theorem rows_no {a b : List FieldD} {i : Nat} {x y : FieldD} (hx : a[i]? = some x) (hy : b[i]? = some y) (h : x ≠ y) : decide (a = b) = false := by
  rw [decide_eq_false_iff_not]
  rintro rfl
  exact h (Option.some.inj (hx.symm.trans hy))
set_option maxRecDepth 100000 in
theorem rows_yes {a b : List FieldD} (hl : a.length = b.length) (h : ∀ j x, j < a.length → a[j]? = some x → b[j]? = some x) : decide (a = b) = true := by
  rw [decide_eq_true_eq]
  refine List.ext_getElem hl fun j hj1 hj2 => ?_
  have := h j _ hj1 (List.getElem?_eq_getElem hj1)
  rw [List.getElem?_eq_getElem hj2] at this
  exact (Option.some.inj this).symm
set_option maxRecDepth 100000 in
set_option maxHeartbeats 3200000 in
theorem equalRows_any (hi1 hi2 : Nat) (va vb : Value) (a b : List FieldD) (w : World) (hna : a.length ≤ 1048576) (hnb : b.length ≤ 1048576) (h1 : FieldsR.rd hi1 w [va] a) (h2 : FieldsR.rd hi2 w [vb] b) (hh1 : hi1 ≤ w.heap.size) (hh2 : hi2 ≤ w.heap.size) :
    Calls Tryz.prog 54 #[va, vb] w fun e w' => e = .returned (.bool (decide (a = b))) ∧ Below w.heap.size w w' := by
  obtain ⟨A1, c1, rfl, hc1, h1'⟩ := fields_rd h1
  obtain ⟨A2, c2, rfl, hc2, h2'⟩ := fields_rd h2
  have H1 := Lib.hid h1'
  have H2 := Lib.hid h2'
  clear h1' h2' h1 h2
  by_cases hl : a.length = b.length
  · have HL := Lib.hid hl
    have hln : b.length = a.length := hl.symm
    rw [hln] at hnb hc2 ⊢
    clear hl hln
    go_enter Tryz.func54, Tryz.ntmps54
    go_wp2
    go_loopw [5, 13] (fun _ iv wr => ∃ i : Nat, i ≤ a.length ∧ iv = .int .i64 i ∧ Hid (∀ j x, j < i → a[j]? = some x → b[j]? = some x) ∧ Hid (Below w.heap.size w wr) ∧ w.heap.size ≤ wr.heap.size) (fun _ iv _ => a.length - (intOf iv).toNat)
    case atStart => exact ⟨0, Nat.zero_le _, rfl, Lib.hid (fun j x hj => absurd hj (by omega)), Lib.hid (Below.refl _ _), Nat.le_refl _⟩
    case round =>
      obtain ⟨i, hi', rfl, HE, HB, hz⟩ := hrel
      by_cases hin : i < a.length
      · obtain ⟨x, hx⟩ : ∃ x, a[i]? = some x := ⟨_, List.getElem?_eq_getElem hin⟩
        obtain ⟨y, hy⟩ : ∃ y, b[i]? = some y := ⟨_, List.getElem?_eq_getElem (by have := HL.out; omega)⟩
        obtain ⟨p, o, rfl, hp, d0, d1⟩ := H1.out i x hx
        obtain ⟨q, r, rfl, hq, e0, e1⟩ := H2.out i y hy
        have d0 := (HB.out.cell (p := ⟨p, _, none⟩) (show p < w.heap.size by omega)).trans d0
        have d1 := (HB.out.cell (p := ⟨p, _, none⟩) (show p < w.heap.size by omega)).trans d1
        have e0 := (HB.out.cell (p := ⟨q, _, none⟩) (show q < w.heap.size by omega)).trans e0
        have e1 := (HB.out.cell (p := ⟨q, _, none⟩) (show q < w.heap.size by omega)).trans e1
        have hqz : q < wr.heap.size := by omega
        have HX := Lib.hid hx
        have HY := Lib.hid hy
        have g1 : (i : Int) < (a.length : Int) := by omega
        have g2 : 0 ≤ (i : Int) := by omega
        clear hx hy
        by_cases h1 : x.1 = y.1
        · by_cases h2 : x.2 = y.2
          · have hxy : x = y := Prod.ext h1 h2
            subst hxy
            clear h1 h2
            go_wp2
            go_quiet (fail)
            go_wp2
            go_roundw
            case rel => exact ⟨i + 1, by omega, by go_num, Lib.hid (fun j z hj hz' => by
              by_cases e : j = i
              · subst e; rw [HX.out] at hz'; cases hz'; exact HY.out
              · exact HE.out j z (by omega) hz'), Lib.hid (below_drewN HB.out _), by simp; omega⟩
            case measure => simp [intOf] <;> omega
          · have h2' := str_ne h2
            have HK : Hid (decide (a = b) = false) := Lib.hid (rows_no HX.out HY.out (fun e => h2 (by rw [e])))
            have h1' : (x.1 == y.1) = true := by simpa using h1
            clear h1 h2
            go_wp2
            go_quiet (fail)
            go_wp2
            go_ret
            exact ⟨ret_bool HK.out.symm, below_drewN HB.out _⟩
        · have HK : Hid (decide (a = b) = false) := Lib.hid (rows_no HX.out HY.out (fun e => h1 (by rw [e])))
          have h1' : (x.1 == y.1) = false := by simpa using h1
          clear h1
          go_wp2
          go_quiet (fail)
          go_wp2
          go_ret
          exact ⟨ret_bool HK.out.symm, below_drewN HB.out _⟩
      · obtain rfl : i = a.length := by omega
        have HK : Hid (decide (a = b) = true) := Lib.hid (rows_yes HL.out HE.out)
        go_wp2
        go_ret
        exact ⟨ret_bool HK.out.symm, HB.out⟩
  · have HK : Hid (decide (a = b) = false) := Lib.hid (by rw [decide_eq_false_iff_not]; rintro rfl; exact hl rfl)
    have hl' : ((a.length : Int) != (b.length : Int)) = true := by rw [bne_iff_ne]; omega
    clear hl
    rw [HK.out]
    go_enter Tryz.func54, Tryz.ntmps54
    go_wp2
    go_ret
    exact ⟨rfl, Below.refl _ _⟩
set_option maxRecDepth 100000 in
theorem implMsgSame_any (hi1 hi2 : Nat) (va vb : Value) (a b : MsgD) (w : World) (hna : a.2.length ≤ 1048576) (hnb : b.2.length ≤ 1048576) (h1 : FieldsR.rd hi1 w [va] a.2) (h2 : FieldsR.rd hi2 w [vb] b.2) (hh1 : hi1 ≤ w.heap.size) (hh2 : hi2 ≤ w.heap.size) :
    Calls Tryz.prog 25 #[.agg #[.string a.1, va], .agg #[.string b.1, vb]] w fun e w' => e = .returned (.bool (decide (a = b))) ∧ Below w.heap.size w w' := by
  obtain ⟨A1, c1, rfl, -⟩ := Rep.slice_form h1
  obtain ⟨A2, c2, rfl, -⟩ := Rep.slice_form h2
  have H1 := Lib.hid h1
  have H2 := Lib.hid h2
  clear h1 h2
  have HB0 : Hid (∀ o1 o2, Below w.heap.size w ((w.alloc o1).alloc o2)) := Lib.hid fun o1 o2 => ((Below.refl _ _).alloc (Nat.le_refl _) o1).alloc (by simp) o2
  by_cases hm : a.1 = b.1
  · have HK : Hid (decide (a = b) = decide (a.2 = b.2)) := Lib.hid (by
      rw [decide_eq_decide]
      exact ⟨fun h => by rw [h], fun h => Prod.ext hm h⟩)
    rw [HK.out, ← hm]
    have HE := Lib.hid (fun (W : World) (hW : Below w.heap.size w W) => equalRows_any hi1 hi2 _ _ a.2 b.2 W hna hnb (Rep.below (R := FieldsR) H1.out hW hh1) (Rep.below (R := FieldsR) H2.out hW hh2) (Nat.le_trans hh1 hW.size) (Nat.le_trans hh2 hW.size))
    clear hm
    go_enter Tryz.func25, Tryz.ntmps25
    go_wp2_with fail
    refine (HE.out _ (HB0.out _ _)).mono ?_
    rintro e w1 ⟨rfl, hb⟩
    have HB : Hid (Below w.heap.size w w1) := Lib.hid ((HB0.out _ _).trans (hb.mono (by simp; omega)))
    clear hb
    go_wp2
    go_ret
    exact ⟨rfl, HB.out⟩
  · have HK : Hid (decide (a = b) = false) := Lib.hid (by rw [decide_eq_false_iff_not]; rintro rfl; exact hm rfl)
    have hm' := str_ne hm
    clear hm
    rw [HK.out]
    go_enter Tryz.func25, Tryz.ntmps25
    go_wp2
    go_ret
    exact ⟨rfl, HB0.out _ _⟩
end Go.Proofs.YtkkbhlaakhkjnaaGreatDoor
/- All that the laws on messages lean on; no statement of its own. -/
