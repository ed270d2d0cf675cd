/- parseMsg and Parse of the program; no conditions on the bytes but their number. -/
import Derived.Test.YtiolebpoofkpmaaGreatDoorMrp22
set_option linter.unusedVariables false
namespace Go.Proofs.YtiolebpoofkpmaaGreatDoor
open Go.ChangeShapes Go.WideShapes Go.ChangeAt Go.RowKit
open Go.Maps (Keyed IsMap)

/-- the message, or the panic -/
def pmRes (r : MsgD × Int) (w : World) (e : Ending) (w' : World) : Prop := Below w.heap.size w w' ∧ if r.2 = 0 then ∃ u, e = .returned (.agg #[.string r.1.1, u]) ∧ FieldsR.mine w.heap.size w'.heap.size w' [u] r.1.2 else e = fault r.2
set_option maxRecDepth 100000 in
theorem pmRes_no {r : MsgD × Int} {k : Int} {w w' : World} (hr : r.2 = k) (hk : k ≠ 0) (hb : Below w.heap.size w w') : pmRes r w (fault k) w' := ⟨hb, by rw [if_neg (by rw [hr]; exact hk), hr]⟩
set_option maxRecDepth 100000 in
theorem pmRes_yes {r : MsgD × Int} {w w' : World} {u : Value} (hr : r.2 = 0) (hu : FieldsR.mine w.heap.size w'.heap.size w' [u] r.1.2) (hb : Below w.heap.size w w') : pmRes r w (.returned (.agg #[.string r.1.1, u])) w' := ⟨hb, by rw [if_pos hr]; exact ⟨u, rfl, hu⟩⟩
set_option maxRecDepth 100000 in
theorem gEnd_two {l : List Int} (h : gOk l 0 4 = true) : gEnd l 0 4 = 2 := by unfold gEnd; rw [if_pos h]; rfl
set_option maxRecDepth 100000 in
theorem keys_up {l : List Int} (hl : isBytes l) (h : nosOk l = true) : (nosL l).Pairwise (· < ·) ∧ 2 ≤ nosE l := by
  have := nos_only hl h (L := (nosL l).map fun n => (n, (⟨#[]⟩ : ByteArray))) (by rw [List.map_map]; exact List.map_id _)
  exact ⟨this.1, this.2.2⟩
set_option maxRecDepth 100000 in
theorem asc_of_keys {L : List FieldD} {X : List Int} (h : L.map (·.1) = X) (hX : X.Pairwise (· < ·)) : asc L := by
  subst h
  exact List.pairwise_map.1 hX
set_option maxRecDepth 100000 in
theorem key_new {L : List FieldD} {X : List Int} {i : Nat} {x : Int} (h : L.map (·.1) = X.take i) (hX : X.Pairwise (· < ·)) (hx : X[i]? = some x) : ∀ y ∈ L, y.1 ≠ x := by
  obtain ⟨hi, rfl⟩ := List.getElem?_eq_some_iff.1 hx
  intro y hy e
  have hm : y.1 ∈ X.take i := by rw [← h]; exact List.mem_map_of_mem hy
  obtain ⟨j, hj, hje⟩ := List.mem_iff_getElem.1 hm
  rw [List.length_take] at hj
  rw [List.getElem_take] at hje
  have := List.pairwise_iff_getElem.1 hX j i (by omega) hi (by omega)
  omega
set_option maxRecDepth 100000 in
set_option maxHeartbeats 8000000 in
theorem parseMsg_any (hi : Nat) (v : Value) (l : List Int) (w : World) (p : Addr) (hg : 1 < w.heap.size) (hc : w.cell? ⟨1, 0, none⟩ = some (.iface 207 (.pointer (some p)))) (hn : l.length ≤ 1048577) (hl : isBytes l) (h : rd .u8 hi w v l) (hhi : hi ≤ w.heap.size) :
    Calls Tryz.prog 31 #[v] w (pmRes (parseRes l) w) := by
  obtain ⟨A, c, rfl, hcc⟩ := h.form
  have H := Lib.hid h
  have HL := Lib.hid hl
  have HCE := Lib.hid (fun (W : World) (hW : Below w.heap.size w W) => (hW.cell (p := ⟨1, 0, none⟩) hg).trans hc)
  have HG1 := Lib.hid (fun (W : World) (hW : Below w.heap.size w W) => implGetBcd_any hi _ l 0 4 W (by omega) (by decide) hl (h.below hW hhi) (Nat.le_trans hhi hW.size))
  have HG2 := Lib.hid (fun (W : World) (hW : Below w.heap.size w W) => parseBitmaps_any hi _ l W (by omega) hl (h.below hW hhi) (Nat.le_trans hhi hW.size))
  have HGF := Lib.hid (fun (a x : Int) (ha : a ≤ 9223372036854775807) (W : World) (hW : Below w.heap.size w W) => implGetField_any hi _ l a x W p (Nat.lt_of_lt_of_le hg hW.size) (HCE.out W hW) (by omega) ha hl (h.below hW hhi) (Nat.le_trans hhi hW.size))
  clear h hc
  have HB0 : Hid (∀ o, Below w.heap.size w (w.alloc o)) := Lib.hid fun o => (Below.refl _ _).alloc (Nat.le_refl _) o
  cases hgk : gOk l 0 4
  · have HK : Hid ((parseRes l).2 = 1) := Lib.hid (by simp [parseRes, hgk])
    have HE := Lib.hid (gRes_no hgk)
    clear hgk
    go_enter Tryz.func31, Tryz.ntmps31
    go_wp2_with fail
    refine (HG1.out _ (HB0.out _)).mono ?_
    rw [HE.out]
    rintro e w1 ⟨rfl, hb⟩
    have HB1 : Hid (Below w.heap.size w w1) := Lib.hid ((HB0.out _).trans (hb.mono (by simp)))
    clear hb
    go_wp2_with fail
    refine (need_no 1 _).mono ?_
    rintro e w2 ⟨rfl, rfl⟩
    go_wp2
    exact ⟨rfl, pmRes_no HK.out (by decide) HB1.out⟩
  have HE : Hid (gRes l 0 4 = .returned (.tuple #[.string ⟨(gTxt l 0 4).toArray⟩, .int .i64 2, .bool true])) := Lib.hid (by unfold gRes; rw [gEnd_two hgk, hgk])
  have HGK := Lib.hid hgk
  clear hgk
  cases ho : nosOk l
  · have HK : Hid ((parseRes l).2 = 2) := Lib.hid (by simp [parseRes, HGK.out, ho])
    have HO := Lib.hid ho
    clear ho
    go_enter Tryz.func31, Tryz.ntmps31
    go_wp2_with fail
    refine (HG1.out _ (HB0.out _)).mono ?_
    rw [HE.out]
    rintro e w1 ⟨rfl, hb⟩
    have HB1 : Hid (Below w.heap.size w w1) := Lib.hid ((HB0.out _).trans (hb.mono (by simp)))
    have hz1 : w.heap.size + 1 ≤ w1.heap.size := by have := hb.size; simpa using this
    clear hb
    go_wp2_with fail
    refine (need_yes 1 _).mono ?_
    rintro e w2 ⟨rfl, rfl⟩
    go_wp2_with fail
    refine (HG2.out _ HB1.out).mono ?_
    rintro e w2 ⟨hb2, he⟩
    rw [if_neg (by rw [HO.out]; decide)] at he
    subst he
    have HB2 : Hid (Below w.heap.size w w2) := Lib.hid (HB1.out.trans (hb2.mono (by omega)))
    clear hb2
    unfold fault
    go_wp2
    exact ⟨rfl, pmRes_no HK.out (by decide) HB2.out⟩
  have HP : Hid (∀ r, pst l (nosL l) (nosE l) (nosL l).length = r → parseRes l = (match r with | none => ((⟨#[]⟩, []), 3) | some (e, L) => if e = l.length then ((⟨(gTxt l 0 4).toArray⟩, L), 0) else ((⟨#[]⟩, []), 4))) := Lib.hid (fun r hr => by unfold parseRes; rw [HGK.out, ho, hr]; rfl)
  have HO := Lib.hid ho
  have hel := nosE_le l
  have hnl := nosL_len l
  obtain ⟨hup, h2e⟩ := keys_up HL.out ho
  have HUP := Lib.hid hup
  have HPO := Lib.hid (fun i (hi : i ≤ (nosL l).length) e L hs => pst_only HL.out (by omega : 0 ≤ nosE l) i hi e L hs)
  clear ho hup
  generalize (⟨(gTxt l 0 4).toArray⟩ : ByteArray) = mti at HE HP
  have hmm := @run_makeMap Tryz.prog
  go_enter Tryz.func31, Tryz.ntmps31
  go_wp2_with fail
  refine (HG1.out _ (HB0.out _)).mono ?_
  rw [HE.out]
  rintro e w1 ⟨rfl, hb⟩
  have HC1 := Lib.hid ((cellMsg.new w).below hb (by simp))
  have HB1 : Hid (Below w.heap.size w w1) := Lib.hid ((HB0.out _).trans (hb.mono (by simp)))
  have hz1 : w.heap.size + 1 ≤ w1.heap.size := by have := hb.size; simpa using this
  clear hb
  go_wp2_with fail
  refine (need_yes 1 _).mono ?_
  rintro e w2 ⟨rfl, rfl⟩
  go_wp2_with fail
  refine (HG2.out _ HB1.out).mono ?_
  rintro e w2 ⟨hb2, he⟩
  rw [if_pos HO.out] at he
  obtain ⟨v2, rfl, hv2⟩ := he
  generalize nosL l = X at hv2 hnl HP HUP HPO
  generalize nosE l = e0 at hel h2e HP HPO ⊢
  obtain ⟨A2, c2, rfl, hc2⟩ := hv2.form
  have HC2 := Lib.hid (HC1.out.below hb2 (by omega))
  have HB2 : Hid (Below w.heap.size w w2) := Lib.hid (HB1.out.trans (hb2.mono (by omega)))
  have hz2 : w1.heap.size ≤ w2.heap.size := hb2.size
  have HV := Lib.hid hv2
  clear hv2 hb2 HC1 HG1 HG2 HE
  go_wp2
  have HB3 : Hid (Below w2.heap.size w2 (w2.alloc (.map #[] 0))) := Lib.hid ((Below.refl _ _).alloc (Nat.le_refl _) _)
  have HM0 : Hid (mapAt (w2.alloc (.map #[] 0)) w2.heap.size 0 (.map [])) := Lib.hid (World.ownsMap_made w2 Tryz.prog 3 (plainElem (H := Unit) Tryz.prog 9))
  clear hmm
  go_loopw [4, 30] (fun av iv wr => ∃ (i : Nat) (a : Int) (D : DataW Unit) (L : List FieldD), i ≤ X.length ∧ iv = .int .i64 i ∧ av = .int .i64 a ∧ a ≤ l.length ∧ Hid (pst l X e0 i = some (a, L)) ∧ Hid (mapAt wr w2.heap.size i D) ∧ Hid (mapIs D L) ∧ Hid (Below w2.heap.size w2 wr) ∧ w2.heap.size < wr.heap.size) (fun _ iv _ => X.length - (intOf iv).toNat)
  case atStart => exact ⟨0, e0, _, [], Nat.zero_le _, rfl, rfl, hel, Lib.hid rfl, HM0, Lib.hid mapIs.start, HB3, by simp⟩
  case round =>
    obtain ⟨i, a, D, L, hi', rfl, rfl, hal, HS, HM, HI, HB, hz⟩ := hrel
    have HBr : Hid (Below w.heap.size w wr) := Lib.hid (HB2.out.trans (HB.out.mono (by omega)))
    by_cases hin : i < X.length
    · obtain ⟨x, hx⟩ : ∃ x, X[i]? = some x := ⟨_, List.getElem?_eq_getElem hin⟩
      obtain ⟨b, off, hA, hbl, d0⟩ := HV.out.at hx
      subst hA
      have d0 := (HB.out.cell (p := ⟨b, off + i, none⟩) hbl).trans d0
      have HX := Lib.hid hx
      have HN := Lib.hid (pst_next l X e0 i x hx)
      have g1 : (i : Int) < (X.length : Int) := by omega
      have g2 : 0 ≤ (i : Int) := by omega
      have HF := Lib.hid (HGF.out a x (by omega) wr HBr.out)
      clear hx
      cases hgf : gfOk l a x
      · have HK : Hid ((parseRes l).2 = 3) := Lib.hid (by
          rw [HP.out none (pst_none (i := i + 1) (by omega) (by rw [HN.out, HS.out]; simp [pstep, hgf]))])
        have HR := Lib.hid (get_no hgf)
        clear hgf
        go_wp2_with fail
        refine HF.out.mono ?_
        rw [HR.out]
        rintro e w3 ⟨rfl, hb3⟩
        have HB3 : Hid (Below w.heap.size w w3) := Lib.hid (HBr.out.trans (hb3.mono (by omega)))
        clear hb3
        go_wp2_with fail
        refine (need_no 3 _).mono ?_
        rintro e w4 ⟨rfl, rfl⟩
        go_wp2
        exact ⟨rfl, pmRes_no HK.out (by decide) HB3.out⟩
      · have hge := gfEnd_le hgf
        have HS1 : Hid (pst l X e0 (i + 1) = some (gfEnd l a x, L ++ [(x, gfTxt l a x)])) := Lib.hid (by rw [HN.out, HS.out]; simp [pstep, hgf])
        have HR := Lib.hid (get_yes hgf)
        have hfo := (field_of HL.out hgf).1
        have HTS : Hid ((gfTxt l a x).size ≤ maxLen) := Lib.hid (by have := fOk_60 hfo; unfold maxLen; omega)
        have HXW : Hid ((Lit.int .i64 x).wf = true) := Lib.hid (by have := fOk_range hfo; exact WalkArith.wf_i64 (by omega))
        have HKN := Lib.hid (key_new (HPO.out i hi' a L HS.out).1 HUP.out HX.out)
        clear hgf hfo
        generalize gfEnd l a x = e1 at hge HS1 HR
        generalize gfTxt l a x = t1 at HS1 HR HTS
        have HI1 := Lib.hid (HI.out.snoc (x := (x, t1)) HKN.out)
        go_wp2_with fail
        refine HF.out.mono ?_
        rw [HR.out]
        rintro e w3 ⟨rfl, hb3⟩
        have hz3 : wr.heap.size ≤ w3.heap.size := hb3.size
        have HM3 : Hid (mapAt w3 w2.heap.size i D) := Lib.hid (ownsMap_below HM.out hb3 hz)
        have HB3 : Hid (Below w2.heap.size w2 w3) := Lib.hid (HB.out.trans (hb3.mono (by omega)))
        clear hb3
        go_wp2_with fail
        refine (need_yes 3 _).mono ?_
        rintro e w4 ⟨rfl, rfl⟩
        go_wp2_with (at_mapUpdate; refine wpList_mapUpdate_own _ rfl _ _ _ 78 rfl 3 9 lawI Tryz.underlying78 _ w2.heap.size i D rfl HM3.out (by unfold maxLen; omega) _ _ _ rfl rfl (Maps.keyOf_int_mk Tryz.underlying3 HXW.out) _ [] (plainElem_string Tryz.underlying9 HTS.out) ?_)
        intro w4 hown4 hg4
        have hz4 : w3.heap.size ≤ w4.heap.size := hg4.size
        have HB4 : Hid (Below w2.heap.size w2 w4) := Lib.hid (HB3.out.grown hg4 (by omega) (fun j hj => by cases hj; exact Nat.le_refl _))
        have HO4 := Lib.hid hown4
        clear hown4 hg4
        go_wp2
        go_roundw
        case rel => exact ⟨i + 1, e1, _, L ++ [(x, t1)], by omega, by go_num, rfl, by omega, HS1, HO4, HI1, HB4, by omega⟩
        case measure => simp [intOf] <;> omega
    · obtain rfl : i = X.length := by omega
      have HC := Lib.hid (HC2.out.below HB.out (by omega))
      obtain ⟨hkeys, hfo, -, -⟩ := HPO.out X.length (Nat.le_refl _) a L HS.out
      rw [List.take_length] at hkeys
      have HAS := Lib.hid (asc_of_keys hkeys HUP.out)
      have HWF : Hid (∀ y ∈ L, (Lit.int .i64 y.1).wf = true) := Lib.hid fun y hy => by have := fOk_range (hfo y hy); exact WalkArith.wf_i64 (by omega)
      have hLl : L.length = X.length := by rw [← hkeys, List.length_map]
      have hLb : L.length ≤ 128 := by omega
      clear hkeys hfo hLl
      by_cases hae : a = l.length
      · have HK : Hid (parseRes l = ((mti, L), 0)) := Lib.hid (by rw [HP.out _ HS.out]; simp [hae])
        have hae' : (a == (l.length : Int)) = true := by simpa using hae
        have HFS := Lib.hid (implFieldsOf_any w2.heap.size X.length D L wr HM.out HI.out HAS.out (by omega) (by omega) HWF.out)
        clear hae
        go_wp2_with fail
        refine (need_yes 4 _).mono ?_
        rintro e w4 ⟨rfl, rfl⟩
        go_wp2_with fail
        refine HFS.out.mono ?_
        rintro e w5 ⟨u5, rfl, hu5, hb5⟩
        obtain ⟨A5, c5, rfl, -⟩ := Rep.slice_form hu5.rd
        obtain ⟨r0, r1, f0, f1⟩ := HC.out.below hb5 (by omega)
        have hz5 : wr.heap.size ≤ w5.heap.size := hb5.size
        have HB5 : Hid (Below w.heap.size w w5) := Lib.hid (HBr.out.trans (hb5.mono (by omega)))
        have HU5 := Lib.hid hu5
        clear hb5 hu5
        go_wp2
        refine bodyPost_ret (v := .agg #[.string mti, .slice A5 L.length c5]) (by simp [results, Tryz.results31, go_sem, r0, r1]) rfl ?_
        have hb6 := (HB5.out.setCell (p := ⟨w.heap.size, 0, none⟩) (Nat.le_refl _) (.string mti)).setCell (p := ⟨w.heap.size, 1, none⟩) (Nat.le_refl _) (.slice A5 L.length c5)
        have ht := ((Turned.refl w.heap.size (w.heap.size + 1) w5).set (b := w.heap.size) 0 (.string mti) (by omega) (by omega)).set (b := w.heap.size) 1 (.slice A5 L.length c5) (by omega) (by omega)
        rw [HK.out]
        exact pmRes_yes (r := ((mti, L), 0)) rfl ((HU5.out.turned ht (.inr (by omega)) (Nat.le_refl _)).mono (by omega) ht.size) hb6
      · have HK : Hid ((parseRes l).2 = 4) := Lib.hid (by rw [HP.out _ HS.out]; simp [hae])
        have hae' : (a == (l.length : Int)) = false := by simpa using hae
        clear hae
        go_wp2_with fail
        refine (need_no 4 _).mono ?_
        rintro e w4 ⟨rfl, rfl⟩
        go_wp2
        exact ⟨rfl, pmRes_no HK.out (by decide) HBr.out⟩
end Go.Proofs.YtiolebpoofkpmaaGreatDoor
set_option linter.unusedVariables false
namespace Go.Proofs.YtiolebpoofkpmaaGreatDoor
open Go.ChangeShapes Go.WideShapes Go.ChangeAt Go.RowKit

set_option maxRecDepth 100000 in
theorem assert_yes (c : Int) (w : World) : (Instr.typeAssert (.iface 59 (.int .i64 c)) 20 59 true).run Tryz.prog w = .ok (.tuple #[.int .i64 c, .bool true]) w := by kernel_rfl
set_option maxRecDepth 100000 in
theorem assert_no (w : World) : (Instr.typeAssert .nilIface 20 59 true).run Tryz.prog w = .ok (.tuple #[.int .i64 0, .bool false]) w := by kernel_rfl
set_option maxRecDepth 100000 in
set_option maxHeartbeats 1600000 in
/-- the closure, the frame below panics with a fault -/
theorem catch_fault (b q : Nat) (c : Int) (x y z : Value) (older : List PanicEntry) (w : World) (h0 : w.cell? ⟨b, 0, none⟩ = some x) (h1 : w.cell? ⟨b, 1, none⟩ = some y) (h2 : w.cell? ⟨q, 0, none⟩ = some z) (f0 : w.frozen? ⟨b, 0, none⟩ = false) (f1 : w.frozen? ⟨b, 1, none⟩ = false) (f2 : w.frozen? ⟨q, 0, none⟩ = false) (hbq : b ≠ q) :
    CallsD Tryz.prog 30 #[.pointer (some ⟨b, 0, none⟩), .pointer (some ⟨q, 0, none⟩)] (.panicking ({ v := .iface 59 (.int .i64 c), recovered := false } :: older)) w fun e u' w' =>
      e = .returned (.tuple #[]) ∧ u' = .panicking ({ v := .iface 59 (.int .i64 c), recovered := true } :: older) ∧ w' = ((w.setCell ⟨b, 0, none⟩ (.string ⟨#[]⟩)).setCell ⟨b, 1, none⟩ (.slice none 0 0)).setCell ⟨q, 0, none⟩ (.int .i64 c) := by
  refine callsD_of_wpS Tryz.func30 rfl fun c₀ cs hu => ?_
  apply wpS_seq
  apply wpS_region
  simp [wpOpsS, go_sem, recoverD, hu, Tryz.ntmps30, Exit.thenS, assert_yes]
  apply wpS_seq
  apply wpS_region
  simp [wpOpsS, go_sem, Exit.thenS]
  refine wpS_cond (t := true) (by simp [Act.eval, Array.replicate]) ?_
  simp only [if_true]
  apply wpS_region
  simp [wpOpsS, go_sem, Array.replicate, h0, h1, h2, f0, f1, f2, bodyPostS, results, Tryz.results30]
set_option maxRecDepth 100000 in
set_option maxHeartbeats 1600000 in
/-- the closure, the frame below returns -/
theorem catch_none (b q : Nat) (w : World) :
    CallsD Tryz.prog 30 #[.pointer (some ⟨b, 0, none⟩), .pointer (some ⟨q, 0, none⟩)] .returning w fun e u' w' => e = .returned (.tuple #[]) ∧ u' = .returning ∧ w' = w := by
  refine callsD_of_wpS Tryz.func30 rfl fun c₀ cs hu => ?_
  apply wpS_seq
  apply wpS_region
  simp [wpOpsS, go_sem, recoverD, hu, Tryz.ntmps30, Exit.thenS, assert_no]
  apply wpS_seq
  apply wpS_region
  simp [wpOpsS, go_sem, Exit.thenS]
  refine wpS_cond (t := false) (by simp [Act.eval, Array.replicate]) ?_
  simp only [Bool.false_eq_true, if_false]
  refine wpS_of_wp (wp_skip ?_)
  cases c₀
  simp_all [bodyPostS, results, Tryz.results30]
set_option maxRecDepth 100000 in
set_option maxHeartbeats 4000000 in
theorem implParse_any (hi : Nat) (v : Value) (l : List Int) (w : World) (p : Addr) (hg : 1 < w.heap.size) (hc : w.cell? ⟨1, 0, none⟩ = some (.iface 207 (.pointer (some p)))) (hn : l.length ≤ 1048577) (hl : isBytes l) (h : rd .u8 hi w v l) (hhi : hi ≤ w.heap.size) :
    Calls Tryz.prog 14 #[v] w (codeRes (parseRes l) w) := by
  obtain ⟨A, c, rfl, hcc⟩ := h.form
  have HPM := Lib.hid (fun (W : World) (hW : Below w.heap.size w W) => parseMsg_any hi _ l W p (Nat.lt_of_lt_of_le hg hW.size) ((hW.cell (p := ⟨1, 0, none⟩) hg).trans hc) hn hl (h.below hW hhi) (Nat.le_trans hhi hW.size))
  clear h hc
  have HB0 : Hid (∀ o1 o2, Below w.heap.size w ((w.alloc o1).alloc o2)) := Lib.hid fun o1 o2 => ((Below.refl _ _).alloc (Nat.le_refl _) o1).alloc (by simp) o2
  have hmf : ∀ (fn : Fn) (first cap : Array Value) (w : World), (Instr.makeFunc fn first cap).run Tryz.prog w = .ok (.func fn first cap) w := fun _ _ _ _ => rfl
  rcases parse_code l with h0 | ⟨h1, h4, hm⟩
  · have HR0 := Lib.hid h0
    clear h0
    go_enter_defers Tryz.func14, Tryz.ntmps14
    go_wp2_with fail
    refine (HPM.out _ (HB0.out _ _)).mono ?_
    rintro e w1 ⟨hb, he⟩
    rw [if_pos HR0.out] at he
    obtain ⟨u, rfl, hu⟩ := he
    obtain ⟨A5, c5, rfl, -⟩ := Rep.slice_form hu.rd
    obtain ⟨hcc', hff⟩ := bcell hb
    have hz : w.heap.size + 1 + 1 ≤ w1.heap.size := by have := hb.size; simpa using this
    have r0 : w1.cell? ⟨w.heap.size, 0, none⟩ = some (.string ⟨#[]⟩) := (hcc' w.heap.size 0 (by simp; omega)).trans (by simp)
    have r1 : w1.cell? ⟨w.heap.size, 1, none⟩ = some (.slice none 0 0) := (hcc' w.heap.size 1 (by simp; omega)).trans (by simp)
    have q0 : w1.cell? ⟨w.heap.size + 1, 0, none⟩ = some (.int .i64 0) := (hcc' (w.heap.size + 1) 0 (by simp)).trans (by simp)
    have f0 : w1.frozen? ⟨w.heap.size, 0, none⟩ = false := (hff w.heap.size 0 (by simp; omega)).trans (by simp)
    have f1 : w1.frozen? ⟨w.heap.size, 1, none⟩ = false := (hff w.heap.size 1 (by simp; omega)).trans (by simp)
    have f2 : w1.frozen? ⟨w.heap.size + 1, 0, none⟩ = false := (hff (w.heap.size + 1) 0 (by simp)).trans (by simp)
    have HB1 : Hid (Below w.heap.size w w1) := Lib.hid ((HB0.out _ _).trans (hb.mono (by simp; omega)))
    have HU : Hid (FieldsR.mine (w.heap.size + 2) w1.heap.size w1 [.slice A5 (parseRes l).1.2.length c5] (parseRes l).1.2) := Lib.hid (by simpa using hu)
    clear hb hu hcc' hff
    go_wp2
    refine leaves_cons (f := 30) (args := #[.pointer (some ⟨w.heap.size, 0, none⟩), .pointer (some ⟨w.heap.size + 1, 0, none⟩)]) (by simp) (by simp [go_sem]) ?_
    refine (catch_none w.heap.size (w.heap.size + 1) _).mono ?_
    rintro e u' w'' ⟨rfl, rfl, rfl⟩
    simp [Leaves, settle, results, Tryz.results14, go_sem, r0, r1, q0]
    have ht := (((Turned.refl w.heap.size (w.heap.size + 2) w1).set (b := w.heap.size) 0 (.string (parseRes l).1.1) (by omega) (by omega)).set (b := w.heap.size) 1 (.slice A5 (parseRes l).1.2.length c5) (by omega) (by omega)).set (b := w.heap.size + 1) 0 (.int .i64 0) (by omega) (by omega)
    exact ⟨_, by rw [HR0.out], (HU.out.turned ht (.inr (Nat.le_refl _)) (Nat.le_refl _)).mono (by omega) ht.size, ((HB1.out.setCell (p := ⟨_, _, none⟩) (Nat.le_refl _) _).setCell (p := ⟨_, _, none⟩) (Nat.le_refl _) _).setCell (p := ⟨_, _, none⟩) (show _ ≤ w.heap.size + 1 by omega) _⟩
  · have HMM := Lib.hid hm
    have hne : (parseRes l).2 ≠ 0 := by omega
    have HNE := Lib.hid hne
    clear hm hne
    go_enter_defers Tryz.func14, Tryz.ntmps14
    go_wp2_with fail
    refine (HPM.out _ (HB0.out _ _)).mono ?_
    rintro e w1 ⟨hb, he⟩
    rw [if_neg HNE.out] at he
    subst he
    obtain ⟨hcc', hff⟩ := bcell hb
    have hz : w.heap.size + 1 + 1 ≤ w1.heap.size := by have := hb.size; simpa using this
    have r0 : w1.cell? ⟨w.heap.size, 0, none⟩ = some (.string ⟨#[]⟩) := (hcc' w.heap.size 0 (by simp; omega)).trans (by simp)
    have r1 : w1.cell? ⟨w.heap.size, 1, none⟩ = some (.slice none 0 0) := (hcc' w.heap.size 1 (by simp; omega)).trans (by simp)
    have q0 : w1.cell? ⟨w.heap.size + 1, 0, none⟩ = some (.int .i64 0) := (hcc' (w.heap.size + 1) 0 (by simp)).trans (by simp)
    have f0 : w1.frozen? ⟨w.heap.size, 0, none⟩ = false := (hff w.heap.size 0 (by simp; omega)).trans (by simp)
    have f1 : w1.frozen? ⟨w.heap.size, 1, none⟩ = false := (hff w.heap.size 1 (by simp; omega)).trans (by simp)
    have f2 : w1.frozen? ⟨w.heap.size + 1, 0, none⟩ = false := (hff (w.heap.size + 1) 0 (by simp)).trans (by simp)
    have HB1 : Hid (Below w.heap.size w w1) := Lib.hid ((HB0.out _ _).trans (hb.mono (by simp; omega)))
    clear hb hcc' hff
    unfold fault
    go_wp2
    refine leaves_cons (f := 30) (args := #[.pointer (some ⟨w.heap.size, 0, none⟩), .pointer (some ⟨w.heap.size + 1, 0, none⟩)]) (by simp) (by simp [go_sem]) ?_
    refine (catch_fault w.heap.size (w.heap.size + 1) (parseRes l).2 _ _ _ [] _ r0 r1 q0 f0 f1 f2 (by omega)).mono ?_
    rintro e u' w'' ⟨rfl, rfl, rfl⟩
    simp [Leaves, settle, results, Tryz.results14, go_sem, r0, r1, q0]
    refine ⟨.slice none 0 0, by rw [HMM.out], by rw [HMM.out]; exact mine_none _ _ _, ((HB1.out.setCell (p := ⟨_, _, none⟩) (Nat.le_refl _) _).setCell (p := ⟨_, _, none⟩) (Nat.le_refl _) _).setCell (p := ⟨_, _, none⟩) (show _ ≤ w.heap.size + 1 by omega) _⟩
end Go.Proofs.YtiolebpoofkpmaaGreatDoor
