/- MtiKnown, ReplyMti and isRepeated of the program; no conditions. -/
import Derived.Test.YtdjlhijaadombaaDoorReplyS
import Derived.Test.YtdjlhijaadombaaDoorMti
import Derived.Test.YtdjlhijaadombaaDoorConvB
import Derived.Test.YtdjlhijaadombaaDoorMsgS
import Derived.Test.YtdjlhijaadombaaDoorMrg1
import Derived.Test.YtdjlhijaadombaaDoorMsgRow
import Derived.Test.YtdjlhijaadombaaDoorCodes
import Derived.Test.YtdjlhijaadombaaDoorBase
import Derived.Test.YtdjlhijaadombaaDoorConv
import Derived.BigQuiet
import Derived.Deep.QuietTactic
import Derived.Deep.RegionWith
import Derived.Deep.Cut
import Derived.Deep.DeepCutAuto
import Derived.Lib.ItoaNum
import Derived.Lib.ItoaLen
import Derived.Test.YtdjlhijaadombaaDoorField
import Derived.Test.YtdjlhijaadombaaDoorRep
import Derived.OpenShut
import Derived.ChangeArms
import Derived.Deep.Slices
import Derived.Test.YtdjlhijaadombaaDoorNums
set_option linter.unusedVariables false
namespace Go.Proofs.YtdjlhijaadombaaDoor
open Go.ChangeShapes Go.WideShapes Go.ChangeAt Go.RowKit

set_option maxRecDepth 100000 in
theorem bytesW_frozen (w : World) (e : TypeId) (s : ByteArray) (j : Nat) (hj : j < s.size) : (Lib.bytesWorld w e s).frozen? ⟨w.heap.size, j, none⟩ = false := by
  have h2 : s.size ≤ (Lib.bytesCells w e s).size := by
    have : s.size = s.data.size := rfl
    unfold Lib.bytesCells; simp <;> omega
  simp [World.frozen?, Lib.bytesWorld_at_new]
  try omega

set_option maxRecDepth 100000 in
set_option maxHeartbeats 1600000 in
theorem implReplyMti_any (s : ByteArray) (w : World) (hs : s.size ≤ maxLen) : Calls Tryd.prog 20 #[.string s] w fun e w' => e = .returned (.string (replyMti s)) ∧ Below w.heap.size w w' := by
  cases hm : mtiOk s
  · have hr : replyMti s = ⟨#[]⟩ := by
      unfold replyMti
      rw [if_neg]
      rintro ⟨h1, h2⟩
      simp [mtiOk, h1, h2] at hm
    rw [hr]
    have HM := Lib.hid hm
    clear hm hr
    go_enter Tryd.func20, Tryd.ntmps20
    go_wp2_with fail
    refine (isMti_any s _ hs).mono ?_
    rw [HM.out]
    rintro e w1 ⟨rfl, hb⟩
    go_wp2
    go_ret
    exact ⟨rfl, hb⟩
  have HM := Lib.hid hm
  unfold mtiOk at hm
  rw [Bool.and_eq_true, decide_eq_true_eq] at hm
  obtain ⟨hd, h4⟩ := hm
  have h2 : 2 < s.size := by omega
  have hg : 48 ≤ (s[2]'h2).toNat ∧ (s[2]'h2).toNat ≤ 57 := digs_get hd 2 h2
  have hw0 : IntKind.u8.wrap (((s[2]'h2).toNat : Int) - 48) = ((s[2]'h2).toNat : Int) - 48 := IntWalk.u8_in _ (by omega)
  have hb0 : 0 ≤ ((s[2]'h2).toNat : Int) - 48 := by omega
  by_cases ho : (s[2]'h2).toNat % 2 = 1
  · rw [replyMti_odd hd h4 ho]
    have ho' : ((((s[2]'h2).toNat : Int) - 48) % 2 == 1) = true := by simp; omega
    clear hd
    go_enter Tryd.func20, Tryd.ntmps20
    go_wp2_with fail
    refine (isMti_any s _ hs).mono ?_
    rw [HM.out]
    rintro e w1 ⟨rfl, hb⟩
    have hbr := Lib.hid hb
    clear hb
    go_wp2
    go_ret
    exact ⟨rfl, hbr.out⟩
  · have HR := Lib.hid (replyMti_even hd h4 ho)
    have ho' : ((((s[2]'h2).toNat : Int) - 48) % 2 == 1) = false := by simp; omega
    clear hd
    have hwr : IntKind.u8.wrap (((s[2]'h2).toNat : Int) + 1) = ((s[2]'h2).toNat : Int) + 1 := IntWalk.u8_in _ (by omega)
    have HBK : Hid (∀ W : World, ∀ cap : Nat, (convert 46 9 (.slice (some ⟨W.heap.size, 0, none⟩) 4 cap)).run Tryd.prog ((Lib.bytesWorld W 5 s).setCell ⟨W.heap.size, 2, none⟩ (.int .u8 (((s[2]'h2).toNat : Int) + 1))) = .ok (.string (replyMti s)) ((Lib.bytesWorld W 5 s).setCell ⟨W.heap.size, 2, none⟩ (.int .u8 (((s[2]'h2).toNat : Int) + 1)))) := Lib.hid (by
      intro W cap
      rw [HR.out]
      obtain ⟨a, b, c, d, rfl⟩ := four h4
      have hc : (c + 1).toNat = c.toNat + 1 := by
        have h9 : c.toNat ≤ 57 := hg.2
        rw [UInt8.toNat_add]
        have : (1 : UInt8).toNat = 1 := rfl
        omega
      have hB := fun j hj => Lib.bytesWorld_cell W 5 ⟨#[a, b, c, d]⟩ j hj
      refine run_convert_bytes_back (P := Tryd.prog) _ 46 9 5 ⟨W.heap.size, 0, none⟩ cap [a, b, c + 1, d] Tryd.underlying46 Tryd.underlying5 Tryd.underlying9 (fun j hj => ?_)
      have hadd : (⟨W.heap.size, 0, none⟩ : Addr).add j = ⟨W.heap.size, j, none⟩ := by unfold Addr.add; split <;> simp_all
      rw [hadd]
      by_cases e : j = 2
      · subst e
        rw [World.cell?_setCell_same _ _ _ (hB 2 (show 2 < 4 by decide))]
        show some (Value.int .u8 ((c.toNat : Int) + 1)) = some (.int .u8 (((c + 1).toNat : Nat) : Int))
        rw [hc]; rfl
      · rw [World.cell?_setCell_other _ _ _ _ (fun he => e (by have := congrArg Addr.off he; simpa using this.symm)), hB j hj]
        have hj4 : j = 0 ∨ j = 1 ∨ j = 3 := by have : j < 4 := hj; omega
        rcases hj4 with rfl | rfl | rfl <;> rfl)
    have hcv := fun W => Lib.run_convert_string_bytes (P := Tryd.prog) W 9 46 5 s Tryd.underlying9 Tryd.underlying46 Tryd.underlying5
    have hget : (s.data.toList.getD 2 0).toNat = (s[2]'h2).toNat := by
      obtain ⟨a, b, c, d, rfl⟩ := four h4
      rfl
    go_enter Tryd.func20, Tryd.ntmps20
    go_wp2_with fail
    refine (isMti_any s _ hs).mono ?_
    rw [HM.out]
    rintro e w1 ⟨rfl, hb⟩
    have HBR := Lib.hid hb
    have hz := hb.size
    clear hb
    have c2 := Lib.bytesWorld_cell w1 5 s 2 h2
    rw [hget] at c2
    have f2 := bytesW_frozen w1 5 s 2 h2
    have hbk := HBK.out w1
    go_wp2
    go_ret
    refine ⟨rfl, ?_⟩
    exact (HBR.out.trans ((bytesW_below w1 5 s).mono hz)).setCell (p := ⟨_, _, none⟩) (show _ ≤ _ from hz) _
end Go.Proofs.YtdjlhijaadombaaDoor
/- MsgOk of the program; no conditions. -/
set_option linter.unusedVariables false
namespace Go.Proofs.YtdjlhijaadombaaDoor
open Go.ChangeShapes Go.WideShapes Go.ChangeAt Go.RowKit

/-- what the loop holds of the field before: 0 at the start -/
def prevNo (l : List FieldD) (i : Nat) : Int := if i = 0 then 0 else (l.getD (i - 1) noF).1
set_option maxRecDepth 100000 in
theorem prev_low {l : List FieldD} {i : Nat} {x : FieldD} (hx : l[i]? = some x) (h : x.1 ≤ prevNo l i) : stepOk l i = false := by
  unfold stepOk
  rw [getD_of hx]
  unfold prevNo at h
  by_cases e : i = 0
  · rw [if_pos e] at h
    cases hf : fOk x.1 x.2
    · rfl
    · have := (fOk_range hf).1; omega
  · rw [if_neg e] at h
    have h1 : decide ((l.getD (i - 1) noF).1 < x.1) = false := by rw [decide_eq_false_iff_not]; omega
    rw [h1]; simp [e]
set_option maxRecDepth 100000 in
theorem prev_yes {l : List FieldD} {i : Nat} {x : FieldD} (hx : l[i]? = some x) (h : prevNo l i < x.1) : stepOk l i = fOk x.1 x.2 := by
  unfold stepOk
  rw [getD_of hx]
  unfold prevNo at h
  by_cases e : i = 0
  · simp [e]
  · rw [if_neg e] at h
    have h1 : decide ((l.getD (i - 1) noF).1 < x.1) = true := by rw [decide_eq_true_eq]; exact h
    rw [h1]; simp
set_option maxRecDepth 100000 in
theorem prev_next {l : List FieldD} {i : Nat} {x : FieldD} (hx : l[i]? = some x) : prevNo l (i + 1) = x.1 := by
  unfold prevNo
  rw [if_neg (by omega), Nat.add_sub_cancel, getD_of hx]
set_option maxRecDepth 100000 in
set_option maxHeartbeats 4000000 in
theorem implMsgOk_any (hi : Nat) (v : Value) (m : MsgD) (w : World) (hm : m.1.size ≤ maxLen) (hn : m.2.length ≤ 1048576) (hs : ∀ x ∈ m.2, x.2.size ≤ maxLen) (h : FieldsR.rd hi w [v] m.2) (hh : hi ≤ w.heap.size) :
    Calls Tryd.prog 26 #[.agg #[.string m.1, v]] w fun e w' => e = .returned (.bool (msgOk m)) ∧ Below w.heap.size w w' := by
  obtain ⟨A, c, rfl, hc, h'⟩ := fields_rd h
  have HR := Lib.hid h'
  have HS := Lib.hid hs
  clear h' hs h
  have HD := Lib.hid (fun w' => isMti_any m.1 w' hm)
  have HB0 : Hid (∀ o, Below w.heap.size w (w.alloc o)) := Lib.hid fun o => (Below.refl _ _).alloc (Nat.le_refl _) o
  cases hd : mtiOk m.1
  · have HM : Hid (msgOk m = false) := Lib.hid (by simp [msgOk, hd])
    rw [HM.out]
    have HDD := Lib.hid hd
    clear hd
    go_enter Tryd.func26, Tryd.ntmps26
    go_wp2_with fail
    refine (HD.out _).mono ?_
    rw [HDD.out]
    rintro e w1 ⟨rfl, hb⟩
    have HB := Lib.hid ((HB0.out _).trans (hb.mono (by simp)))
    clear hb
    go_wp2
    go_ret
    exact ⟨rfl, HB.out⟩
  have HM : Hid (msgOk m = listOk m.2) := Lib.hid (by simp [msgOk, hd])
  rw [HM.out]
  have HDD := Lib.hid hd
  clear hd HM
  go_enter Tryd.func26, Tryd.ntmps26
  go_wp2_with fail
  refine (HD.out _).mono ?_
  rw [HDD.out]
  rintro e w1 ⟨rfl, hb⟩
  have HB1 := Lib.hid ((HB0.out _).trans (hb.mono (by simp)))
  have hz1 : w.heap.size + 1 ≤ w1.heap.size := by have := hb.size; simpa using this
  have x1 : w1.cell? ⟨w.heap.size, 1, none⟩ = some (.slice A m.2.length c) := (hb.cell (p := ⟨w.heap.size, 1, none⟩) (by simp)).trans (by simp)
  clear hb
  go_wp2
  go_loopw [3, 13] (fun bv iv wr => ∃ i : Nat, i ≤ m.2.length ∧ iv = .int .i64 i ∧ bv = .int .i64 (prevNo m.2 i) ∧ Hid (∀ j, j < i → stepOk m.2 j = true) ∧ Hid (Below w.heap.size w wr) ∧ w.heap.size ≤ wr.heap.size) (fun _ iv _ => m.2.length - (intOf iv).toNat)
  case atStart => exact ⟨0, Nat.zero_le _, rfl, rfl, Lib.hid (fun j hj => absurd hj (by omega)), HB1, by omega⟩
  case round =>
    obtain ⟨i, hi', rfl, rfl, HG, HB, hz⟩ := hrel
    by_cases hin : i < m.2.length
    · obtain ⟨x, hx⟩ : ∃ x, m.2[i]? = some x := ⟨_, List.getElem?_eq_getElem hin⟩
      obtain ⟨b, off, rfl, hbl, c0, c1⟩ := HR.out i x hx
      have hxs := HS.out x (List.mem_of_getElem? hx)
      have c0 := (HB.out.cell (p := ⟨b, off + i * 2, none⟩) (show b < w.heap.size by omega)).trans c0
      have c1 := (HB.out.cell (p := ⟨b, off + i * 2 + 1, none⟩) (show b < w.heap.size by omega)).trans c1
      have g1 : (i : Int) < (m.2.length : Int) := by omega
      have g2 : 0 ≤ (i : Int) := by omega
      have HN := Lib.hid (prev_next hx)
      have HL := Lib.hid (fun h => prev_low hx h)
      have HY := Lib.hid (fun h => prev_yes hx h)
      have HK := Lib.hid (fun (h : stepOk m.2 i = false) => listOk_no hin h)
      clear hx
      generalize prevNo m.2 i = p at HL HY ⊢
      by_cases hlt : x.1 ≤ p
      · have HF := Lib.hid (HK.out (HL.out hlt))
        have hlt' : decide (x.1 ≤ p) = true := by simpa using hlt
        clear hlt
        go_wp2
        go_ret
        exact ⟨ret_bool HF.out.symm, HB.out.alloc hz _⟩
      · have hlt' : decide (x.1 ≤ p) = false := by simpa using hlt
        have HP := Lib.hid (HY.out (by omega))
        have HQ := Lib.hid (fun w' => implFieldOk_any x.1 x.2 w' hxs)
        have HBX := Lib.hid (HB.out.alloc hz (.cells #[.int .i64 x.1, .string x.2] 41))
        clear hlt
        cases hf : fOk x.1 x.2
        · have HF := Lib.hid (HK.out (by rw [HP.out, hf]))
          rw [hf] at HQ
          clear hf
          go_wp2_with fail
          refine (HQ.out _).mono ?_
          rintro e w2 ⟨rfl, hb2⟩
          have HB2 := Lib.hid (HBX.out.trans (hb2.mono (by simp; omega)))
          clear hb2
          go_wp2
          go_ret
          exact ⟨ret_bool HF.out.symm, HB2.out⟩
        · rw [hf] at HQ
          have HF : Hid (stepOk m.2 i = true) := Lib.hid (by rw [HP.out, hf])
          clear hf
          go_wp2_with fail
          refine (HQ.out _).mono ?_
          rintro e w2 ⟨rfl, hb2⟩
          have HB2 := Lib.hid (HBX.out.trans (hb2.mono (by simp; omega)))
          have hz2 : wr.heap.size + 1 ≤ w2.heap.size := by have := hb2.size; simpa using this
          have q0 : w2.cell? ⟨wr.heap.size, 0, none⟩ = some (.int .i64 x.1) := (hb2.cell (p := ⟨wr.heap.size, 0, none⟩) (by simp)).trans (by simp)
          clear hb2
          go_wp2
          go_roundw
          case rel => exact ⟨i + 1, by omega, by go_num, by rw [HN.out], Lib.hid (fun j hj => by
            by_cases e : j = i
            · rw [e]; exact HF.out
            · exact HG.out j (by omega)), HB2, by omega⟩
          case measure => simp [intOf] <;> omega
    · obtain rfl : i = m.2.length := by omega
      have HF : Hid (listOk m.2 = true) := Lib.hid (listOk_yes HG.out)
      go_wp2
      go_ret
      exact ⟨ret_bool HF.out.symm, HB.out⟩
end Go.Proofs.YtdjlhijaadombaaDoor
/- Bare of the reference; no conditions. -/
set_option linter.unusedVariables false
namespace Go.Proofs.YtdjlhijaadombaaDoor
open Go.ChangeShapes Go.WideShapes Go.ChangeAt Go.RowKit

set_option maxRecDepth 100000 in
theorem owE.mineF {B : Nat} {w : World} {v : Value} {L : List FieldD} (h : owE 41 2 fCells B w v L) : FieldsR.mine B w.heap.size w [v] L := by
  rcases h.filled (fun _ => rfl) noF with ⟨rfl, A, c, rfl⟩ | ⟨g, c, rfl, hc, h1, h2, hf⟩
  · exact ⟨[], ⟨A, c, rfl, Nat.zero_le _, .inl ⟨rfl, rfl⟩⟩, List.nodup_nil, by simp⟩
  · exact fields_mine rfl hc h1 h2 hf
set_option maxRecDepth 100000 in
/-- a block with one field -/
theorem owE_one {B n : Nat} {w : World} {no : Int} {s : ByteArray} (h : w.heap[n]? = some (.cells #[.int .i64 no, .string s] 41 (0, 0))) (hB : B ≤ n) : owE 41 2 fCells B w (.slice (some ⟨n, 0, none⟩) 1 1) [(no, s)] :=
  ⟨rfl, Or.inr ⟨n, 1, #[.int .i64 no, .string s], rfl, hB, h, Nat.le_refl _, by decide, rfl, rfl⟩⟩
set_option maxRecDepth 100000 in
/-- the result's cells behind the two stores -/
theorem ret_mine {w0 w : World} {r B : Nat} {v : Value} {L : List FieldD} (h : FieldsR.mine B w.heap.size w [v] L) (hr : r < B) (hB : B ≤ w.heap.size) (hw : w0.heap.size ≤ r) (hb : Below w0.heap.size w0 w) (x y : Value) :
    FieldsR.mine w0.heap.size ((w.setCell ⟨r, 0, none⟩ x).setCell ⟨r, 1, none⟩ y).heap.size ((w.setCell ⟨r, 0, none⟩ x).setCell ⟨r, 1, none⟩ y) [v] L ∧ Below w0.heap.size w0 ((w.setCell ⟨r, 0, none⟩ x).setCell ⟨r, 1, none⟩ y) := by
  refine ⟨?_, (hb.setCell (p := ⟨r, 0, none⟩) hw _).setCell (p := ⟨r, 1, none⟩) hw _⟩
  have ht := ((Turned.refl r (r + 1) w).set (b := r) 0 x (by omega) (by omega)).set (b := r) 1 y (by omega) (by omega)
  exact (h.turned ht (.inr (by omega)) (Nat.le_refl _)).mono (by omega) ht.size

set_option maxRecDepth 100000 in
set_option maxHeartbeats 4000000 in
theorem specBare_any (mti : ByteArray) (code : Int) (w : World) (hs : mti.size ≤ maxLen) :
    Calls Tryd.prog 10 #[.string mti, .int .i64 code] w (msgRes (bareRes mti code).2 (bareRes mti code).1 w) := by
  have hsz := rsText_size code
  have hmz := replyMti_size mti
  have HOK : Hid (∀ hi v (W : World), FieldsR.rd hi W [v] (bareMsg mti code).2 → hi ≤ W.heap.size → Calls Tryd.prog 18 #[.agg #[.string (replyMti mti), v]] W fun e w' => e = .returned (.bool (msgOk (bareMsg mti code))) ∧ Below W.heap.size W w') := Lib.hid fun hi v W h hh =>
    specMsgOk_any hi v (bareMsg mti code) W (by show (replyMti mti).size ≤ _; unfold maxLen; omega) (by simp [bareMsg]) (by simp [bareMsg]; unfold maxLen; omega) h hh
  have HRES : Hid (bareRes mti code = if msgOk (bareMsg mti code) = true then (bareMsg mti code, true) else ((⟨#[]⟩, []), false)) := Lib.hid rfl
  have HRM := Lib.hid (fun W => specReplyMti_any mti W hs)
  have HRT := Lib.hid (fun W => specRsText_any code W)
  have HBM : Hid (bareMsg mti code = (replyMti mti, [(39, rsText code)])) := Lib.hid rfl
  generalize msgOk (bareMsg mti code) = ok at HOK HRES
  generalize replyMti mti = tm at HOK HRM HBM hmz
  generalize rsText code = tc at HRT HBM hsz
  go_enter Tryd.func10, Tryd.ntmps10
  go_wp2_with fail
  refine (HRM.out _).mono ?_
  rintro e w1 ⟨rfl, hb1⟩
  have z1 : w.heap.size + 1 ≤ w1.heap.size := by have := hb1.size; simpa using this
  have r0 : w1.cell? ⟨w.heap.size, 0, none⟩ = some (.string ⟨#[]⟩) := (hb1.cell (p := ⟨w.heap.size, 0, none⟩) (by simp)).trans (by simp)
  have r1 : w1.cell? ⟨w.heap.size, 1, none⟩ = some (.slice none 0 0) := (hb1.cell (p := ⟨w.heap.size, 1, none⟩) (by simp)).trans (by simp)
  have f0 : w1.frozen? ⟨w.heap.size, 0, none⟩ = false := (hb1.frozen (p := ⟨w.heap.size, 0, none⟩) (by simp)).trans (by simp)
  have f1 : w1.frozen? ⟨w.heap.size, 1, none⟩ = false := (hb1.frozen (p := ⟨w.heap.size, 1, none⟩) (by simp)).trans (by simp)
  have HB1 : Hid (Below w.heap.size w w1) := Lib.hid (((Below.refl _ _).alloc (Nat.le_refl _) _).trans (hb1.mono (by simp)))
  have HX : Hid (∀ wr, Below w1.heap.size w1 wr → wr.cell? ⟨w.heap.size, 0, none⟩ = some (.string ⟨#[]⟩) ∧ wr.cell? ⟨w.heap.size, 1, none⟩ = some (.slice none 0 0) ∧ wr.frozen? ⟨w.heap.size, 0, none⟩ = false ∧ wr.frozen? ⟨w.heap.size, 1, none⟩ = false) := Lib.hid fun wr hw =>
    ⟨(hw.cell (p := ⟨_, 0, none⟩) (show w.heap.size < _ by omega)).trans r0, (hw.cell (p := ⟨_, 1, none⟩) (show w.heap.size < _ by omega)).trans r1, (hw.frozen (p := ⟨_, 0, none⟩) (show w.heap.size < _ by omega)).trans f0, (hw.frozen (p := ⟨_, 1, none⟩) (show w.heap.size < _ by omega)).trans f1⟩
  clear r0 r1 f0 f1 hb1
  go_wp2_with fail
  refine (HRT.out _).mono ?_
  rintro e w2 ⟨rfl, hb2⟩
  have z2 : w1.heap.size ≤ w2.heap.size := hb2.size
  have HB2 := Lib.hid hb2
  clear hb2
  have hn2 := heap_alloc_new w2 (.cells #[.int .i64 39, .string tc] 41)
  have HB3 : Hid (Below w1.heap.size w1 (w2.alloc (.cells #[.int .i64 39, .string tc] 41))) := Lib.hid (HB2.out.alloc z2 _)
  have HN3 := Lib.hid hn2
  clear hn2
  go_wp2_with fail
  have hb3 : Below w1.heap.size w1 ((w2.alloc (.cells #[.int .i64 39, .string tc] 41)).alloc (.cells #[.string tm, .slice (some ⟨w2.heap.size, 0, none⟩) 1 1] 29)) := HB3.out.alloc (by simp; omega) _
  have hf3 : ((w2.alloc (.cells #[.int .i64 39, .string tc] 41)).alloc (.cells #[.string tm, .slice (some ⟨w2.heap.size, 0, none⟩) 1 1] 29)).heap[w2.heap.size]? = some (.cells #[.int .i64 39, .string tc] 41 (0, 0)) := (Below.heap_alloc _ _ _ (by simp)).trans HN3.out
  have hm3 := heap_alloc_new (w2.alloc (.cells #[.int .i64 39, .string tc] 41)) (.cells #[.string tm, .slice (some ⟨w2.heap.size, 0, none⟩) 1 1] 29)
  have hz : (w2.alloc (.cells #[.int .i64 39, .string tc] 41)).heap.size = w2.heap.size + 1 := by simp
  rw [hz] at hm3
  generalize (w2.alloc (.cells #[.int .i64 39, .string tc] 41)).alloc (.cells #[.string tm, .slice (some ⟨w2.heap.size, 0, none⟩) 1 1] 29) = w3 at hb3 hf3 hm3 ⊢
  have hlt3 := lt_of_block hm3
  have HM3 := Lib.hid (owE_one hf3 z2).mineF
  have HO3 := Lib.hid hm3
  have HBB := Lib.hid hb3
  clear hb3 hf3 hm3 HN3 HB3 hz
  refine (HOK.out w3.heap.size _ w3 (by rw [HBM.out]; exact HM3.out.rd) (Nat.le_refl _)).mono ?_
  rintro e w4 ⟨rfl, hb4⟩
  have z4 : w3.heap.size ≤ w4.heap.size := hb4.size
  have HM4 := Lib.hid (HM3.out.below hb4 (Nat.le_refl _))
  have hm4 := (hb4.block (w2.heap.size + 1) (by omega)).trans HO3.out
  have o0 := cell_of_row _ _ 0 _ _ (0, 0) hm4
  have o1 := cell_of_row _ _ 1 _ _ (0, 0) hm4
  simp only [List.getElem?_toArray, List.getElem?_cons_zero, List.getElem?_cons_succ] at o0 o1
  have HB4 : Hid (Below w.heap.size w w4) := Lib.hid (HB1.out.trans (((HBB.out.trans (hb4.mono (by omega))).mono (by omega))))
  obtain ⟨r0, r1, f0, f1⟩ := HX.out w4 (HBB.out.trans (hb4.mono (by omega)))
  have hrz : w.heap.size < w4.heap.size := by omega
  have hoz : w2.heap.size + 1 < w4.heap.size := by omega
  clear hb4 hm4
  cases ok
  · go_wp2
    refine bodyPost_ret (v := .tuple #[.agg #[.string ⟨#[]⟩, .slice none 0 0], .bool false]) (by simp [results, Tryd.results10, go_sem, r0, r1]) rfl ?_
    rw [HRES.out]
    exact ⟨_, rfl, mine_none _ _ _, (HB4.out.setCell (p := ⟨_, _, none⟩) (Nat.le_refl _) _).setCell (p := ⟨_, _, none⟩) (Nat.le_refl _) _⟩
  · go_wp2
    refine bodyPost_ret (v := .tuple #[.agg #[.string tm, .slice (some ⟨w2.heap.size, 0, none⟩) 1 1], .bool true]) (by simp [results, Tryd.results10, go_sem, r0, r1]) rfl ?_
    rw [HRES.out, if_pos trivial, HBM.out]
    have hq := ret_mine (w0 := w) (r := w.heap.size) (HM4.out.mono (Nat.le_refl _) z4) (by omega) (by omega) (Nat.le_refl _) HB4.out (.string tm) (.slice (some ⟨w2.heap.size, 0, none⟩) 1 1)
    exact ⟨_, rfl, hq.1, hq.2⟩
end Go.Proofs.YtdjlhijaadombaaDoor
/- onlyValid, isRepeated and Bare of the program; the table of the codes' texts lies as Go's text lays it. -/
set_option linter.unusedVariables false
namespace Go.Proofs.YtdjlhijaadombaaDoor
open Go.ChangeShapes Go.WideShapes Go.ChangeAt Go.RowKit
open Go.Maps (Keyed IsMap)

set_option maxRecDepth 100000 in
/-- a map literal's pair at the operation -/
theorem wpList_insert_own {H : Type} {P : Program} (w : World) {ops : Array Oper} {rest : List Oper} {o : Oper} {a : Act} {Q : Exit → Act → World → Prop}
    (hg : o.guard = none) (m x v : Operand) (t : TypeId) (hop : o.op = Op.insert t m x v)
    (k e : TypeId) (K : Keyed P k) (ht : P.underlying t = some (.map k e)) (R : Value → Option (DataW H × List MemPlace)) (b n : Nat) (D : DataW H)
    (hm : a.eval m = .map (some b)) (hown : w.ownsMap P k R b n D) (hn : n < maxLen) (key val : Value) (kl : Lit) (hx : a.eval x = key) (hv : a.eval v = val) (hkey : keyOf P k key = some kl)
    (d : DataW H) (ps : List MemPlace) (hval : R val = some (d, ps))
    (hK : ∀ w', w'.ownsMap P k R b (n + 1) (D.put kl d) → w.grownBy w' (some b) → wpList P ops Q rest (a.put o.dst undef) w') :
    wpList P ops Q (o :: rest) a w := by
  refine wpList_plain hg fun K' hK' => ?_
  obtain ⟨w', hrun, r1, r2⟩ := hown.update K ht hn hkey hval
  unfold Oper.wp
  simp [execOp, hop, hm, hx, hv, hrun, Result.andThen]
  exact hK' _ _ (hK w' r1 r2)

/-- the message, or none -/
def onlyRes (ok : Bool) (m : MsgD) (v : Value) : Value := if ok = true then .tuple #[.agg #[.string m.1, v], .bool true] else .tuple #[.agg #[.string ⟨#[]⟩, .slice none 0 0], .bool false]
set_option maxRecDepth 100000 in
set_option maxHeartbeats 1600000 in
theorem onlyValid_any (hi : Nat) (v : Value) (m : MsgD) (w : World) (hm : m.1.size ≤ maxLen) (hn : m.2.length ≤ 1048576) (hs : ∀ x ∈ m.2, x.2.size ≤ maxLen) (h : FieldsR.rd hi w [v] m.2) (hh : hi ≤ w.heap.size) :
    Calls Tryd.prog 19 #[.agg #[.string m.1, v]] w fun e w' => e = .returned (onlyRes (msgOk m) m v) ∧ Below w.heap.size w w' := by
  obtain ⟨A, c, rfl, hc, h'⟩ := fields_rd h
  have HOK := Lib.hid (fun (W : World) (hW : Below w.heap.size w W) => implMsgOk_any hi (.slice A m.2.length c) m W hm hn hs (Rep.below (R := FieldsR) h hW hh) (Nat.le_trans hh hW.size))
  clear h' hs h
  have HB0 : Hid (∀ o1 o2, Below w.heap.size w ((w.alloc o1).alloc o2)) := Lib.hid fun o1 o2 => ((Below.refl _ _).alloc (Nat.le_refl _) o1).alloc (by simp) o2
  generalize msgOk m = ok at HOK
  cases ok
  all_goals go_enter Tryd.func19, Tryd.ntmps19
  all_goals go_wp2_with fail
  all_goals refine (HOK.out _ (HB0.out _ _)).mono ?_
  all_goals rintro e w1 ⟨rfl, hb⟩
  all_goals have hz : w.heap.size + 1 + 1 ≤ w1.heap.size := by have := hb.size; simpa using this
  all_goals have r0 : w1.cell? ⟨w.heap.size + 1, 0, none⟩ = some (.string ⟨#[]⟩) := (hb.cell (p := ⟨w.heap.size + 1, 0, none⟩) (by simp)).trans (by simp)
  all_goals have r1 : w1.cell? ⟨w.heap.size + 1, 1, none⟩ = some (.slice none 0 0) := (hb.cell (p := ⟨w.heap.size + 1, 1, none⟩) (by simp)).trans (by simp)
  all_goals have f0 : w1.frozen? ⟨w.heap.size + 1, 0, none⟩ = false := (hb.frozen (p := ⟨w.heap.size + 1, 0, none⟩) (by simp)).trans (by simp)
  all_goals have f1 : w1.frozen? ⟨w.heap.size + 1, 1, none⟩ = false := (hb.frozen (p := ⟨w.heap.size + 1, 1, none⟩) (by simp)).trans (by simp)
  all_goals have x0 : w1.cell? ⟨w.heap.size, 0, none⟩ = some (.string m.1) := (hb.cell (p := ⟨w.heap.size, 0, none⟩) (by simp; omega)).trans (by simp)
  all_goals have x1 : w1.cell? ⟨w.heap.size, 1, none⟩ = some (.slice A m.2.length c) := (hb.cell (p := ⟨w.heap.size, 1, none⟩) (by simp; omega)).trans (by simp)
  all_goals have HB : Hid (Below w.heap.size w w1) := Lib.hid ((HB0.out _ _).trans (hb.mono (by simp; omega)))
  all_goals clear hb
  all_goals go_wp2
  · refine bodyPost_ret (v := .tuple #[.agg #[.string ⟨#[]⟩, .slice none 0 0], .bool false]) (by simp [results, Tryd.results19, go_sem, r0, r1]) rfl ⟨rfl, ?_⟩
    exact (HB.out.setCell (p := ⟨_, _, none⟩) (show _ ≤ w.heap.size + 1 by omega) _).setCell (p := ⟨_, _, none⟩) (show _ ≤ w.heap.size + 1 by omega) _
  · refine bodyPost_ret (v := .tuple #[.agg #[.string m.1, .slice A m.2.length c], .bool true]) (by simp [results, Tryd.results19, go_sem, r0, r1]) rfl ⟨rfl, ?_⟩
    exact (HB.out.setCell (p := ⟨_, _, none⟩) (show _ ≤ w.heap.size + 1 by omega) _).setCell (p := ⟨_, _, none⟩) (show _ ≤ w.heap.size + 1 by omega) _
end Go.Proofs.YtdjlhijaadombaaDoor
/- Bare of the program; the table of the codes' texts lies as Go's text lays it. -/
set_option linter.unusedVariables false
namespace Go.Proofs.YtdjlhijaadombaaDoor
open Go.ChangeShapes Go.WideShapes Go.ChangeAt Go.RowKit

set_option maxRecDepth 100000 in
set_option maxHeartbeats 4000000 in
theorem implBare_any (mti : ByteArray) (code : Int) (w : World) (hs : mti.size ≤ maxLen) (hC : codesIn w) :
    Calls Tryd.prog 11 #[.string mti, .int .i64 code] w (msgRes (bareRes mti code).2 (bareRes mti code).1 w) := by
  have hsz := rsText_size code
  have hmz := replyMti_size mti
  have HRES : Hid (bareRes mti code = if msgOk (bareMsg mti code) = true then (bareMsg mti code, true) else ((⟨#[]⟩, []), false)) := Lib.hid rfl
  have HRM := Lib.hid (fun W => implReplyMti_any mti W hs)
  have HRT := Lib.hid (fun W (hW : Below w.heap.size w W) => implRsText_any code W (hC.below hW))
  have HBM : Hid (bareMsg mti code = (replyMti mti, [(39, rsText code)])) := Lib.hid rfl
  rw [HBM.out] at HRES
  clear HBM hC
  generalize replyMti mti = tm at HRM HRES hmz
  generalize rsText code = tc at HRT HRES hsz
  go_enter Tryd.func11, Tryd.ntmps11
  go_wp2_with fail
  refine (HRM.out _).mono ?_
  rintro e w1 ⟨rfl, hb1⟩
  have z1 : w.heap.size + 1 ≤ w1.heap.size := by have := hb1.size; simpa using this
  have r0 : w1.cell? ⟨w.heap.size, 0, none⟩ = some (.string ⟨#[]⟩) := (hb1.cell (p := ⟨w.heap.size, 0, none⟩) (by simp)).trans (by simp)
  have r1 : w1.cell? ⟨w.heap.size, 1, none⟩ = some (.slice none 0 0) := (hb1.cell (p := ⟨w.heap.size, 1, none⟩) (by simp)).trans (by simp)
  have f0 : w1.frozen? ⟨w.heap.size, 0, none⟩ = false := (hb1.frozen (p := ⟨w.heap.size, 0, none⟩) (by simp)).trans (by simp)
  have f1 : w1.frozen? ⟨w.heap.size, 1, none⟩ = false := (hb1.frozen (p := ⟨w.heap.size, 1, none⟩) (by simp)).trans (by simp)
  have HB1 : Hid (Below w.heap.size w w1) := Lib.hid (((Below.refl _ _).alloc (Nat.le_refl _) _).trans (hb1.mono (by simp)))
  have HX : Hid (∀ wr, Below w1.heap.size w1 wr → wr.cell? ⟨w.heap.size, 0, none⟩ = some (.string ⟨#[]⟩) ∧ wr.cell? ⟨w.heap.size, 1, none⟩ = some (.slice none 0 0) ∧ wr.frozen? ⟨w.heap.size, 0, none⟩ = false ∧ wr.frozen? ⟨w.heap.size, 1, none⟩ = false) := Lib.hid fun wr hw =>
    ⟨(hw.cell (p := ⟨_, 0, none⟩) (show w.heap.size < _ by omega)).trans r0, (hw.cell (p := ⟨_, 1, none⟩) (show w.heap.size < _ by omega)).trans r1, (hw.frozen (p := ⟨_, 0, none⟩) (show w.heap.size < _ by omega)).trans f0, (hw.frozen (p := ⟨_, 1, none⟩) (show w.heap.size < _ by omega)).trans f1⟩
  clear r0 r1 f0 f1 hb1
  go_wp2_with fail
  refine (HRT.out w1 HB1.out).mono ?_
  rintro e w2 ⟨rfl, rfl⟩
  have hn2 := heap_alloc_new w1 (.cells #[.int .i64 39, .string tc] 41)
  have hb2 : Below w1.heap.size w1 (w1.alloc (.cells #[.int .i64 39, .string tc] 41)) := (Below.refl _ _).alloc (Nat.le_refl _) _
  go_wp2_with fail
  generalize w1.alloc (.cells #[.int .i64 39, .string tc] 41) = w3 at hn2 hb2 ⊢
  have hlt3 := lt_of_block hn2
  have HM3 := Lib.hid (owE_one hn2 (Nat.le_refl _)).mineF
  have HB3 := Lib.hid hb2
  have z3 := hb2.size
  clear hn2 hb2
  cases hv : msgOk (tm, [(39, tc)])
  · have HRS : Hid (bareRes mti code = ((⟨#[]⟩, []), false)) := Lib.hid (by rw [HRES.out, if_neg (by rw [hv]; decide)])
    refine (show Calls Tryd.prog 19 #[.agg #[.string tm, .slice (some ⟨w1.heap.size, 0, none⟩) 1 1]] w3 (fun e w' => e = .returned (.tuple #[.agg #[.string ⟨#[]⟩, .slice none 0 0], .bool false]) ∧ Below w3.heap.size w3 w') from by
      have hq := onlyValid_any w3.heap.size _ (tm, [(39, tc)]) w3 (show tm.size ≤ _ by unfold maxLen; omega) (by simp) (by simp; unfold maxLen; omega) HM3.out.rd (Nat.le_refl _)
      rw [hv] at hq
      exact hq).mono ?_
    rintro e w4 ⟨rfl, hb4⟩
    have z4 : w3.heap.size ≤ w4.heap.size := hb4.size
    have HB4 : Hid (Below w.heap.size w w4) := Lib.hid (HB1.out.trans ((HB3.out.trans (hb4.mono (by omega))).mono (by omega)))
    obtain ⟨r0, r1, f0, f1⟩ := HX.out w4 (HB3.out.trans (hb4.mono (by omega)))
    clear hb4
    have hrz : w.heap.size < w4.heap.size := by omega
    go_wp2
    refine bodyPost_ret (v := .tuple #[.agg #[.string ⟨#[]⟩, .slice none 0 0], .bool false]) (by simp [results, Tryd.results11, go_sem, r0, r1]) rfl ?_
    rw [HRS.out]
    exact ⟨_, rfl, mine_none _ _ _, (HB4.out.setCell (p := ⟨_, _, none⟩) (Nat.le_refl _) _).setCell (p := ⟨_, _, none⟩) (Nat.le_refl _) _⟩
  · have HRS : Hid (bareRes mti code = ((tm, [(39, tc)]), true)) := Lib.hid (by rw [HRES.out, if_pos hv])
    refine (show Calls Tryd.prog 19 #[.agg #[.string tm, .slice (some ⟨w1.heap.size, 0, none⟩) 1 1]] w3 (fun e w' => e = .returned (.tuple #[.agg #[.string tm, .slice (some ⟨w1.heap.size, 0, none⟩) 1 1], .bool true]) ∧ Below w3.heap.size w3 w') from by
      have hq := onlyValid_any w3.heap.size _ (tm, [(39, tc)]) w3 (show tm.size ≤ _ by unfold maxLen; omega) (by simp) (by simp; unfold maxLen; omega) HM3.out.rd (Nat.le_refl _)
      rw [hv] at hq
      exact hq).mono ?_
    rintro e w4 ⟨rfl, hb4⟩
    have z4 : w3.heap.size ≤ w4.heap.size := hb4.size
    have HM4 := Lib.hid (HM3.out.below hb4 (Nat.le_refl _))
    have HB4 : Hid (Below w.heap.size w w4) := Lib.hid (HB1.out.trans ((HB3.out.trans (hb4.mono (by omega))).mono (by omega)))
    obtain ⟨r0, r1, f0, f1⟩ := HX.out w4 (HB3.out.trans (hb4.mono (by omega)))
    clear hb4
    have hrz : w.heap.size < w4.heap.size := by omega
    go_wp2
    refine bodyPost_ret (v := .tuple #[.agg #[.string tm, .slice (some ⟨w1.heap.size, 0, none⟩) 1 1], .bool true]) (by simp [results, Tryd.results11, go_sem, r0, r1]) rfl ?_
    rw [HRS.out]
    have hq := ret_mine (w0 := w) (r := w.heap.size) (HM4.out.mono (Nat.le_refl _) z4) (by omega) (by omega) (Nat.le_refl _) HB4.out (.string tm) (.slice (some ⟨w1.heap.size, 0, none⟩) 1 1)
    exact ⟨_, rfl, hq.1, hq.2⟩
end Go.Proofs.YtdjlhijaadombaaDoor
/- The law package's helpers on slices of strings: compare, mark, held; no conditions. -/
set_option linter.unusedVariables false
namespace Go.Proofs.YtdjlhijaadombaaDoor
open Go.ChangeShapes Go.WideShapes Go.ChangeAt Go.RowKit

/-- block b holds the strings of a list -/
def strRow (w : World) (b : Nat) (l : List (List UInt8)) : Prop := ∀ (j : Nat) (x : List UInt8), l[j]? = some x → w.cell? ⟨b, j, none⟩ = some (.string ⟨x.toArray⟩)
/-- .. and may be written -/
def strFree (w : World) (b n : Nat) : Prop := ∀ j : Nat, j < n → w.frozen? ⟨b, j, none⟩ = false
set_option maxRecDepth 100000 in
theorem strRow.below {w w' : World} {b B : Nat} {l : List (List UInt8)} (h : strRow w b l) (hb : Below B w w') (hlt : b < B) : strRow w' b l := fun j x hx => (hb.cell (p := ⟨b, j, none⟩) hlt).trans (h j x hx)
set_option maxRecDepth 100000 in
theorem strFree.below {w w' : World} {b B n : Nat} (h : strFree w b n) (hb : Below B w w') (hlt : b < B) : strFree w' b n := fun j hj => (hb.frozen (p := ⟨b, j, none⟩) hlt).trans (h j hj)

/-- the text of a mark -/
def markOf (k : Int) : List UInt8 := 109 :: Lib.decDigits k.toNat
set_option maxRecDepth 100000 in
theorem str_appS (a b : List UInt8) : ((⟨a.toArray⟩ : ByteArray) ++ (⟨b.toArray⟩ : ByteArray)) = ⟨(a ++ b).toArray⟩ := by apply ByteArray.ext; simp
set_option maxRecDepth 100000 in
theorem str_consS (c : UInt8) (b : List UInt8) : ((⟨#[c]⟩ : ByteArray) ++ (⟨b.toArray⟩ : ByteArray)) = ⟨(c :: b).toArray⟩ := str_appS [c] b
/-- the digits still to come -/
def restOf (k : Int) : List UInt8 := if k ≤ 0 then [] else Lib.decDigits k.toNat
set_option maxRecDepth 100000 in
theorem rest_all {k : Int} (h : 0 < k) : restOf k = Lib.decDigits k.toNat := by unfold restOf; rw [if_neg (by omega)]
set_option maxRecDepth 100000 in
theorem rest_none {k : Int} (h : k ≤ 0) : restOf k = [] := by unfold restOf; rw [if_pos h]
set_option maxRecDepth 100000 in
theorem rest_step {k : Int} (h : 0 < k) (t : List UInt8) : restOf (k / 10) ++ (UInt8.ofNat (48 + k % 10).toNat :: t) = restOf k ++ t := by
  rw [rest_all h]
  by_cases h1 : k < 10
  · rw [rest_none (k := k / 10) (by omega), Lib.decDigits_one (i := k.toNat) (by omega), show (48 + k % 10).toNat = 48 + k.toNat by omega]; rfl
  · rw [rest_all (k := k / 10) (by omega)]
    conv => rhs; rw [Lib.decDigits, dif_neg (show ¬ k.toNat < 10 by omega)]
    rw [show (k / 10).toNat = k.toNat / 10 by omega, show (48 + k % 10).toNat = 48 + k.toNat % 10 by omega]
    simp
set_option maxRecDepth 100000 in
theorem rest_len {k : Int} {t l : List UInt8} (h : restOf k ++ t = l) : t.length ≤ l.length := by rw [← h, List.length_append]; omega
set_option maxRecDepth 100000 in
theorem mark_len (k : Int) (h : k ≤ 1000000000) : (Lib.decDigits k.toNat).length ≤ 20 := by rw [Lib.decDigits_length]; exact Lib.nDigits_le20 _ (by omega)
set_option maxRecDepth 100000 in
set_option maxHeartbeats 800000 in
theorem markText_any (k : Int) (w : World) (h0 : 0 < k) (h1 : k ≤ 1000000000) :
    Calls Tryd.prog 29 #[.int .i64 k] w fun e w' => e = .returned (.string ⟨(markOf k).toArray⟩) ∧ Below w.heap.size w w' := by
  have hcv := fun (W : World) (c : Int) (T : TypeId) => conv_one W c T
  go_enter Tryd.func29, Tryd.ntmps29
  go_wp2
  go_loopw [3, 0] (fun tv kv wr => ∃ (m : Int) (t : List UInt8), kv = .int .i64 m ∧ tv = .string ⟨t.toArray⟩ ∧ restOf m ++ t = Lib.decDigits k.toNat ∧ 0 ≤ m ∧ m ≤ 1000000000 ∧ Below w.heap.size w wr) (fun _ kv _ => (intOf kv).toNat)
  case atStart => exact ⟨k, [], rfl, rfl, by simp [rest_all h0], by omega, h1, Below.refl _ _⟩
  case round =>
    obtain ⟨m, t, rfl, rfl, hd, hm0, hm1, hb⟩ := hrel
    have hl := rest_len hd
    have hl2 := mark_len k h1
    have hl3 : t.length ≤ 20 := by omega
    have HD := Lib.hid hd
    clear hd hl hl2
    by_cases hpos : 0 < m
    · have hst := Lib.hid (rest_step hpos t)
      go_wp2
      go_roundw
      case rel => exact ⟨m / 10, _, rfl, congrArg Value.string (str_consS _ _), hst.out.trans HD.out, by omega, by omega, hb.alloc hb.size _⟩
      case measure => simp [intOf] <;> omega
    · have hst := Lib.hid (rest_none (k := m) (by omega))
      go_wp2
      go_ret
      refine ⟨congrArg (fun b => Ending.returned (Value.string b)) ((str_consS _ _).trans ?_), hb⟩
      have := HD.out
      rw [hst.out] at this
      unfold markOf
      rw [← this]; rfl

/-- what the law package writes into a slice of strings: the marks from k on -/
def marksOf (k : Int) : Nat → List (List UInt8)
  | 0 => []
  | n + 1 => markOf k :: marksOf (k + 1) n
set_option maxRecDepth 100000 in
theorem marks_get (n : Nat) : ∀ (k : Int) (j : Nat), j < n → (marksOf k n)[j]? = some (markOf (k + j)) := by
  induction n with
  | zero => intro k j h; omega
  | succ n ih =>
    intro k j h
    cases j with
    | zero => simp [marksOf]
    | succ j =>
      simp only [marksOf, List.getElem?_cons_succ]
      rw [ih (k + 1) j (by omega)]
      congr 2
      omega

/-- of what was there block b alone may have turned -/
structure wrote (b : Nat) (w w' : World) : Prop where
  os : w'.os = w.os
  tape : w'.tape = w.tape
  output : w'.output = w.output
  size : w.heap.size ≤ w'.heap.size
  block : ∀ k, k < w.heap.size → k ≠ b → w'.heap[k]? = w.heap[k]?
set_option maxRecDepth 100000 in
theorem wrote.refl (b : Nat) (w : World) : wrote b w w := ⟨rfl, rfl, rfl, Nat.le_refl _, fun _ _ _ => rfl⟩
set_option maxRecDepth 100000 in
theorem wrote.then {b : Nat} {u v w : World} (h : wrote b u v) (g : Below v.heap.size v w) : wrote b u w :=
  ⟨g.os.trans h.os, g.tape.trans h.tape, g.output.trans h.output, Nat.le_trans h.size g.size, fun k hk hne => (g.block k (Nat.lt_of_lt_of_le hk h.size)).trans (h.block k hk hne)⟩
set_option maxRecDepth 100000 in
theorem wrote.set {b : Nat} {u v : World} (h : wrote b u v) (o : Nat) (x : Value) : wrote b u (v.setCell ⟨b, o, none⟩ x) :=
  ⟨h.os, h.tape, h.output, by simpa [World.setCell] using h.size, fun k hk hne => (Below.heap_setCell _ _ _ _ hne).trans (h.block k hk hne)⟩
set_option maxRecDepth 100000 in
theorem wrote.below {b B : Nat} {u v : World} (h : wrote b u v) (hB : B ≤ b) (hs : B ≤ u.heap.size) : Below B u v := ⟨h.os, h.tape, h.output, h.size, fun k hk => h.block k (by omega) (by omega)⟩
set_option maxRecDepth 100000 in
theorem wrote.row {b c : Nat} {u v : World} {l : List (List UInt8)} (h : wrote b u v) (hc : c < u.heap.size) (hne : c ≠ b) (hr : strRow u c l) : strRow v c l := fun j x hx =>
  (World.cell?_of_block (h.block c hc hne)).trans (hr j x hx)

/-- the first i places hold marks, all places can be written -/
def marked (w : World) (b : Nat) (k : Int) (i n : Nat) : Prop := ∀ j : Nat, j < n → w.frozen? ⟨b, j, none⟩ = false ∧ (∃ v, w.cell? ⟨b, j, none⟩ = some v) ∧ (j < i → w.cell? ⟨b, j, none⟩ = some (.string ⟨(markOf (k + j)).toArray⟩))
set_option maxRecDepth 100000 in
theorem marked.below {w w' : World} {b : Nat} {k : Int} {i n : Nat} (h : marked w b k i n) (hb : Below w.heap.size w w') (hlt : b < w.heap.size) : marked w' b k i n := fun j hj =>
  ⟨(hb.frozen (p := ⟨b, j, none⟩) hlt).trans (h j hj).1, by obtain ⟨v, hv⟩ := (h j hj).2.1; exact ⟨v, (hb.cell (p := ⟨b, j, none⟩) hlt).trans hv⟩, fun hi => (hb.cell (p := ⟨b, j, none⟩) hlt).trans ((h j hj).2.2 hi)⟩
set_option maxRecDepth 100000 in
theorem marked.set {w : World} {b : Nat} {k : Int} {i n : Nat} (h : marked w b k i n) (hi : i < n) : marked (w.setCell ⟨b, i, none⟩ (.string ⟨(markOf (k + i)).toArray⟩)) b k (i + 1) n := by
  intro j hj
  have hf : ∀ a, (w.setCell ⟨b, i, none⟩ (.string ⟨(markOf (k + i)).toArray⟩)).frozen? a = w.frozen? a := fun a => by simp
  refine ⟨(hf _).trans (h j hj).1, ?_⟩
  by_cases e : i = j
  · subst e
    obtain ⟨v, hv⟩ := (h i hj).2.1
    have := World.cell?_setCell_same w ⟨b, i, none⟩ (.string ⟨(markOf (k + i)).toArray⟩) hv
    exact ⟨⟨_, this⟩, fun _ => this⟩
  · have hne : ∀ x, (w.setCell ⟨b, i, none⟩ x).cell? ⟨b, j, none⟩ = w.cell? ⟨b, j, none⟩ := fun x => World.cell?_setCell_other _ _ _ _ (fun he => e (by simpa using congrArg Addr.off he))
    obtain ⟨v, hv⟩ := (h j hj).2.1
    exact ⟨⟨v, (hne _).trans hv⟩, fun hlt => (hne _).trans ((h j hj).2.2 (by omega))⟩

end Go.Proofs.YtdjlhijaadombaaDoor
/- Fields and messages: what the law package's marks and looks at the marks do; no conditions. -/
set_option linter.unusedVariables false
namespace Go.Proofs.YtdjlhijaadombaaDoor
open Go.ChangeShapes Go.WideShapes Go.ChangeAt Go.RowKit

def fieldMark (k : Int) (j : Nat) : FieldD := (k + 2 * (j : Int), ⟨(markOf (k + 2 * (j : Int) + 1)).toArray⟩)
def fieldsMark (k : Int) (n : Nat) : List FieldD := (List.range n).map (fieldMark k)
set_option maxRecDepth 100000 in
theorem fieldsMark_len (k : Int) (n : Nat) : (fieldsMark k n).length = n := by simp [fieldsMark]
set_option maxRecDepth 100000 in
theorem fieldsMark_get (k : Int) (n j : Nat) (h : j < n) : (fieldsMark k n).getD j (0, ⟨#[]⟩) = fieldMark k j := by simp [fieldsMark, h]
set_option maxRecDepth 100000 in
theorem fieldsMark_at (k : Int) (n j : Nat) (h : j < n) : (fieldsMark k n)[j]? = some (fieldMark k j) := by simp [fieldsMark, h]
set_option maxRecDepth 100000 in
/-- a slice of fields of one's own: empty, or one block that may be written -/
theorem fields_own {lo hi : Nat} {w : World} {v : Value} {l : List FieldD} (h : FieldsR.mine lo hi w [v] l) :
    ∃ A c, v = .slice A l.length c ∧ l.length ≤ c ∧ (l = [] ∨ ∃ b off, A = some ⟨b, off, none⟩ ∧ lo ≤ b ∧ b < hi ∧ roomL w b off (l.length * 2)) := by
  obtain ⟨F, ⟨A, c, hv, hc, h⟩, -, hF⟩ := h
  simp only [List.cons.injEq, and_true] at hv
  refine ⟨A, c, hv, hc, ?_⟩
  rcases h with ⟨rfl, _⟩ | ⟨b, off, Fs, rfl, rfl, hl, h⟩
  · exact .inl rfl
  · have hb := hF b (List.mem_cons_self ..)
    refine .inr ⟨b, off, rfl, hb.1, hb.2, fun t ht => ?_⟩
    have hj : t / 2 < l.length := by omega
    obtain ⟨xs, h1, h2, h3⟩ := h (t / 2) _ _ (List.getElem?_eq_getElem hj) (List.getElem?_eq_getElem (by omega))
    rw [field_own] at h1
    obtain ⟨rfl, -⟩ := h1
    have hk : FieldR.k = 2 := rfl
    rw [hk] at h2 h3
    have e : off + t = off + t / 2 * 2 + t % 2 := by omega
    rw [e]
    refine ⟨?_, h3 (t % 2) (by omega)⟩
    rcases Nat.mod_two_eq_zero_or_one t with m | m
    · rw [m]; exact ⟨_, h2 0 _ rfl⟩
    · rw [m]; exact ⟨_, h2 1 _ rfl⟩
set_option maxRecDepth 100000 in
set_option maxHeartbeats 1600000 in
theorem markFields_any (lo hi : Nat) (v : Value) (l : List FieldD) (k : Int) (w : World) (hn : l.length ≤ 2000000) (hk0 : 0 < k) (hk1 : k ≤ 1000000) (h : FieldsR.mine lo hi w [v] l) (hh : hi ≤ w.heap.size) :
    Calls Tryd.prog 22 #[v, .int .i64 k] w fun e w' => e = .returned (.int .i64 (k + 2 * (l.length : Int))) ∧ FieldsR.mine lo hi w' [v] (fieldsMark k l.length) ∧ Turned lo hi w w' := by
  obtain ⟨A, c, rfl, hc, hm⟩ := fields_own h
  clear h
  rcases hm with rfl | ⟨b, off, rfl, h1, h2, hm⟩
  · go_enter Tryd.func22, Tryd.ntmps22
    go_wp2
    go_loop [1, 5] (fun kv iv => iv = .int .i64 0 ∧ kv = .int .i64 k) (fun _ _ => 0)
    case atStart => exact ⟨rfl, rfl⟩
    case round =>
      obtain ⟨rfl, rfl⟩ := hrel
      go_wp2
      go_ret
      exact ⟨by simp, ⟨[], ⟨A, c, rfl, hc, .inl ⟨rfl, rfl⟩⟩, List.nodup_nil, by simp⟩, Turned.refl _ _ _⟩
  generalize l.length = n at hn hc hm ⊢
  have HM := Lib.hid hm
  clear hm
  go_enter Tryd.func22, Tryd.ntmps22
  go_wp2
  go_loopw [1, 5] (fun kv iv wr => ∃ i : Nat, i ≤ n ∧ iv = .int .i64 i ∧ kv = .int .i64 (k + 2 * (i : Int)) ∧ Hid (filled wr b off 2 n i fun j => fCells (fieldMark k j)) ∧ Hid (Turned lo hi w wr) ∧ w.heap.size ≤ wr.heap.size) (fun _ iv _ => n - (intOf iv).toNat)
  case atStart => exact ⟨0, Nat.zero_le _, rfl, val_int (by simp), Lib.hid (filled.start HM.out), Lib.hid (Turned.refl _ _ _), Nat.le_refl _⟩
  case round =>
    obtain ⟨i, hi', rfl, rfl, HF, HT, hz⟩ := hrel
    by_cases hin : i < n
    · obtain ⟨⟨u0, d0⟩, f0⟩ := HF.out.cells hin 0 (by omega)
      obtain ⟨⟨u1, d1⟩, f1⟩ := HF.out.cells hin 1 (by omega)
      simp only [Nat.add_zero] at d0 f0
      have g1 : (i : Int) < (n : Int) := by omega
      have g2 : 0 ≤ (i : Int) := by omega
      go_wp2_with fail
      refine (markText_any (k + 2 * (i : Int) + 1) _ (by omega) (by omega)).mono ?_
      rintro e w2 ⟨rfl, hb2⟩
      have hblk := hb2.block b (show b < _ by simp [World.setCell]; omega)
      have d1 := (hb2.cell (p := ⟨b, off + i * 2 + 1, none⟩) (show b < _ by simp [World.setCell]; omega)).trans ((World.cell?_setCell_other _ _ _ _ (by simp)).trans d1)
      have f1 : w2.frozen? ⟨b, off + i * 2 + 1, none⟩ = false := (hb2.frozen (p := ⟨b, off + i * 2 + 1, none⟩) (show b < _ by simp [World.setCell]; omega)).trans (by simpa using f1)
      have hz2 := hb2.size
      have hz3 : wr.heap.size ≤ w2.heap.size := by simpa [World.setCell] using hz2
      have HT2 : Hid (Turned lo hi w w2) := Lib.hid ((HT.out.set (b := b) (off + i * 2) (.int .i64 (k + 2 * (i : Int))) h1 h2).trans (Turned.of_below hb2))
      have HK := Lib.hid hblk
      clear hb2 hz2 hblk
      go_wp2
      go_roundw
      case rel => exact ⟨i + 1, by omega, by go_num, val_int (by omega), Lib.hid ((HF.out.next hin (fun _ _ => rfl)).keep (set_congr HK.out _ _)), Lib.hid (HT2.out.set _ _ h1 h2), by simp [World.setCell]; omega⟩
      case measure => simp [intOf] <;> omega
    · obtain rfl : i = n := by omega
      go_wp2
      go_ret
      refine ⟨rfl, ?_, HT.out⟩
      refine fields_mine (fieldsMark_len k i).symm hc h1 h2 ⟨HF.out.room, fun j hj => ?_⟩
      rw [fieldsMark_get k i j hj]
      exact HF.out.at_ j hj
set_option maxRecDepth 100000 in
theorem markOf_size (k : Int) (h : k ≤ 1000000000) : (markOf k).length ≤ 21 := by
  have := mark_len k h
  unfold markOf
  simp; omega
set_option maxRecDepth 100000 in
set_option maxHeartbeats 1600000 in
theorem heldFields_any (hi : Nat) (v : Value) (n : Nat) (k : Int) (w : World) (hn : n ≤ 2000000) (hk0 : 0 < k) (hk1 : k ≤ 1000000) (h : FieldsR.rd hi w [v] (fieldsMark k n)) (hh : hi ≤ w.heap.size) :
    Calls Tryd.prog 23 #[v, .int .i64 k] w fun e w' => e = .returned (.int .i64 (k + 2 * (n : Int))) ∧ Below w.heap.size w w' := by
  obtain ⟨A, c, hv, hc, h'⟩ := fields_rd h
  rw [fieldsMark_len] at hv hc
  have HR := Lib.hid h'
  clear h h'
  subst hv
  go_enter Tryd.func23, Tryd.ntmps23
  go_wp2
  go_loopw [1, 5] (fun kv iv wr => ∃ i : Nat, i ≤ n ∧ iv = .int .i64 i ∧ kv = .int .i64 (k + 2 * (i : Int)) ∧ Hid (Below w.heap.size w wr) ∧ w.heap.size ≤ wr.heap.size) (fun _ iv _ => n - (intOf iv).toNat)
  case atStart => exact ⟨0, Nat.zero_le _, rfl, val_int (by simp), Lib.hid (Below.refl _ _), Nat.le_refl _⟩
  case round =>
    obtain ⟨i, hi', rfl, rfl, HB, hz⟩ := hrel
    by_cases hin : i < n
    · obtain ⟨b, off, rfl, hb, c0, c1⟩ := HR.out i _ (fieldsMark_at k n i hin)
      have c0 := (HB.out.cell (p := ⟨b, _, none⟩) (show b < w.heap.size by omega)).trans c0
      have c1 := (HB.out.cell (p := ⟨b, _, none⟩) (show b < w.heap.size by omega)).trans c1
      simp only [fieldMark] at c0 c1
      have g1 : (i : Int) < (n : Int) := by omega
      have g2 : 0 ≤ (i : Int) := by omega
      have hml := markOf_size (k + 2 * (i : Int) + 1) (by omega)
      have HX : Hid (∀ w', Calls Tryd.prog 29 #[.int .i64 (k + 2 * (i : Int) + 1)] w' fun e w'' => e = .returned (.string ⟨(markOf (k + 2 * (i : Int) + 1)).toArray⟩) ∧ Below w'.heap.size w' w'') := Lib.hid fun w' => markText_any _ w' (by omega) (by omega)
      generalize markOf (k + 2 * (i : Int) + 1) = mk at c1 hml HX
      go_wp2
      go_region_held3 (fun w' => w'.cell? ⟨b, off + i * 2 + 1, none⟩ = some (.string ⟨mk.toArray⟩)) (go_keep) ((go_at_call 29; refine (HX.out _).mono ?_; rintro e w2 ⟨rfl, hb2⟩; have q := (hb2.cell (p := ⟨b, off + i * 2 + 1, none⟩) (show b < wr.heap.size by omega)).trans c1))
      have hz2 : wr.heap.size ≤ w2.heap.size := hb2.size
      have HB2 : Hid (Below w.heap.size w w2) := Lib.hid ((HB.out.trans (below_drew _ _)).trans (hb2.mono hz))
      clear hb2
      go_wp2
      go_roundw
      case rel => exact ⟨i + 1, by omega, by go_num, val_int (by omega), HB2, by omega⟩
      case measure => simp [intOf] <;> omega
    · obtain rfl : i = n := by omega
      go_wp2
      go_ret
      exact ⟨rfl, HB.out⟩
def msgMark (m : MsgD) (k : Int) : List FieldD := fieldsMark k m.2.length
set_option maxRecDepth 100000 in
theorem markMsg_any (lo hi : Nat) (v : Value) (m : MsgD) (k : Int) (w : World) (hn : m.2.length ≤ 2000000) (hk0 : 0 < k) (hk1 : k ≤ 1000000) (h : FieldsR.mine lo hi w [v] m.2) (hh : hi ≤ w.heap.size) :
    Calls Tryd.prog 13 #[.agg #[.string m.1, v], .int .i64 k] w fun e w' => e = .returned (.int .i64 (k + 2 * (m.2.length : Int))) ∧ FieldsR.mine lo hi w' [v] (msgMark m k) ∧ Turned lo hi w w' := by
  obtain ⟨A, c, rfl, -⟩ := Rep.slice_form h.rd
  have H := Lib.hid h
  clear h
  have HB0 : Hid (∀ o, Below w.heap.size w (w.alloc o)) := Lib.hid fun o => (Below.refl _ _).alloc (Nat.le_refl _) o
  go_enter Tryd.func13, Tryd.ntmps13
  go_wp2_with fail
  refine (markFields_any lo hi _ m.2 k _ hn hk0 hk1 (H.out.below (HB0.out _) hh) (by simp; omega)).mono ?_
  rintro e w2 ⟨rfl, hm, ht⟩
  have HM := Lib.hid hm
  have HT := Lib.hid ht
  clear hm ht
  go_wp2
  go_ret
  exact ⟨rfl, HM.out, (Turned.of_below (HB0.out _)).trans HT.out⟩
set_option maxRecDepth 100000 in
theorem heldMsg_any (hi : Nat) (v : Value) (t : ByteArray) (n : Nat) (k : Int) (w : World) (hn : n ≤ 2000000) (hk0 : 0 < k) (hk1 : k ≤ 1000000) (h : FieldsR.rd hi w [v] (fieldsMark k n)) (hh : hi ≤ w.heap.size) :
    Calls Tryd.prog 14 #[.agg #[.string t, v], .int .i64 k] w fun e w' => e = .returned (.int .i64 (k + 2 * (n : Int))) ∧ Below w.heap.size w w' := by
  obtain ⟨A, c, hv, -⟩ := Rep.slice_form h
  have H := Lib.hid h
  clear h
  subst hv
  have HB0 : Hid (∀ o, Below w.heap.size w (w.alloc o)) := Lib.hid fun o => (Below.refl _ _).alloc (Nat.le_refl _) o
  go_enter Tryd.func14, Tryd.ntmps14
  go_wp2_with fail
  refine (heldFields_any hi _ n k _ hn hk0 hk1 (Rep.below (R := FieldsR) H.out (HB0.out _) hh) (by simp; omega)).mono ?_
  rintro e w2 ⟨rfl, hb⟩
  have HB : Hid (Below w.heap.size w w2) := Lib.hid ((HB0.out _).trans (hb.mono (by simp)))
  have hp : 0 ≤ k + 2 * (n : Int) := by omega
  clear hb
  go_wp2
  go_ret
  exact ⟨rfl, HB.out⟩
end Go.Proofs.YtdjlhijaadombaaDoor
/- What a law is given can be read as Lean's data: numbers, texts, structs and slices of these. -/
set_option linter.unusedVariables false
namespace Go.Proofs.YtdjlhijaadombaaDoor
open Go.ChangeShapes Go.WideShapes Go.ChangeAt Go.RowKit Go.Deep

/-- what reads as data of type T reads as R's data, with G -/
def Opens {H : Type} (enc : TypeId × Value → H) (P : Program) (w : World) {α : Type} (R : Rep α) (T : TypeId) (G : α → Prop) : Prop :=
  ∀ (fuel : Nat) (cs : List Value) (x : DataW H × List MemPlace), DataW.trod enc P w 0 (fun _ => true) true fuel T cs = some x → ∃ y, R.rd w.heap.size w cs y ∧ G y
def OpensF {H : Type} (enc : TypeId × Value → H) (P : Program) (w : World) {α : Type} (fs : List Field) (off : Nat) (R : Rep α) (G : α → Prop) : Prop :=
  ∀ (n : Nat) (cs : List Value) (xs : List (DataW H × List MemPlace)), cs.length = off + R.k → xs.length = fs.length →
    (∀ (i : Nat) (f : Field), fs[i]? = some f → DataW.trod enc P w 0 (fun _ => true) true n f.type ((cs.drop f.offset).take (P.cellsOf f.type)) = xs[i]?) → ∃ y, R.rd w.heap.size w (cs.drop off) y ∧ G y
section
variable {H : Type} {enc : TypeId × Value → H} {P : Program} {w : World} {α β : Type} {R : Rep α} {S : Rep β} {G : α → Prop} {G' : β → Prop} {T e : TypeId}
set_option maxRecDepth 100000 in
theorem opens_int {K : IntKind} (ht : P.underlying T = some (.int K)) : Opens enc P w (Rep.int K) T (fun z => (Lit.int K z).wf = true) := by
  intro fuel cs x h
  obtain ⟨n, rfl, _, hw⟩ := DataW.trod_int ht h
  exact ⟨n, rfl, hw⟩
set_option maxRecDepth 100000 in
theorem opens_str (ht : P.underlying T = some .string) : Opens enc P w Rep.str T (fun s => s.size ≤ maxLen) := by
  intro fuel cs x h
  obtain ⟨n, rfl, _, hw⟩ := DataW.trod_string ht h
  exact ⟨n, rfl, hw⟩
set_option maxRecDepth 100000 in
theorem opens_slice (hk0 : 0 < R.k) (ht : P.underlying T = some (.slice e)) (hC : P.cellsOf e = R.k) (h0 : Opens enc P w R e G) : Opens enc P w R.slice T (fun l => l.length ≤ maxLen ∧ ∀ y ∈ l, G y) := by
  intro fuel cs x h
  rcases open_slice ht h with ⟨rfl, _⟩ | ⟨a, len, cap, m, n, D, Pl, rfl, _, hl, hm, hmm, _, hi⟩
  · exact ⟨[], ⟨none, 0, rfl, Nat.le_refl _, fun j x hx => by simp at hx⟩, Nat.zero_le _, fun y hy => by cases hy⟩
  · simp only [if_true] at hmm
    subst hmm
    have hy : ∀ i, i < len → ∃ y cs', w.cells? 0 (a.add (i * R.k)) R.k = some cs' ∧ R.rd w.heap.size w cs' y ∧ G y := fun i hil => by
      obtain ⟨cs', h1, h2⟩ := hi i (by omega)
      rw [hC] at h1
      obtain ⟨y, h3, h4⟩ := h0 n cs' _ h2
      exact ⟨y, cs', h1, h3, h4⟩
    have hL : ∀ k, k ≤ len → ∃ l : List α, l.length = k ∧ ∀ j x, l[j]? = some x → ∃ cs', w.cells? 0 (a.add (j * R.k)) R.k = some cs' ∧ R.rd w.heap.size w cs' x ∧ G x := by
      intro k
      induction k with
      | zero => intro _; exact ⟨[], rfl, fun j x hx => by simp at hx⟩
      | succ k ih =>
        intro hk
        obtain ⟨l, hl1, hl2⟩ := ih (by omega)
        obtain ⟨y, cs', h1, h2, h3⟩ := hy k (by omega)
        refine ⟨l ++ [y], by simp [hl1], fun j x hx => ?_⟩
        by_cases hj : j < l.length
        · rw [List.getElem?_append_left hj] at hx
          exact hl2 j x hx
        · have hj' : j = k := by have := (List.getElem?_eq_some_iff.1 hx).1; simp at this; omega
          subst hj'
          rw [List.getElem?_append_right (by omega), hl1, Nat.sub_self] at hx
          have hyx : y = x := by simpa using hx
          subst hyx
          exact ⟨cs', h1, h2, h3⟩
    obtain ⟨l, hl1, hl2⟩ := hL len (Nat.le_refl _)
    subst hl1
    refine ⟨l, ⟨some a, m, rfl, hl, fun j x hx => ?_⟩, by omega, fun y hy => ?_⟩
    · obtain ⟨cs', h1, h2, h3⟩ := hl2 j x hx
      obtain ⟨_, hlen, hat⟩ := World.cells?_some h1
      have hk := R.rd_len h2
      obtain ⟨b, off, spot⟩ := a
      have hcell : ∀ t u, cs'[t]? = some u → w.cell? ((⟨b, off, spot⟩ : Addr).add (j * R.k + t)) = some u := fun t u hu => by
        have ht : t < R.k := by rw [← hk]; exact (List.getElem?_eq_some_iff.1 hu).1
        rw [← Go.Deep.add_add, hat t ht, hu]
      have h00 := hcell 0 _ (List.getElem?_eq_getElem (by omega))
      have hspot : spot = none := by
        have hjl := (List.getElem?_eq_some_iff.1 hx).1
        obtain ⟨cs0, g1, g2, _⟩ := hl2 0 _ (List.getElem?_eq_getElem (by omega))
        obtain ⟨_, glen, gat⟩ := World.cells?_some g1
        have g0 := gat 0 (by omega)
        rw [List.getElem?_eq_getElem (by omega), Nat.zero_mul] at g0
        exact World.cell?_spot g0
      subst hspot
      have hb : b < w.heap.size := by
        rcases Nat.lt_or_ge b w.heap.size with h' | h'
        · exact h'
        · rw [Go.WideShapes.add_plain] at h00; simp [World.cell?, Array.getElem?_eq_none h'] at h00
      exact ⟨b, off, cs', rfl, hb, h2, fun t u hu => by rw [Nat.add_assoc, ← Go.WideShapes.add_plain]; exact hcell t u hu⟩
    · obtain ⟨j, hj⟩ := List.mem_iff_getElem?.1 hy
      obtain ⟨_, _, _, h3⟩ := hl2 j y hj
      exact h3
set_option maxRecDepth 100000 in
theorem opensF_one {f : Field} {off : Nat} (h : Opens enc P w R f.type G) (ho : f.offset = off) (hk : P.cellsOf f.type = R.k) : OpensF enc P w [f] off R G := by
  intro n cs xs hl hx hf
  match xs, hx with
  | [x], _ =>
    have := hf 0 f rfl
    rw [ho, hk, List.take_of_length_le (by rw [List.length_drop]; omega)] at this
    exact h n _ _ this
set_option maxRecDepth 100000 in
theorem opensF_cons {f : Field} {fs : List Field} {off : Nat} (h : Opens enc P w R f.type G) (ho : f.offset = off) (hk : P.cellsOf f.type = R.k) (hr : OpensF enc P w fs (off + R.k) S G') : OpensF enc P w (f :: fs) off (R.pair S) (fun y => G y.1 ∧ G' y.2) := by
  intro n cs xs hl hx hf
  match xs, hx with
  | x :: xs, hx =>
    have h0 := hf 0 f rfl
    rw [ho, hk] at h0
    obtain ⟨y, h1, h2⟩ := h n _ _ h0
    have hl' : cs.length = off + R.k + S.k := by rw [hl]; show off + (R.k + S.k) = _; omega
    obtain ⟨z, h3, h4⟩ := hr n cs xs hl' (by simpa using hx) (fun i g hg => by simpa using hf (i + 1) g (by simpa using hg))
    refine ⟨(y, z), ⟨(cs.drop off).take R.k, cs.drop (off + R.k), ?_, h1, h3⟩, h2, h4⟩
    rw [← List.drop_drop]
    exact (List.take_append_drop _ _).symm
set_option maxRecDepth 100000 in
theorem opens_struct {fs : Array Field} (ht : P.underlying T = some (.struct fs)) (hC : P.cellsOf T = R.k) (h : OpensF enc P w fs.toList 0 R G) : Opens enc P w R T G := by
  intro fuel cs x hx
  obtain ⟨xs, n, _, _, hl, hlen, hf⟩ := DataW.trod_struct ht hx
  have := h n cs xs (by rw [hl, hC]; omega) (by simpa using hlen) (fun i f hif => hf i f (by simpa using hif))
  simpa using this
end
end Go.Proofs.YtdjlhijaadombaaDoor
/- A message that a law is given. -/
set_option linter.unusedVariables false
namespace Go.Proofs.YtdjlhijaadombaaDoor
open Go.ChangeShapes Go.WideShapes Go.ChangeAt Go.RowKit Go.Deep

end Go.Proofs.YtdjlhijaadombaaDoor
/- Numbers in memory while other blocks turn. No conditions. -/
set_option linter.unusedVariables false
namespace Go.Proofs.YtdjlhijaadombaaDoor
open Go.ChangeShapes Go.WideShapes Go.ChangeAt Go.RowKit

set_option maxRecDepth 100000 in
theorem nums.turned {K : IntKind} {lo hi lo' hi' : Nat} {w w' : World} {v : Value} {l : List Int} (h : nums K lo hi w v l) (ht : Turned lo' hi' w w') (h1 : hi ≤ lo' ∨ hi' ≤ lo) (h2 : hi ≤ w.heap.size) : nums K lo hi w' v l := by
  obtain ⟨A, c, rfl, hc, hj⟩ := h
  refine ⟨A, c, rfl, hc, fun j hl => ?_⟩
  obtain ⟨b, off, e, g1, g2, g3, g4⟩ := hj j hl
  have hk := ht.block b (by omega) (by omega)
  exact ⟨b, off, e, g1, g2, (cell_keep hk).trans g3, (frozen_keep hk).trans g4⟩
set_option maxRecDepth 100000 in
theorem rd.turned {K : IntKind} {hi lo' hi' : Nat} {w w' : World} {v : Value} {l : List Int} (h : rd K hi w v l) (ht : Turned lo' hi' w w') (h1 : hi ≤ lo') (h2 : hi ≤ w.heap.size) : rd K hi w' v l := by
  obtain ⟨A, c, rfl, hc, hj⟩ := h
  refine ⟨A, c, rfl, hc, fun j hl => ?_⟩
  obtain ⟨b, off, e, g2, g3⟩ := hj j hl
  have hk := ht.block b (by omega) (by omega)
  exact ⟨b, off, e, g2, (cell_keep hk).trans g3⟩
end Go.Proofs.YtdjlhijaadombaaDoor
