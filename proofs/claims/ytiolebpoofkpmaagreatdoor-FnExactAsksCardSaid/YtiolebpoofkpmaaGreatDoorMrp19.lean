/- requestIn of the program; the table of operations lies as Go's text lays it, errNotDigits holds an error. -/
import Derived.Test.YtiolebpoofkpmaaGreatDoorMrp16
import Derived.Test.YtiolebpoofkpmaaGreatDoorMrp12
import Derived.Test.YtiolebpoofkpmaaGreatDoorMrp7
import Derived.Test.YtiolebpoofkpmaaGreatDoorMrp8
import Derived.Test.YtiolebpoofkpmaaGreatDoorMrp1
import Derived.Test.YtiolebpoofkpmaaGreatDoorMrp14
import Derived.Test.YtiolebpoofkpmaaGreatDoorMrp3
import Derived.Test.YtiolebpoofkpmaaGreatDoorMrp2
set_option linter.unusedVariables false
namespace Go.Proofs.YtiolebpoofkpmaaGreatDoor
open Go.ChangeShapes Go.WideShapes Go.ChangeAt Go.RowKit

set_option maxRecDepth 100000 in
set_option maxHeartbeats 8000000 in
theorem requestIn_any (hi : Nat) (v : Value) (m : MsgD) (w : World) (p : Addr) (hO : opsIn w) (hg : 1 < w.heap.size) (hce : w.cell? ⟨1, 0, none⟩ = some (.iface 207 (.pointer (some p)))) (hn : m.2.length ≤ 1048576) (h : FieldsR.rd hi w [v] m.2) (hh : hi ≤ w.heap.size) (h3 : fldHas m.2 3 = true → 2 ≤ (fldTxt m.2 3).size) (hs : (fldTxt m.2 3).size ≤ maxLen) (hs38 : (fldTxt m.2 38).size ≤ 1048576) (rv : Value)
    (hrq : ∀ V, Calls Tryz.prog 59 #[.agg #[.int .i64 (rawOp m), .string (fldTxt m.2 2), .string (fldTxt m.2 103), .string (bareS (fldTxt m.2 38)), .string (fldTxt m.2 11), .string ⟨#[]⟩, .int .i64 (numIn (fldTxt m.2 4)), .int .i64 (numIn (fldTxt m.2 14))]] V fun e w' => e = .returned rv ∧ Below V.heap.size V w') :
    Calls Tryz.prog 34 #[.agg #[.string m.1, v]] w fun e w' => e = .returned rv ∧ Below w.heap.size w w' := by
  obtain ⟨A, c, rfl, hc, h'⟩ := fields_rd h
  have HOI := Lib.hid (fun V (hV : Below w.heap.size w V) => opIn_any hi (.slice A m.2.length c) m V (hO.below hV) hn (Rep.below (R := FieldsR) h hV hh) (Nat.le_trans hh hV.size) h3 hs)
  have HT2 := Lib.hid (fun V (hV : Below w.heap.size w V) => textIn_any hi (.slice A m.2.length c) m 2 V hn (Rep.below (R := FieldsR) h hV hh) (Nat.le_trans hh hV.size))
  have HT103 := Lib.hid (fun V (hV : Below w.heap.size w V) => textIn_any hi (.slice A m.2.length c) m 103 V hn (Rep.below (R := FieldsR) h hV hh) (Nat.le_trans hh hV.size))
  have HT38 := Lib.hid (fun V (hV : Below w.heap.size w V) => textIn_any hi (.slice A m.2.length c) m 38 V hn (Rep.below (R := FieldsR) h hV hh) (Nat.le_trans hh hV.size))
  have HT11 := Lib.hid (fun V (hV : Below w.heap.size w V) => textIn_any hi (.slice A m.2.length c) m 11 V hn (Rep.below (R := FieldsR) h hV hh) (Nat.le_trans hh hV.size))
  have HN4 := Lib.hid (fun V (hV : Below w.heap.size w V) => numberIn_any hi (.slice A m.2.length c) m 4 V p (Nat.lt_of_lt_of_le hg hV.size) ((hV.cell (p := ⟨_, 0, none⟩) hg).trans hce) hn (Rep.below (R := FieldsR) h hV hh) (Nat.le_trans hh hV.size))
  have HN14 := Lib.hid (fun V (hV : Below w.heap.size w V) => numberIn_any hi (.slice A m.2.length c) m 14 V p (Nat.lt_of_lt_of_le hg hV.size) ((hV.cell (p := ⟨_, 0, none⟩) hg).trans hce) hn (Rep.below (R := FieldsR) h hV hh) (Nat.le_trans hh hV.size))
  have HFB := Lib.hid (fun V => implFieldBare_any (fldTxt m.2 38) V hs38)
  have HRQ := Lib.hid hrq
  clear h h' hO hce hg hrq h3 hs hs38 hn hh hc
  generalize rawOp m = op at HOI HRQ
  generalize bareS (fldTxt m.2 38) = hold at HFB HRQ
  generalize fldTxt m.2 38 = s38 at HT38 HFB
  generalize fldTxt m.2 2 = acct at HT2 HRQ
  generalize fldTxt m.2 103 = other at HT103 HRQ
  generalize fldTxt m.2 11 = trace at HT11 HRQ
  generalize numIn (fldTxt m.2 4) = n4 at HN4 HRQ
  generalize numIn (fldTxt m.2 14) = n14 at HN14 HRQ
  generalize m.2.length = n at HOI HT2 HT103 HT38 HT11 HN4 HN14
  generalize m.1 = a at HOI HT2 HT103 HT38 HT11 HN4 HN14
  go_enter Tryz.func34, Tryz.ntmps34
  go_upto_region 1 with fail
  obtain ⟨W, hW⟩ : ∃ W, W = w.alloc (.cells #[.string a, .slice A n c] 33) := ⟨_, rfl⟩
  have b0 : bk W w.heap.size 33 [.string a, .slice A n c] := by rw [hW]; exact bk.new w _ _
  have HBW : Hid (Below w.heap.size w W) := Lib.hid (by rw [hW]; exact (Below.refl _ _).alloc (Nat.le_refl _) _)
  have z0 := b0.lt
  rw [← hW]
  clear hW
  have P0 := Lib.hid (b0.cell 0)
  have P1 := Lib.hid (b0.cell 1)
  clear b0
  have HBX : Hid (∀ V, Ext W V → Below w.heap.size w V) := Lib.hid fun V hV => HBW.out.trans (hV.below.mono (by omega))
  have HX : Hid (Ext W W.drew) := Lib.hid (Ext.refl W).drew
  refine quiet_region (C := Ext W) (by kernel_rfl) (by kernel_rfl) HX.out ?_
  repeat (first
    | go_big_quiet_skip
    | (go_big_quiet_want; go_big_quiet_op; go_big_quiet_on)
    | (go_big_quiet_want; go_big_quiet_op; apply Exists.intro; refine ⟨fun _ _ => rfl, ?_⟩; go_big_quiet_on)
    | (go_big_quiet_want
       apply Exists.intro
       refine ⟨fun V hV => ?_, ?_⟩
       (have p0 := hV.cell P0.out (by omega)
        have p1 := hV.cell P1.out (by omega)
        unfold Oper.quietAt
        go_simp
        rfl)
       simp only [Act.put, List.setIfInBounds_toArray, List.set_cons_zero, List.set_cons_succ]
       go_big_quiet_on)
    | (go_big_quiet_want
       apply Exists.intro
       refine ⟨fun V hV => ?_, ?_⟩
       (unfold Oper.quietAt
        go_simp
        go_at_call 60
        (with_reducible refine (HOI.out V (HBX.out V hV)).mono ?_)
        rintro e w4 ⟨rfl, hb⟩
        exact ⟨rfl, hV.step hb⟩)
       simp only [Act.put, List.setIfInBounds_toArray, List.set_cons_zero, List.set_cons_succ]
       go_big_quiet_on)
    | (go_big_quiet_want
       apply Exists.intro
       refine ⟨fun V hV => ?_, ?_⟩
       (unfold Oper.quietAt
        go_simp
        go_at_call 61
        (with_reducible refine (HT2.out V (HBX.out V hV)).mono ?_)
        rintro e w4 ⟨rfl, hb⟩
        exact ⟨rfl, hV.step hb⟩)
       simp only [Act.put, List.setIfInBounds_toArray, List.set_cons_zero, List.set_cons_succ]
       go_big_quiet_on)
    | (go_big_quiet_want
       apply Exists.intro
       refine ⟨fun V hV => ?_, ?_⟩
       (unfold Oper.quietAt
        go_simp
        go_at_call 61
        (with_reducible refine (HT103.out V (HBX.out V hV)).mono ?_)
        rintro e w4 ⟨rfl, hb⟩
        exact ⟨rfl, hV.step hb⟩)
       simp only [Act.put, List.setIfInBounds_toArray, List.set_cons_zero, List.set_cons_succ]
       go_big_quiet_on)
    | (go_big_quiet_want
       apply Exists.intro
       refine ⟨fun V hV => ?_, ?_⟩
       (unfold Oper.quietAt
        go_simp
        go_at_call 61
        (with_reducible refine (HT38.out V (HBX.out V hV)).mono ?_)
        rintro e w4 ⟨rfl, hb⟩
        exact ⟨rfl, hV.step hb⟩)
       simp only [Act.put, List.setIfInBounds_toArray, List.set_cons_zero, List.set_cons_succ]
       go_big_quiet_on)
    | (go_big_quiet_want
       apply Exists.intro
       refine ⟨fun V hV => ?_, ?_⟩
       (unfold Oper.quietAt
        go_simp
        go_at_call 61
        (with_reducible refine (HT11.out V (HBX.out V hV)).mono ?_)
        rintro e w4 ⟨rfl, hb⟩
        exact ⟨rfl, hV.step hb⟩)
       simp only [Act.put, List.setIfInBounds_toArray, List.set_cons_zero, List.set_cons_succ]
       go_big_quiet_on)
    | (go_big_quiet_want
       apply Exists.intro
       refine ⟨fun V hV => ?_, ?_⟩
       (unfold Oper.quietAt
        go_simp
        go_at_call 62
        (with_reducible refine (HFB.out V).mono ?_)
        rintro e w4 ⟨rfl, rfl⟩
        exact ⟨rfl, hV⟩)
       simp only [Act.put, List.setIfInBounds_toArray, List.set_cons_zero, List.set_cons_succ]
       go_big_quiet_on)
    | (go_big_quiet_want
       apply Exists.intro
       refine ⟨fun V hV => ?_, ?_⟩
       (unfold Oper.quietAt
        go_simp
        go_at_call 63
        (with_reducible refine (HN4.out V (HBX.out V hV)).mono ?_)
        rintro e w4 ⟨rfl, hb⟩
        exact ⟨rfl, hV.step hb⟩)
       simp only [Act.put, List.setIfInBounds_toArray, List.set_cons_zero, List.set_cons_succ]
       go_big_quiet_on)
    | (go_big_quiet_want
       apply Exists.intro
       refine ⟨fun V hV => ?_, ?_⟩
       (unfold Oper.quietAt
        go_simp
        go_at_call 63
        (with_reducible refine (HN14.out V (HBX.out V hV)).mono ?_)
        rintro e w4 ⟨rfl, hb⟩
        exact ⟨rfl, hV.step hb⟩)
       simp only [Act.put, List.setIfInBounds_toArray, List.set_cons_zero, List.set_cons_succ]
       go_big_quiet_on)
    | (go_big_quiet_want
       apply Exists.intro
       refine ⟨fun V hV => ?_, ?_⟩
       (unfold Oper.quietAt
        go_simp
        go_at_call 59
        (with_reducible refine (HRQ.out V).mono ?_)
        rintro e w4 ⟨rfl, hb⟩
        exact ⟨rfl, hV.step hb⟩)
       simp only [Act.put, List.setIfInBounds_toArray, List.set_cons_zero, List.set_cons_succ]
       go_big_quiet_on)
    | fail)
  refine wpQuiet_nil ?_
  intro w2 hw2
  have HB2 := Lib.hid (HBX.out w2 hw2)
  go_wp2
  go_ret
  exact ⟨rfl, HB2.out⟩
end Go.Proofs.YtiolebpoofkpmaaGreatDoor
set_option linter.unusedVariables false
namespace Go.Proofs.YtiolebpoofkpmaaGreatDoor
open Go.ChangeShapes Go.WideShapes Go.ChangeAt Go.RowKit

/-- what the loop holds of the field before: 0 at the start -/
def prevNo (l : List FieldD) (i : Nat) : Int := if i = 0 then 0 else (l.getD (i - 1) noF).1
set_option maxRecDepth 100000 in
theorem prev_low {l : List FieldD} {i : Nat} {x : FieldD} (hx : l[i]? = some x) (h : x.1 ≤ prevNo l i) : stepOk l i = false := by
  unfold stepOk
  rw [getD_of hx]
  unfold prevNo at h
  by_cases e : i = 0
  · rw [if_pos e] at h
    cases hf : fOk x.1 x.2
    · rfl
    · have := (fOk_range hf).1; omega
  · rw [if_neg e] at h
    have h1 : decide ((l.getD (i - 1) noF).1 < x.1) = false := by rw [decide_eq_false_iff_not]; omega
    rw [h1]; simp [e]
set_option maxRecDepth 100000 in
theorem prev_yes {l : List FieldD} {i : Nat} {x : FieldD} (hx : l[i]? = some x) (h : prevNo l i < x.1) : stepOk l i = fOk x.1 x.2 := by
  unfold stepOk
  rw [getD_of hx]
  unfold prevNo at h
  by_cases e : i = 0
  · simp [e]
  · rw [if_neg e] at h
    have h1 : decide ((l.getD (i - 1) noF).1 < x.1) = true := by rw [decide_eq_true_eq]; exact h
    rw [h1]; simp
set_option maxRecDepth 100000 in
theorem prev_next {l : List FieldD} {i : Nat} {x : FieldD} (hx : l[i]? = some x) : prevNo l (i + 1) = x.1 := by
  unfold prevNo
  rw [if_neg (by omega), Nat.add_sub_cancel, getD_of hx]
set_option maxRecDepth 100000 in
set_option maxHeartbeats 4000000 in
theorem implMsgOk_any (hi : Nat) (v : Value) (m : MsgD) (w : World) (hm : m.1.size ≤ maxLen) (hn : m.2.length ≤ 1048576) (hs : ∀ x ∈ m.2, x.2.size ≤ maxLen) (h : FieldsR.rd hi w [v] m.2) (hh : hi ≤ w.heap.size) :
    Calls Tryz.prog 32 #[.agg #[.string m.1, v]] w fun e w' => e = .returned (.bool (msgOk m)) ∧ Below w.heap.size w w' := by
  obtain ⟨A, c, rfl, hc, h'⟩ := fields_rd h
  have HR := Lib.hid h'
  have HS := Lib.hid hs
  clear h' hs h
  have HD := Lib.hid (fun w' => isMti_any m.1 w' hm)
  have HB0 : Hid (∀ o, Below w.heap.size w (w.alloc o)) := Lib.hid fun o => (Below.refl _ _).alloc (Nat.le_refl _) o
  cases hd : mtiOk m.1
  · have HM : Hid (msgOk m = false) := Lib.hid (by simp [msgOk, hd])
    rw [HM.out]
    have HDD := Lib.hid hd
    clear hd
    go_enter Tryz.func32, Tryz.ntmps32
    go_wp2_with fail
    refine (HD.out _).mono ?_
    rw [HDD.out]
    rintro e w1 ⟨rfl, hb⟩
    have HB := Lib.hid ((HB0.out _).trans (hb.mono (by simp)))
    clear hb
    go_wp2
    go_ret
    exact ⟨rfl, HB.out⟩
  have HM : Hid (msgOk m = listOk m.2) := Lib.hid (by simp [msgOk, hd])
  rw [HM.out]
  have HDD := Lib.hid hd
  clear hd HM
  go_enter Tryz.func32, Tryz.ntmps32
  go_wp2_with fail
  refine (HD.out _).mono ?_
  rw [HDD.out]
  rintro e w1 ⟨rfl, hb⟩
  have HB1 := Lib.hid ((HB0.out _).trans (hb.mono (by simp)))
  have hz1 : w.heap.size + 1 ≤ w1.heap.size := by have := hb.size; simpa using this
  have x1 : w1.cell? ⟨w.heap.size, 1, none⟩ = some (.slice A m.2.length c) := (hb.cell (p := ⟨w.heap.size, 1, none⟩) (by simp)).trans (by simp)
  clear hb
  go_wp2
  go_loopw [3, 13] (fun bv iv wr => ∃ i : Nat, i ≤ m.2.length ∧ iv = .int .i64 i ∧ bv = .int .i64 (prevNo m.2 i) ∧ Hid (∀ j, j < i → stepOk m.2 j = true) ∧ Hid (Below w.heap.size w wr) ∧ w.heap.size ≤ wr.heap.size) (fun _ iv _ => m.2.length - (intOf iv).toNat)
  case atStart => exact ⟨0, Nat.zero_le _, rfl, rfl, Lib.hid (fun j hj => absurd hj (by omega)), HB1, by omega⟩
  case round =>
    obtain ⟨i, hi', rfl, rfl, HG, HB, hz⟩ := hrel
    by_cases hin : i < m.2.length
    · obtain ⟨x, hx⟩ : ∃ x, m.2[i]? = some x := ⟨_, List.getElem?_eq_getElem hin⟩
      obtain ⟨b, off, rfl, hbl, c0, c1⟩ := HR.out i x hx
      have hxs := HS.out x (List.mem_of_getElem? hx)
      have c0 := (HB.out.cell (p := ⟨b, off + i * 2, none⟩) (show b < w.heap.size by omega)).trans c0
      have c1 := (HB.out.cell (p := ⟨b, off + i * 2 + 1, none⟩) (show b < w.heap.size by omega)).trans c1
      have g1 : (i : Int) < (m.2.length : Int) := by omega
      have g2 : 0 ≤ (i : Int) := by omega
      have HN := Lib.hid (prev_next hx)
      have HL := Lib.hid (fun h => prev_low hx h)
      have HY := Lib.hid (fun h => prev_yes hx h)
      have HK := Lib.hid (fun (h : stepOk m.2 i = false) => listOk_no hin h)
      clear hx
      generalize prevNo m.2 i = p at HL HY ⊢
      by_cases hlt : x.1 ≤ p
      · have HF := Lib.hid (HK.out (HL.out hlt))
        have hlt' : decide (x.1 ≤ p) = true := by simpa using hlt
        clear hlt
        go_wp2
        go_ret
        exact ⟨ret_bool HF.out.symm, HB.out.alloc hz _⟩
      · have hlt' : decide (x.1 ≤ p) = false := by simpa using hlt
        have HP := Lib.hid (HY.out (by omega))
        have HQ := Lib.hid (fun w' => implFieldOk_any x.1 x.2 w' hxs)
        have HBX := Lib.hid (HB.out.alloc hz (.cells #[.int .i64 x.1, .string x.2] 48))
        clear hlt
        cases hf : fOk x.1 x.2
        · have HF := Lib.hid (HK.out (by rw [HP.out, hf]))
          rw [hf] at HQ
          clear hf
          go_wp2_with fail
          refine (HQ.out _).mono ?_
          rintro e w2 ⟨rfl, hb2⟩
          have HB2 := Lib.hid (HBX.out.trans (hb2.mono (by simp; omega)))
          clear hb2
          go_wp2
          go_ret
          exact ⟨ret_bool HF.out.symm, HB2.out⟩
        · rw [hf] at HQ
          have HF : Hid (stepOk m.2 i = true) := Lib.hid (by rw [HP.out, hf])
          clear hf
          go_wp2_with fail
          refine (HQ.out _).mono ?_
          rintro e w2 ⟨rfl, hb2⟩
          have HB2 := Lib.hid (HBX.out.trans (hb2.mono (by simp; omega)))
          have hz2 : wr.heap.size + 1 ≤ w2.heap.size := by have := hb2.size; simpa using this
          have q0 : w2.cell? ⟨wr.heap.size, 0, none⟩ = some (.int .i64 x.1) := (hb2.cell (p := ⟨wr.heap.size, 0, none⟩) (by simp)).trans (by simp)
          clear hb2
          go_wp2
          go_roundw
          case rel => exact ⟨i + 1, by omega, by go_num, by rw [HN.out], Lib.hid (fun j hj => by
            by_cases e : j = i
            · rw [e]; exact HF.out
            · exact HG.out j (by omega)), HB2, by omega⟩
          case measure => simp [intOf] <;> omega
    · obtain rfl : i = m.2.length := by omega
      have HF : Hid (listOk m.2 = true) := Lib.hid (listOk_yes HG.out)
      go_wp2
      go_ret
      exact ⟨ret_bool HF.out.symm, HB.out⟩
end Go.Proofs.YtiolebpoofkpmaaGreatDoor
set_option linter.unusedVariables false
namespace Go.Proofs.YtiolebpoofkpmaaGreatDoor
open Go.ChangeShapes Go.WideShapes Go.ChangeAt Go.RowKit

set_option maxRecDepth 100000 in
theorem implMtiKnown_any (s : ByteArray) (w : World) (hs : s.size ≤ maxLen) : Calls Tryz.prog 33 #[.string s] w fun e w' => e = .returned (.bool (mtiKn s)) ∧ Below w.heap.size w w' := by
  cases h1 : s.toList == [48, 49, 48, 48] <;> cases h2 : s.toList == [48, 50, 48, 48] <;> cases h3 : s.toList == [48, 50, 50, 48]
  all_goals have hr := show mtiKn s = (s.toList == [48, 49, 48, 48] || s.toList == [48, 50, 48, 48] || s.toList == [48, 50, 50, 48]) from rfl
  all_goals rw [h1, h2, h3] at hr
  all_goals rw [hr]
  all_goals clear hr
  all_goals go_enter Tryz.func33, Tryz.ntmps33
  all_goals go_wp2
  all_goals go_ret
  all_goals exact ⟨rfl, Below.refl _ _⟩

end Go.Proofs.YtiolebpoofkpmaaGreatDoor
set_option linter.unusedVariables false
namespace Go.Proofs.YtiolebpoofkpmaaGreatDoor
open Go.ChangeShapes Go.WideShapes Go.ChangeAt Go.RowKit

end Go.Proofs.YtiolebpoofkpmaaGreatDoor
set_option linter.unusedVariables false
namespace Go.Proofs.YtiolebpoofkpmaaGreatDoor
open Go.ChangeShapes Go.WideShapes Go.ChangeAt Go.RowKit

end Go.Proofs.YtiolebpoofkpmaaGreatDoor
