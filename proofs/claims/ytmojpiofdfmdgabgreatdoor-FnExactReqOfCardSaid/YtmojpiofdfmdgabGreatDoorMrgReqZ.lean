/- requestIn of the program; the table of operations lies as Go's text lays it, errNotDigits holds an error. -/
import Derived.Test.YtmojpiofdfmdgabGreatDoorMrgReqY
import Derived.Test.YtmojpiofdfmdgabGreatDoorMrgReqV
set_option linter.unusedVariables false
namespace Go.Proofs.YtmojpiofdfmdgabGreatDoor
open Go.ChangeShapes Go.WideShapes Go.ChangeAt Go.RowKit

set_option maxRecDepth 100000 in
set_option maxHeartbeats 8000000 in
theorem requestIn_any (hi : Nat) (v : Value) (m : MsgD) (w : World) (p : Addr) (hO : opsIn w) (hg : 1 < w.heap.size) (hce : w.cell? ⟨1, 0, none⟩ = some (.iface 200 (.pointer (some p)))) (hn : m.2.length ≤ 1048576) (h : FieldsR.rd hi w [v] m.2) (hh : hi ≤ w.heap.size) (h3 : fldHas m.2 3 = true → 2 ≤ (fldTxt m.2 3).size) (hs : (fldTxt m.2 3).size ≤ maxLen) (hs38 : (fldTxt m.2 38).size ≤ 1048576) (rv : Value)
    (hrq : ∀ V, Calls Tryz.prog 39 #[.agg #[.int .i64 (rawOp m), .string (fldTxt m.2 2), .string (fldTxt m.2 103), .string (bareS (fldTxt m.2 38)), .string (fldTxt m.2 11), .string ⟨#[]⟩, .int .i64 (numIn (fldTxt m.2 4)), .int .i64 (numIn (fldTxt m.2 14))]] V fun e w' => e = .returned rv ∧ Below V.heap.size V w') :
    Calls Tryz.prog 30 #[.agg #[.string m.1, v]] w fun e w' => e = .returned rv ∧ Below w.heap.size w w' := by
  obtain ⟨A, c, rfl, hc, h'⟩ := fields_rd h
  have HOI := Lib.hid (fun V (hV : Below w.heap.size w V) => opIn_any hi (.slice A m.2.length c) m V (hO.below hV) hn (Rep.below (R := FieldsR) h hV hh) (Nat.le_trans hh hV.size) h3 hs)
  have HT2 := Lib.hid (fun V (hV : Below w.heap.size w V) => textIn_any hi (.slice A m.2.length c) m 2 V hn (Rep.below (R := FieldsR) h hV hh) (Nat.le_trans hh hV.size))
  have HT103 := Lib.hid (fun V (hV : Below w.heap.size w V) => textIn_any hi (.slice A m.2.length c) m 103 V hn (Rep.below (R := FieldsR) h hV hh) (Nat.le_trans hh hV.size))
  have HT38 := Lib.hid (fun V (hV : Below w.heap.size w V) => textIn_any hi (.slice A m.2.length c) m 38 V hn (Rep.below (R := FieldsR) h hV hh) (Nat.le_trans hh hV.size))
  have HT11 := Lib.hid (fun V (hV : Below w.heap.size w V) => textIn_any hi (.slice A m.2.length c) m 11 V hn (Rep.below (R := FieldsR) h hV hh) (Nat.le_trans hh hV.size))
  have HN4 := Lib.hid (fun V (hV : Below w.heap.size w V) => numberIn_any hi (.slice A m.2.length c) m 4 V p (Nat.lt_of_lt_of_le hg hV.size) ((hV.cell (p := ⟨_, 0, none⟩) hg).trans hce) hn (Rep.below (R := FieldsR) h hV hh) (Nat.le_trans hh hV.size))
  have HN14 := Lib.hid (fun V (hV : Below w.heap.size w V) => numberIn_any hi (.slice A m.2.length c) m 14 V p (Nat.lt_of_lt_of_le hg hV.size) ((hV.cell (p := ⟨_, 0, none⟩) hg).trans hce) hn (Rep.below (R := FieldsR) h hV hh) (Nat.le_trans hh hV.size))
  have HFB := Lib.hid (fun V => implFieldBare_any (fldTxt m.2 38) V hs38)
  have HRQ := Lib.hid hrq
  clear h h' hO hce hg hrq h3 hs hs38 hn hh hc
  generalize rawOp m = op at HOI HRQ
  generalize bareS (fldTxt m.2 38) = hold at HFB HRQ
  generalize fldTxt m.2 38 = s38 at HT38 HFB
  generalize fldTxt m.2 2 = acct at HT2 HRQ
  generalize fldTxt m.2 103 = other at HT103 HRQ
  generalize fldTxt m.2 11 = trace at HT11 HRQ
  generalize numIn (fldTxt m.2 4) = n4 at HN4 HRQ
  generalize numIn (fldTxt m.2 14) = n14 at HN14 HRQ
  generalize m.2.length = n at HOI HT2 HT103 HT38 HT11 HN4 HN14
  generalize m.1 = a at HOI HT2 HT103 HT38 HT11 HN4 HN14
  go_enter Tryz.func30, Tryz.ntmps30
  go_upto_region 1 with fail
  obtain ⟨W, hW⟩ : ∃ W, W = w.alloc (.cells #[.string a, .slice A n c] 32) := ⟨_, rfl⟩
  have b0 : bk W w.heap.size 32 [.string a, .slice A n c] := by rw [hW]; exact bk.new w _ _
  have HBW : Hid (Below w.heap.size w W) := Lib.hid (by rw [hW]; exact (Below.refl _ _).alloc (Nat.le_refl _) _)
  have z0 := b0.lt
  rw [← hW]
  clear hW
  have P0 := Lib.hid (b0.cell 0)
  have P1 := Lib.hid (b0.cell 1)
  clear b0
  have HBX : Hid (∀ V, Ext W V → Below w.heap.size w V) := Lib.hid fun V hV => HBW.out.trans (hV.below.mono (by omega))
  have HX : Hid (Ext W W.drew) := Lib.hid (Ext.refl W).drew
  refine quiet_region (C := Ext W) (by kernel_rfl) (by kernel_rfl) HX.out ?_
  repeat (first
    | go_big_quiet_skip
    | (go_big_quiet_want; go_big_quiet_op; go_big_quiet_on)
    | (go_big_quiet_want; go_big_quiet_op; apply Exists.intro; refine ⟨fun _ _ => rfl, ?_⟩; go_big_quiet_on)
    | (go_big_quiet_want
       apply Exists.intro
       refine ⟨fun V hV => ?_, ?_⟩
       (have p0 := hV.cell P0.out (by omega)
        have p1 := hV.cell P1.out (by omega)
        unfold Oper.quietAt
        go_simp
        rfl)
       simp only [Act.put, List.setIfInBounds_toArray, List.set_cons_zero, List.set_cons_succ]
       go_big_quiet_on)
    | (go_big_quiet_want
       apply Exists.intro
       refine ⟨fun V hV => ?_, ?_⟩
       (unfold Oper.quietAt
        go_simp
        go_at_call 53
        (with_reducible refine (HOI.out V (HBX.out V hV)).mono ?_)
        rintro e w4 ⟨rfl, hb⟩
        exact ⟨rfl, hV.step hb⟩)
       simp only [Act.put, List.setIfInBounds_toArray, List.set_cons_zero, List.set_cons_succ]
       go_big_quiet_on)
    | (go_big_quiet_want
       apply Exists.intro
       refine ⟨fun V hV => ?_, ?_⟩
       (unfold Oper.quietAt
        go_simp
        go_at_call 54
        (with_reducible refine (HT2.out V (HBX.out V hV)).mono ?_)
        rintro e w4 ⟨rfl, hb⟩
        exact ⟨rfl, hV.step hb⟩)
       simp only [Act.put, List.setIfInBounds_toArray, List.set_cons_zero, List.set_cons_succ]
       go_big_quiet_on)
    | (go_big_quiet_want
       apply Exists.intro
       refine ⟨fun V hV => ?_, ?_⟩
       (unfold Oper.quietAt
        go_simp
        go_at_call 54
        (with_reducible refine (HT103.out V (HBX.out V hV)).mono ?_)
        rintro e w4 ⟨rfl, hb⟩
        exact ⟨rfl, hV.step hb⟩)
       simp only [Act.put, List.setIfInBounds_toArray, List.set_cons_zero, List.set_cons_succ]
       go_big_quiet_on)
    | (go_big_quiet_want
       apply Exists.intro
       refine ⟨fun V hV => ?_, ?_⟩
       (unfold Oper.quietAt
        go_simp
        go_at_call 54
        (with_reducible refine (HT38.out V (HBX.out V hV)).mono ?_)
        rintro e w4 ⟨rfl, hb⟩
        exact ⟨rfl, hV.step hb⟩)
       simp only [Act.put, List.setIfInBounds_toArray, List.set_cons_zero, List.set_cons_succ]
       go_big_quiet_on)
    | (go_big_quiet_want
       apply Exists.intro
       refine ⟨fun V hV => ?_, ?_⟩
       (unfold Oper.quietAt
        go_simp
        go_at_call 54
        (with_reducible refine (HT11.out V (HBX.out V hV)).mono ?_)
        rintro e w4 ⟨rfl, hb⟩
        exact ⟨rfl, hV.step hb⟩)
       simp only [Act.put, List.setIfInBounds_toArray, List.set_cons_zero, List.set_cons_succ]
       go_big_quiet_on)
    | (go_big_quiet_want
       apply Exists.intro
       refine ⟨fun V hV => ?_, ?_⟩
       (unfold Oper.quietAt
        go_simp
        go_at_call 55
        (with_reducible refine (HFB.out V).mono ?_)
        rintro e w4 ⟨rfl, rfl⟩
        exact ⟨rfl, hV⟩)
       simp only [Act.put, List.setIfInBounds_toArray, List.set_cons_zero, List.set_cons_succ]
       go_big_quiet_on)
    | (go_big_quiet_want
       apply Exists.intro
       refine ⟨fun V hV => ?_, ?_⟩
       (unfold Oper.quietAt
        go_simp
        go_at_call 56
        (with_reducible refine (HN4.out V (HBX.out V hV)).mono ?_)
        rintro e w4 ⟨rfl, hb⟩
        exact ⟨rfl, hV.step hb⟩)
       simp only [Act.put, List.setIfInBounds_toArray, List.set_cons_zero, List.set_cons_succ]
       go_big_quiet_on)
    | (go_big_quiet_want
       apply Exists.intro
       refine ⟨fun V hV => ?_, ?_⟩
       (unfold Oper.quietAt
        go_simp
        go_at_call 56
        (with_reducible refine (HN14.out V (HBX.out V hV)).mono ?_)
        rintro e w4 ⟨rfl, hb⟩
        exact ⟨rfl, hV.step hb⟩)
       simp only [Act.put, List.setIfInBounds_toArray, List.set_cons_zero, List.set_cons_succ]
       go_big_quiet_on)
    | (go_big_quiet_want
       apply Exists.intro
       refine ⟨fun V hV => ?_, ?_⟩
       (unfold Oper.quietAt
        go_simp
        go_at_call 39
        (with_reducible refine (HRQ.out V).mono ?_)
        rintro e w4 ⟨rfl, hb⟩
        exact ⟨rfl, hV.step hb⟩)
       simp only [Act.put, List.setIfInBounds_toArray, List.set_cons_zero, List.set_cons_succ]
       go_big_quiet_on)
    | fail)
  refine wpQuiet_nil ?_
  intro w2 hw2
  have HB2 := Lib.hid (HBX.out w2 hw2)
  go_wp2
  go_ret
  exact ⟨rfl, HB2.out⟩
end Go.Proofs.YtmojpiofdfmdgabGreatDoor
