/- opIn of the program; the table of operations lies as Go's text lays it; the text of field 3 has two bytes at least. -/
import Derived.Test.YtmojpiofdfmdgabGreatDoorMrgReqX
import Derived.Test.YtmojpiofdfmdgabGreatDoorMrg5
import Derived.Test.YtmojpiofdfmdgabGreatDoorMrg3
import Derived.WalkSmall
set_option linter.unusedVariables false
namespace Go.Proofs.YtmojpiofdfmdgabGreatDoor
open Go.ChangeShapes Go.WideShapes Go.ChangeAt Go.RowKit

set_option maxRecDepth 100000 in
theorem ext_two {s : ByteArray} (h : 2 ≤ s.size) : (s.extract 0 2).size = 2 := by
  rw [ByteArray.size_extract]; omega
set_option maxRecDepth 100000 in
set_option maxHeartbeats 8000000 in
theorem opIn_any (hi : Nat) (v : Value) (m : MsgD) (w : World) (hO : opsIn w) (hn : m.2.length ≤ 1048576) (h : FieldsR.rd hi w [v] m.2) (hh : hi ≤ w.heap.size) (h2 : fldHas m.2 3 = true → 2 ≤ (fldTxt m.2 3).size) (hs : (fldTxt m.2 3).size ≤ maxLen) :
    Calls Tryz.prog 53 #[.agg #[.string m.1, v]] w fun e w' => e = .returned (.int .i64 (rawOp m)) ∧ Below w.heap.size w w' := by
  obtain ⟨A, c, rfl, hc, h'⟩ := fields_rd h
  have HF := Lib.hid (fun V (hV : Below w.heap.size w V) => implFieldOf_any hi (.slice A m.2.length c) m 3 V hn (Rep.below (R := FieldsR) h hV hh) (Nat.le_trans hh hV.size))
  have HV : Hid (rawOp m = if fldHas m.2 3 = true then whichL m.1 ((fldTxt m.2 3).extract 0 2) else 0) := Lib.hid rfl
  have HOP := Lib.hid (fun V (hV : Below w.heap.size w V) => hO.below hV)
  clear h h' hO hn hh
  generalize rawOp m = r at HV ⊢
  generalize fldTxt m.2 3 = s at HF HV h2 hs
  generalize fldHas m.2 3 = b at HF HV h2
  generalize m.2.length = n at HF
  generalize m.1 = a at HF HV
  have HBW : Hid (Below w.heap.size w (w.alloc (.cells #[.string a, .slice A n c] 32))) := Lib.hid ((Below.refl _ _).alloc (Nat.le_refl _) _)
  rw [HV.out]
  cases b
  · clear h2 hs
    go_enter Tryz.func53, Tryz.ntmps53
    go_wp2_with fail
    refine (HF.out _ HBW.out).mono ?_
    rintro e w1 ⟨rfl, hb⟩
    have HB1 : Hid (Below w.heap.size w w1) := Lib.hid (HBW.out.trans (hb.mono (by simp)))
    clear hb
    go_wp2
    go_ret
    exact ⟨rfl, HB1.out⟩
  have h2 := h2 rfl
  have h2' : (2 : Int) ≤ (s.size : Int) := by omega
  have hx := ext_two h2
  clear h2
  unfold maxLen at hs
  generalize hxc : s.extract 0 2 = x at hx
  have HXC := Lib.hid hxc
  have HX2 := Lib.hid hx
  clear hxc hx
  rw [if_pos rfl]
  go_enter Tryz.func53, Tryz.ntmps53
  go_upto_region 1 with fail
  obtain ⟨W, hW⟩ : ∃ W, W = w.alloc (.cells #[.string a, .slice A n c] 32) := ⟨_, rfl⟩
  have b0 : bk W w.heap.size 32 [.string a, .slice A n c] := by rw [hW]; exact bk.new w _ _
  rw [← hW] at HBW ⊢
  clear hW
  have z0 := b0.lt
  have B0 := Lib.hid b0
  have p0 := b0.cell 0
  have p1 := b0.cell 1
  clear b0
  go_wp2_with fail
  refine (HF.out _ HBW.out).mono ?_
  rintro e w1 ⟨rfl, hb⟩
  have z1 := hb.size
  have HB1 : Hid (Below w.heap.size w w1) := Lib.hid (HBW.out.trans (hb.mono (by omega)))
  have B1 := Lib.hid (B0.out.below hb z0)
  clear hb p0 p1 B0 HBW HF
  have HL := Lib.hid (ops_range (HOP.out w1 HB1.out))
  clear HOP
  go_upto_region 5 with (refine wpList_load_mid rfl 107 _ rfl 0 0 rfl opList _ HL.out Tryz.underlying107 rfl opInfo ?_; change wpList _ _ _ _ (Act.put _ _ opAgg) _)
  clear HL
  go_loopw [15] (fun iv wr => ∃ i : Nat, i ≤ 9 ∧ iv = .int .i64 i ∧ Hid (∀ j : Nat, j < i → ¬ ((⟨(opB 0 j).toArray⟩ : ByteArray) = a ∧ (⟨(opB 1 j).toArray⟩ : ByteArray) = x)) ∧ Hid (Below w.heap.size w wr) ∧ w.heap.size < wr.heap.size ∧ Hid (bk wr w.heap.size 32 [.string a, .slice A n c])) (fun iv _ => 9 - (intOf iv).toNat)
  case atStart => exact ⟨0, Nat.zero_le _, rfl, Lib.hid (fun j h2 => absurd h2 (by omega)), HB1, by omega, B1⟩
  case round =>
    obtain ⟨i, hi, rfl, HN, HB, hz, HBK⟩ := hrel
    by_cases hin : i < 9
    · have hrun := fun v => ops_index v hin
      have g1 : (i : Int) < 9 := by omega
      have g0 : 0 ≤ (i : Int) := by omega
      go_upto_region 7 with fail
      obtain ⟨W2, hW⟩ : ∃ W2, W2 = wr.alloc (.cells #[.string ⟨(opB 0 i).toArray⟩, .string ⟨(opB 1 i).toArray⟩, .string ⟨(opB 2 i).toArray⟩] 106) := ⟨_, rfl⟩
      have b2 : bk W2 wr.heap.size 106 [.string ⟨(opB 0 i).toArray⟩, .string ⟨(opB 1 i).toArray⟩, .string ⟨(opB 2 i).toArray⟩] := by rw [hW]; exact bk.new wr _ _
      have hbb : Below wr.heap.size wr W2 := by rw [hW]; exact (Below.refl _ _).alloc (Nat.le_refl _) _
      rw [← hW]
      clear hW hrun
      have z2 := b2.lt
      have HB2 : Hid (Below w.heap.size w W2) := Lib.hid (HB.out.trans (hbb.mono (by omega)))
      have HK2 := Lib.hid (HBK.out.below hbb hz)
      have p0 := HK2.out.cell 0
      have HB2 : Hid (∀ k, Below w.heap.size w (W2.drewN k)) := Lib.hid fun k => below_drewN HB2.out k
      have HK2 : Hid (∀ k, bk (W2.drewN k) w.heap.size 32 [.string a, .slice A n c]) := Lib.hid fun k => HK2.out.drewN k
      have zk : ∀ k, w.heap.size < (W2.drewN k).heap.size := fun k => show w.heap.size < W2.heap.size by omega
      have q0 := b2.cell 0
      have q1 := b2.cell 1
      clear b2 hbb HBK HB
      by_cases e1 : (⟨(opB 0 i).toArray⟩ : ByteArray) = a
      · have e1' : (opB 0 i == a.toList) = true := by rw [beq_iff_eq, ← e1, ByteArray.toList_eq]
        by_cases e2 : (⟨(opB 1 i).toArray⟩ : ByteArray) = x
        · have e2' : (opB 1 i == (s.extract 0 2).toList) = true := by rw [beq_iff_eq, HXC.out, ← e2, ByteArray.toList_eq]
          have HR : Hid (whichL a x = i) := Lib.hid (by
            have h0 : i ≠ 0 := by
              rintro rfl
              have := HX2.out
              rw [← e2] at this
              cases this
            rw [← e1, ← e2, ← opTxt_nat, ← opTxt_nat]
            exact which_hit (by omega))
          clear e1 e2
          go_quiet (fail)
          go_wp2
          go_ret
          exact ⟨by rw [HR.out]; rfl, HB2.out _⟩
        · have e2' : (opB 1 i == (s.extract 0 2).toList) = false := by have := str_no e2; rw [HXC.out]; rwa [ByteArray.toList_eq] at this
          have HE : Hid (¬ ((⟨(opB 0 i).toArray⟩ : ByteArray) = a ∧ (⟨(opB 1 i).toArray⟩ : ByteArray) = x)) := Lib.hid fun h => e2 h.2
          clear e1 e2
          go_quiet (fail)
          go_wp2
          go_roundw
          case rel => exact ⟨i + 1, by omega, by go_num, Lib.hid (fun j h2 => by
            rcases Nat.lt_succ_iff_lt_or_eq.1 h2 with h | rfl
            · exact HN.out j h
            · exact HE.out), Lib.hid (HB2.out _), zk _, Lib.hid (HK2.out _)⟩
          case measure => simp [intOf] <;> omega
      · have e1' : (opB 0 i == a.toList) = false := by have := str_no e1; rwa [ByteArray.toList_eq] at this
        have HE : Hid (¬ ((⟨(opB 0 i).toArray⟩ : ByteArray) = a ∧ (⟨(opB 1 i).toArray⟩ : ByteArray) = x)) := Lib.hid fun h => e1 h.1
        clear e1
        go_quiet (fail)
        go_wp2
        go_roundw
        case rel => exact ⟨i + 1, by omega, by go_num, Lib.hid (fun j h2 => by
          rcases Nat.lt_succ_iff_lt_or_eq.1 h2 with h | rfl
          · exact HN.out j h
          · exact HE.out), Lib.hid (HB2.out _), zk _, Lib.hid (HK2.out _)⟩
        case measure => simp [intOf] <;> omega
    · obtain rfl : i = 9 := by omega
      have HR : Hid (whichL a x = 0) := Lib.hid (which_none fun j h1 h2 => by
        obtain ⟨k, rfl⟩ := Int.eq_ofNat_of_zero_le (show 0 ≤ j by omega)
        rw [opTxt_nat, opTxt_nat]
        exact HN.out k (by omega))
      go_wp2
      go_ret
      exact ⟨by rw [HR.out]; rfl, HB.out⟩
end Go.Proofs.YtmojpiofdfmdgabGreatDoor
