/- The requests' ok methods of the program; the table of operations lies as Go's text lays it. -/
import Derived.Test.YtmojpiofdfmdgabGreatDoorMrgReqU
import Derived.Test.YtmojpiofdfmdgabGreatDoorMrgReqI
import Derived.Test.YtmojpiofdfmdgabGreatDoorMrg5
set_option linter.unusedVariables false
namespace Go.Proofs.YtmojpiofdfmdgabGreatDoor
open Go.ChangeShapes Go.WideShapes Go.ChangeAt Go.RowKit

def plainB (op : Int) (acct trace : ByteArray) : Bool := isOp op && (acctIdB acct && trB trace)
set_option maxRecDepth 100000 in
set_option maxHeartbeats 1600000 in
theorem plainOk_any (op : Int) (acct trace : ByteArray) (w : World) (hO : opsIn w) (hs1 : acct.size ≤ maxLen) (hs4 : trace.size ≤ maxLen) :
    Calls Tryz.prog 180 #[.agg #[.int .i64 op, .string acct, .string trace]] w fun e w' => e = .returned (.bool (plainB op acct trace)) ∧ Below w.heap.size w w' := by
  have HN := Lib.hid (fun V (hV : Below w.heap.size w V) => implOpName_any op V (hO.below hV))
  have HA := Lib.hid (fun V => implAcctIdOk_any acct V hs1)
  have HT : Hid (∀ V, Calls Tryz.prog 184 #[.string trace] V fun e w' => e = .returned (.bool (trB trace)) ∧ Below V.heap.size V w') := Lib.hid (fun V => isTrace_any trace V hs4)
  have HP : Hid (plainB op acct trace = (isOp op && (acctIdB acct && trB trace))) := Lib.hid rfl
  generalize plainB op acct trace = r at HP
  generalize acctIdB acct = b2 at HA HP
  generalize trB trace = b3 at HT HP
  have HB0 : Hid (∀ o, Below w.heap.size w (w.alloc o)) := Lib.hid fun o => (Below.refl _ _).alloc (Nat.le_refl _) o
  clear hO hs1 hs4
  by_cases h1 : 1 ≤ op ∧ op ≤ 8
  · have k1 : isOp op = true := decide_eq_true h1
    have en : ((opTxt 2 op).toList == []) = false := by
      rcases op_cases h1 with rfl | rfl | rfl | rfl | rfl | rfl | rfl | rfl <;> decide +kernel
    rw [HP.out, k1]
    clear h1 k1
    go_enter Tryz.func180, Tryz.ntmps180
    go_upto_region 1 with fail
    obtain ⟨W, hW⟩ : ∃ W, W = w.alloc (.cells #[.int .i64 op, .string acct, .string trace] 81) := ⟨_, rfl⟩
    have b0 : bk W w.heap.size 81 [.int .i64 op, .string acct, .string trace] := by rw [hW]; exact bk.new w _ _
    have HB : Hid (Below w.heap.size w W) := Lib.hid (by rw [hW]; exact HB0.out _)
    have z0 := b0.lt
    rw [← hW]
    clear hW
    have B0 := Lib.hid b0
    obtain ⟨p0, p1, p2⟩ := b0.cells3
    clear b0
    go_wp2_with fail
    refine (HN.out W HB.out).mono ?_
    rintro e w1 ⟨rfl, hb1⟩
    have z1 := hb1.size
    have HB1 : Hid (Below w.heap.size w w1) := Lib.hid (HB.out.trans (hb1.mono (by omega)))
    have B1 := Lib.hid (B0.out.below hb1 z0)
    clear hb1 p0 p1 p2 B0 HB
    obtain ⟨p0, p1, p2⟩ := B1.out.cells3
    go_wp2_with fail
    refine (HA.out w1).mono ?_
    rintro e w2 ⟨rfl, hb2⟩
    have z2 := hb2.size
    have HB2 : Hid (Below w.heap.size w w2) := Lib.hid (HB1.out.trans (hb2.mono (by omega)))
    have B2 := Lib.hid (B1.out.below hb2 (by omega))
    clear hb2 p0 p1 p2 B1 HB1
    obtain ⟨p0, p1, p2⟩ := B2.out.cells3
    cases b2
    · go_wp2
      go_ret
      exact ⟨rfl, HB2.out⟩
    go_wp2_with fail
    refine (HT.out w2).mono ?_
    rintro e w3 ⟨rfl, hb3⟩
    have HB3 : Hid (Below w.heap.size w w3) := Lib.hid (HB2.out.trans (hb3.mono (by omega)))
    go_wp2
    go_ret
    exact ⟨rfl, HB3.out⟩
  · have k1 : isOp op = false := decide_eq_false h1
    have en := opTxt_out 2 h1
    rw [HP.out, k1]
    rw [en] at HN
    clear h1 k1 en
    go_enter Tryz.func180, Tryz.ntmps180
    go_wp2_with fail
    refine (HN.out _ (HB0.out _)).mono ?_
    rintro e w1 ⟨rfl, hb1⟩
    have HB1 : Hid (Below w.heap.size w w1) := Lib.hid ((HB0.out _).trans (hb1.mono (by simp)))
    clear hb1
    go_wp2
    go_ret
    exact ⟨rfl, HB1.out⟩
set_option maxRecDepth 100000 in
set_option maxHeartbeats 1600000 in
theorem holdOkR_any (op : Int) (acct trace hold : ByteArray) (w : World) (hO : opsIn w) (hs1 : acct.size ≤ maxLen) (hs3 : hold.size ≤ maxLen) (hs4 : trace.size ≤ maxLen) :
    Calls Tryz.prog 189 #[.agg #[.int .i64 op, .string acct, .string trace, .string hold]] w fun e w' => e = .returned (.bool (plainB op acct trace && idOk hold)) ∧ Below w.heap.size w w' := by
  have HP := Lib.hid (fun V (hV : Below w.heap.size w V) => plainOk_any op acct trace V (hO.below hV) hs1 hs4)
  have HI := Lib.hid (fun V => implHoldIdOk_any hold V hs3)
  generalize plainB op acct trace = b1 at HP ⊢
  generalize idOk hold = b2 at HI ⊢
  have HB0 : Hid (∀ o, Below w.heap.size w (w.alloc o)) := Lib.hid fun o => (Below.refl _ _).alloc (Nat.le_refl _) o
  clear hO hs1 hs4 hs3
  go_enter Tryz.func189, Tryz.ntmps189
  go_upto_region 1 with fail
  obtain ⟨W, hW⟩ : ∃ W, W = w.alloc (.cells #[.int .i64 op, .string acct, .string trace, .string hold] 83) := ⟨_, rfl⟩
  have b0 : bk W w.heap.size 83 [.int .i64 op, .string acct, .string trace, .string hold] := by rw [hW]; exact bk.new w _ _
  have HB : Hid (Below w.heap.size w W) := Lib.hid (by rw [hW]; exact HB0.out _)
  have z0 := b0.lt
  rw [← hW]
  clear hW
  have B0 := Lib.hid b0
  have p0 := b0.cell 0
  have p1 := b0.cell 1
  have p2 := b0.cell 2
  have p3 := b0.cell 3
  clear b0
  go_wp2_with fail
  refine (HP.out W HB.out).mono ?_
  rintro e w1 ⟨rfl, hb1⟩
  have z1 := hb1.size
  have HB1 : Hid (Below w.heap.size w w1) := Lib.hid (HB.out.trans (hb1.mono (by omega)))
  have B1 := Lib.hid (B0.out.below hb1 z0)
  clear hb1 p0 p1 p2 p3 B0 HB
  have p3 := B1.out.cell 3
  cases b1
  · go_wp2
    go_ret
    exact ⟨rfl, HB1.out⟩
  go_wp2_with fail
  refine (HI.out w1).mono ?_
  rintro e w2 ⟨rfl, hb2⟩
  have HB2 : Hid (Below w.heap.size w w2) := Lib.hid (HB1.out.trans (hb2.mono (by omega)))
  go_wp2
  go_ret
  exact ⟨rfl, HB2.out⟩
end Go.Proofs.YtmojpiofdfmdgabGreatDoor
