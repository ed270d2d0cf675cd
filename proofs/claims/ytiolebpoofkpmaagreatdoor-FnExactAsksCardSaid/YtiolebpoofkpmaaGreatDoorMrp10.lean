/- HoldIdOk, HoldOk, Live of the program; no conditions. -/
import Derived.Test.YtiolebpoofkpmaaGreatDoorMrp9
import Derived.Test.YtiolebpoofkpmaaGreatDoorMrp1
import Derived.Test.YtiolebpoofkpmaaGreatDoorMrp8
import Derived.Test.YtiolebpoofkpmaaGreatDoorMrp6
import Derived.Test.YtiolebpoofkpmaaGreatDoorMrp3
import Derived.Test.YtiolebpoofkpmaaGreatDoorMrp2
import Derived.Deep.MidRow
set_option linter.unusedVariables false
namespace Go.Proofs.YtiolebpoofkpmaaGreatDoor
open Go.ChangeShapes Go.WideShapes Go.ChangeAt Go.RowKit

set_option maxRecDepth 100000 in
/-- a small letter, at a place: its character -/
theorem rune_low (s : ByteArray) (pos : Nat) (h : pos < s.size) (hd : isDig s[pos] = false) (hc : idCh s[pos] = true) : Utf8.decode s pos = (s[pos].toNat, 1) ∧ runeDig (s[pos].toNat : Int) = false ∧ (97 : Int) ≤ (s[pos].toNat : Int) ∧ (s[pos].toNat : Int) ≤ 122 := by
  have h1 := (isDig_no _).1 hd
  have h2 : 48 ≤ s[pos].toNat ∧ s[pos].toNat ≤ 57 ∨ 97 ≤ s[pos].toNat ∧ s[pos].toNat ≤ 122 := of_decide_eq_true hc
  have h3 : 97 ≤ s[pos].toNat ∧ s[pos].toNat ≤ 122 := by omega
  exact ⟨decode_ascii s pos h (by omega), by simp [runeDig]; omega, by omega, by omega⟩
set_option maxRecDepth 100000 in
/-- no sign of an id, at a place: its character -/
theorem rune_none (s : ByteArray) (pos : Nat) (h : pos < s.size) (hc : idCh s[pos] = false) : runeDig ((Utf8.decode s pos).1 : Int) = false ∧ (((Utf8.decode s pos).1 : Int) < 97 ∨ 122 < ((Utf8.decode s pos).1 : Int)) := by
  have h2 : ¬ (48 ≤ s[pos].toNat ∧ s[pos].toNat ≤ 57 ∨ 97 ≤ s[pos].toNat ∧ s[pos].toNat ≤ 122) := of_decide_eq_false hc
  rcases Nat.lt_or_ge s[pos].toNat 128 with h1 | h1
  · rw [decode_ascii s pos h h1]
    exact ⟨by simp [runeDig]; omega, by show (s[pos].toNat : Int) < 97 ∨ 122 < (s[pos].toNat : Int); omega⟩
  · have := (decode_high s pos h h1).1
    exact ⟨by simp [runeDig]; omega, .inr (by omega)⟩
set_option maxRecDepth 100000 in
theorem idOk_end {s : ByteArray} {k : Nat} (hk : ¬ k < s.size) (h : (s.data.toList.take k).all idCh = true) : idOk s = decide (0 < s.size ∧ s.size ≤ 6) := by
  rw [take_end s k hk] at h
  rw [idOk_yes h]
  unfold inB
  exact decide_eq_decide.2 ⟨fun ⟨_, _⟩ => ⟨by omega, by omega⟩, fun ⟨_, _⟩ => ⟨by omega, by omega⟩⟩
set_option maxRecDepth 100000 in
set_option maxHeartbeats 1600000 in
theorem implHoldIdOk_any (s : ByteArray) (w : World) (hs : s.size ≤ maxLen) :
    Calls Tryz.prog 207 #[.string s] w fun e w' => e = .returned (.bool (idOk s)) ∧ Below w.heap.size w w' := by
  unfold maxLen at hs
  go_enter Tryz.func207, Tryz.ntmps207
  go_wp2
  go_loopw [2] (fun _ wr => ∃ k : Nat, k ≤ s.size ∧ wr = w.iter s k ∧ (s.data.toList.take k).all idCh = true) (fun _ wr => s.size - wr.iterPos w.heap.size)
  case atStart => exact ⟨0, Nat.zero_le _, rfl, rfl⟩
  case round =>
    obtain ⟨k, hk, rfl, ha0⟩ := hrel
    have ha := Lib.hid ha0
    clear ha0
    by_cases hlt : k < s.size
    · cases hc : idCh s[k]
      · obtain ⟨hr, hr2⟩ := rune_none s k hlt hc
        have HF := Lib.hid (idOk_not (all_not (p := idCh) hlt hc))
        have hnx : ∀ ty, (Instr.next (.pointer (some ⟨w.heap.size, 0, none⟩)) true ty).run Tryz.prog (w.iter s k) = _ := fun ty => run_next_any w s k ty hlt
        generalize hq : Utf8.decode s k = q at hnx hr hr2
        obtain ⟨r, wd⟩ := q
        clear hq
        simp only at hr hr2
        rcases hr2 with hr2 | hr2
        · go_wp2_with (go_at_call 94; refine (isDigit_any _ _).mono ?_; rintro e w' ⟨rfl, rfl⟩)
          go_ret
          exact ⟨ret_bool HF.out.symm, below_iter _ _ _⟩
        · have hr3 : ¬ (r : Int) < 97 := by omega
          go_wp2_with (go_at_call 94; refine (isDigit_any _ _).mono ?_; rintro e w' ⟨rfl, rfl⟩)
          go_ret
          exact ⟨ret_bool HF.out.symm, below_iter _ _ _⟩
      · have hb := Lib.hid (all_step (p := idCh) hlt ha.out hc)
        have hnx : ∀ ty, (Instr.next (.pointer (some ⟨w.heap.size, 0, none⟩)) true ty).run Tryz.prog (w.iter s k) = _ := fun ty => run_next_any w s k ty hlt
        cases hd : isDig s[k]
        · obtain ⟨hdec, hr, hr2, hr3⟩ := rune_low s k hlt hd hc
          rw [hdec] at hnx
          clear hdec hd hc
          go_wp2_with (go_at_call 94; refine (isDigit_any _ _).mono ?_; rintro e w' ⟨rfl, rfl⟩)
          go_roundw
          case rel => exact ⟨k + 1, by omega, rfl, hb.out⟩
          case measure => simp <;> omega
        · obtain ⟨hdec, hr⟩ := rune_dig s k hlt hd
          rw [hdec] at hnx
          clear hdec hd hc
          go_wp2_with (go_at_call 94; refine (isDigit_any _ _).mono ?_; rintro e w' ⟨rfl, rfl⟩)
          go_roundw
          case rel => exact ⟨k + 1, by omega, rfl, hb.out⟩
          case measure => simp <;> omega
    · have HV := Lib.hid (idOk_end hlt ha.out)
      have hnx : ∀ ty, (Instr.next (.pointer (some ⟨w.heap.size, 0, none⟩)) true ty).run Tryz.prog (w.iter s k) = _ := fun ty => run_next_end w s k ty hlt
      by_cases h0 : 0 < s.size
      · have hE := empty_no s h0
        go_wp2
        go_ret
        exact ⟨ret_bool (by rw [HV.out]; exact decide_eq_decide.2 ⟨fun _ => ⟨h0, by omega⟩, fun _ => by omega⟩), below_iter _ _ _⟩
      · have hE := empty_yes s h0
        go_wp2
        go_ret
        exact ⟨ret_bool (by rw [HV.out]; exact (decide_eq_false (fun h => h0 h.1)).symm), below_iter _ _ _⟩
end Go.Proofs.YtiolebpoofkpmaaGreatDoor
set_option linter.unusedVariables false
namespace Go.Proofs.YtiolebpoofkpmaaGreatDoor
open Go.ChangeShapes Go.WideShapes Go.ChangeAt Go.RowKit

def plainB (op : Int) (acct trace : ByteArray) : Bool := isOp op && (acctIdB acct && trB trace)
set_option maxRecDepth 100000 in
set_option maxHeartbeats 1600000 in
theorem plainOk_any (op : Int) (acct trace : ByteArray) (w : World) (hO : opsIn w) (hs1 : acct.size ≤ maxLen) (hs4 : trace.size ≤ maxLen) :
    Calls Tryz.prog 197 #[.agg #[.int .i64 op, .string acct, .string trace]] w fun e w' => e = .returned (.bool (plainB op acct trace)) ∧ Below w.heap.size w w' := by
  have HN := Lib.hid (fun V (hV : Below w.heap.size w V) => implOpName_any op V (hO.below hV))
  have HA := Lib.hid (fun V => implAcctIdOk_any acct V hs1)
  have HT : Hid (∀ V, Calls Tryz.prog 201 #[.string trace] V fun e w' => e = .returned (.bool (trB trace)) ∧ Below V.heap.size V w') := Lib.hid (fun V => isTrace_any trace V hs4)
  have HP : Hid (plainB op acct trace = (isOp op && (acctIdB acct && trB trace))) := Lib.hid rfl
  generalize plainB op acct trace = r at HP
  generalize acctIdB acct = b2 at HA HP
  generalize trB trace = b3 at HT HP
  have HB0 : Hid (∀ o, Below w.heap.size w (w.alloc o)) := Lib.hid fun o => (Below.refl _ _).alloc (Nat.le_refl _) o
  clear hO hs1 hs4
  by_cases h1 : 1 ≤ op ∧ op ≤ 8
  · have k1 : isOp op = true := decide_eq_true h1
    have en : ((opTxt 2 op).toList == []) = false := by
      rcases op_cases h1 with rfl | rfl | rfl | rfl | rfl | rfl | rfl | rfl <;> decide +kernel
    rw [HP.out, k1]
    clear h1 k1
    go_enter Tryz.func197, Tryz.ntmps197
    go_upto_region 1 with fail
    obtain ⟨W, hW⟩ : ∃ W, W = w.alloc (.cells #[.int .i64 op, .string acct, .string trace] 85) := ⟨_, rfl⟩
    have b0 : bk W w.heap.size 85 [.int .i64 op, .string acct, .string trace] := by rw [hW]; exact bk.new w _ _
    have HB : Hid (Below w.heap.size w W) := Lib.hid (by rw [hW]; exact HB0.out _)
    have z0 := b0.lt
    rw [← hW]
    clear hW
    have B0 := Lib.hid b0
    obtain ⟨p0, p1, p2⟩ := b0.cells3
    clear b0
    go_wp2_with fail
    refine (HN.out W HB.out).mono ?_
    rintro e w1 ⟨rfl, hb1⟩
    have z1 := hb1.size
    have HB1 : Hid (Below w.heap.size w w1) := Lib.hid (HB.out.trans (hb1.mono (by omega)))
    have B1 := Lib.hid (B0.out.below hb1 z0)
    clear hb1 p0 p1 p2 B0 HB
    obtain ⟨p0, p1, p2⟩ := B1.out.cells3
    go_wp2_with fail
    refine (HA.out w1).mono ?_
    rintro e w2 ⟨rfl, hb2⟩
    have z2 := hb2.size
    have HB2 : Hid (Below w.heap.size w w2) := Lib.hid (HB1.out.trans (hb2.mono (by omega)))
    have B2 := Lib.hid (B1.out.below hb2 (by omega))
    clear hb2 p0 p1 p2 B1 HB1
    obtain ⟨p0, p1, p2⟩ := B2.out.cells3
    cases b2
    · go_wp2
      go_ret
      exact ⟨rfl, HB2.out⟩
    go_wp2_with fail
    refine (HT.out w2).mono ?_
    rintro e w3 ⟨rfl, hb3⟩
    have HB3 : Hid (Below w.heap.size w w3) := Lib.hid (HB2.out.trans (hb3.mono (by omega)))
    go_wp2
    go_ret
    exact ⟨rfl, HB3.out⟩
  · have k1 : isOp op = false := decide_eq_false h1
    have en := opTxt_out 2 h1
    rw [HP.out, k1]
    rw [en] at HN
    clear h1 k1 en
    go_enter Tryz.func197, Tryz.ntmps197
    go_wp2_with fail
    refine (HN.out _ (HB0.out _)).mono ?_
    rintro e w1 ⟨rfl, hb1⟩
    have HB1 : Hid (Below w.heap.size w w1) := Lib.hid ((HB0.out _).trans (hb1.mono (by simp)))
    clear hb1
    go_wp2
    go_ret
    exact ⟨rfl, HB1.out⟩
set_option maxRecDepth 100000 in
set_option maxHeartbeats 1600000 in
theorem holdOkR_any (op : Int) (acct trace hold : ByteArray) (w : World) (hO : opsIn w) (hs1 : acct.size ≤ maxLen) (hs3 : hold.size ≤ maxLen) (hs4 : trace.size ≤ maxLen) :
    Calls Tryz.prog 205 #[.agg #[.int .i64 op, .string acct, .string trace, .string hold]] w fun e w' => e = .returned (.bool (plainB op acct trace && idOk hold)) ∧ Below w.heap.size w w' := by
  have HP := Lib.hid (fun V (hV : Below w.heap.size w V) => plainOk_any op acct trace V (hO.below hV) hs1 hs4)
  have HI := Lib.hid (fun V => implHoldIdOk_any hold V hs3)
  generalize plainB op acct trace = b1 at HP ⊢
  generalize idOk hold = b2 at HI ⊢
  have HB0 : Hid (∀ o, Below w.heap.size w (w.alloc o)) := Lib.hid fun o => (Below.refl _ _).alloc (Nat.le_refl _) o
  clear hO hs1 hs4 hs3
  go_enter Tryz.func205, Tryz.ntmps205
  go_upto_region 1 with fail
  obtain ⟨W, hW⟩ : ∃ W, W = w.alloc (.cells #[.int .i64 op, .string acct, .string trace, .string hold] 87) := ⟨_, rfl⟩
  have b0 : bk W w.heap.size 87 [.int .i64 op, .string acct, .string trace, .string hold] := by rw [hW]; exact bk.new w _ _
  have HB : Hid (Below w.heap.size w W) := Lib.hid (by rw [hW]; exact HB0.out _)
  have z0 := b0.lt
  rw [← hW]
  clear hW
  have B0 := Lib.hid b0
  have p0 := b0.cell 0
  have p1 := b0.cell 1
  have p2 := b0.cell 2
  have p3 := b0.cell 3
  clear b0
  go_wp2_with fail
  refine (HP.out W HB.out).mono ?_
  rintro e w1 ⟨rfl, hb1⟩
  have z1 := hb1.size
  have HB1 : Hid (Below w.heap.size w w1) := Lib.hid (HB.out.trans (hb1.mono (by omega)))
  have B1 := Lib.hid (B0.out.below hb1 z0)
  clear hb1 p0 p1 p2 p3 B0 HB
  have p3 := B1.out.cell 3
  cases b1
  · go_wp2
    go_ret
    exact ⟨rfl, HB1.out⟩
  go_wp2_with fail
  refine (HI.out w1).mono ?_
  rintro e w2 ⟨rfl, hb2⟩
  have HB2 : Hid (Below w.heap.size w w2) := Lib.hid (HB1.out.trans (hb2.mono (by omega)))
  go_wp2
  go_ret
  exact ⟨rfl, HB2.out⟩
end Go.Proofs.YtiolebpoofkpmaaGreatDoor
set_option linter.unusedVariables false
set_option linter.unusedSimpArgs false
namespace Go.Proofs.YtiolebpoofkpmaaGreatDoor
open Go.ChangeShapes Go.WideShapes Go.ChangeAt Go.RowKit

set_option maxRecDepth 100000 in
set_option maxHeartbeats 1600000 in
theorem amtOkR_any (op : Int) (acct trace hold : ByteArray) (amount : Int) (w : World) (hO : opsIn w) (hs1 : acct.size ≤ maxLen) (hs3 : hold.size ≤ maxLen) (hs4 : trace.size ≤ maxLen) :
    Calls Tryz.prog 208 #[.agg #[.int .i64 op, .string acct, .string trace, .string hold, .int .i64 amount]] w fun e w' => e = .returned (.bool ((plainB op acct trace && idOk hold) && decide (0 ≤ amount ∧ amount ≤ 999999999999))) ∧ Below w.heap.size w w' := by
  have HP := Lib.hid (fun V (hV : Below w.heap.size w V) => holdOkR_any op acct trace hold V (hO.below hV) hs1 hs3 hs4)
  generalize (plainB op acct trace && idOk hold) = b1 at HP ⊢
  clear hO hs1 hs4 hs3
  have HB0 : Hid (∀ o, Below w.heap.size w (w.alloc o)) := Lib.hid fun o => (Below.refl _ _).alloc (Nat.le_refl _) o
  go_enter Tryz.func208, Tryz.ntmps208
  go_upto_region 1 with fail
  obtain ⟨W, hW⟩ : ∃ W, W = w.alloc (.cells #[.int .i64 op, .string acct, .string trace, .string hold, .int .i64 amount] 89) := ⟨_, rfl⟩
  have b0 : bk W w.heap.size 89 [.int .i64 op, .string acct, .string trace, .string hold, .int .i64 amount] := by rw [hW]; exact bk.new w _ _
  have HB : Hid (Below w.heap.size w W) := Lib.hid (by rw [hW]; exact HB0.out _)
  have z0 := b0.lt
  rw [← hW]
  clear hW
  have B0 := Lib.hid b0
  have p0 := b0.cell 0
  have p1 := b0.cell 1
  have p2 := b0.cell 2
  have p3 := b0.cell 3
  have p4 := b0.cell 4
  clear b0
  go_wp2_with fail
  refine (HP.out W HB.out).mono ?_
  rintro e w1 ⟨rfl, hb1⟩
  have z1 := hb1.size
  have HB1 : Hid (Below w.heap.size w w1) := Lib.hid (HB.out.trans (hb1.mono (by omega)))
  have B1 := Lib.hid (B0.out.below hb1 z0)
  clear hb1 p0 p1 p2 p3 p4 B0 HB
  have pz := B1.out.cell 4
  cases b1
  · go_wp2
    go_ret
    exact ⟨rfl, HB1.out⟩
  by_cases e1 : 0 ≤ amount
  · by_cases e2 : amount ≤ 999999999999
    all_goals
      go_wp2
      go_ret
      exact ⟨by first | (simp [e1, e2]; done) | (simp [e1]; omega), HB1.out⟩
  · go_wp2
    go_ret
    exact ⟨by simp; omega, HB1.out⟩

set_option maxRecDepth 100000 in
set_option maxHeartbeats 1600000 in
theorem authOkR_any (op : Int) (acct trace hold : ByteArray) (amount : Int) (ttl : Int) (w : World) (hO : opsIn w) (hs1 : acct.size ≤ maxLen) (hs3 : hold.size ≤ maxLen) (hs4 : trace.size ≤ maxLen) :
    Calls Tryz.prog 210 #[.agg #[.int .i64 op, .string acct, .string trace, .string hold, .int .i64 amount, .int .i64 ttl]] w fun e w' => e = .returned (.bool (((plainB op acct trace && idOk hold) && decide (0 ≤ amount ∧ amount ≤ 999999999999)) && decide (0 ≤ ttl ∧ ttl ≤ 9999))) ∧ Below w.heap.size w w' := by
  have HP := Lib.hid (fun V (hV : Below w.heap.size w V) => amtOkR_any op acct trace hold amount V (hO.below hV) hs1 hs3 hs4)
  generalize ((plainB op acct trace && idOk hold) && decide (0 ≤ amount ∧ amount ≤ 999999999999)) = b1 at HP ⊢
  clear hO hs1 hs4 hs3
  have HB0 : Hid (∀ o, Below w.heap.size w (w.alloc o)) := Lib.hid fun o => (Below.refl _ _).alloc (Nat.le_refl _) o
  go_enter Tryz.func210, Tryz.ntmps210
  go_upto_region 1 with fail
  obtain ⟨W, hW⟩ : ∃ W, W = w.alloc (.cells #[.int .i64 op, .string acct, .string trace, .string hold, .int .i64 amount, .int .i64 ttl] 91) := ⟨_, rfl⟩
  have b0 : bk W w.heap.size 91 [.int .i64 op, .string acct, .string trace, .string hold, .int .i64 amount, .int .i64 ttl] := by rw [hW]; exact bk.new w _ _
  have HB : Hid (Below w.heap.size w W) := Lib.hid (by rw [hW]; exact HB0.out _)
  have z0 := b0.lt
  rw [← hW]
  clear hW
  have B0 := Lib.hid b0
  have p0 := b0.cell 0
  have p1 := b0.cell 1
  have p2 := b0.cell 2
  have p3 := b0.cell 3
  have p4 := b0.cell 4
  have p5 := b0.cell 5
  clear b0
  go_wp2_with fail
  refine (HP.out W HB.out).mono ?_
  rintro e w1 ⟨rfl, hb1⟩
  have z1 := hb1.size
  have HB1 : Hid (Below w.heap.size w w1) := Lib.hid (HB.out.trans (hb1.mono (by omega)))
  have B1 := Lib.hid (B0.out.below hb1 z0)
  clear hb1 p0 p1 p2 p3 p4 p5 B0 HB
  have pz := B1.out.cell 5
  cases b1
  · go_wp2
    go_ret
    exact ⟨rfl, HB1.out⟩
  by_cases e1 : 0 ≤ ttl
  · by_cases e2 : ttl ≤ 9999
    all_goals
      go_wp2
      go_ret
      exact ⟨by first | (simp [e1, e2]; done) | (simp [e1]; omega), HB1.out⟩
  · go_wp2
    go_ret
    exact ⟨by simp; omega, HB1.out⟩

set_option maxRecDepth 100000 in
set_option maxHeartbeats 1600000 in
theorem moveOkR_any (op : Int) (acct trace hold other : ByteArray) (w : World) (hO : opsIn w) (hs1 : acct.size ≤ maxLen) (hs3 : hold.size ≤ maxLen) (hs4 : trace.size ≤ maxLen) (hs2 : other.size ≤ maxLen) :
    Calls Tryz.prog 212 #[.agg #[.int .i64 op, .string acct, .string trace, .string hold, .string other]] w fun e w' => e = .returned (.bool ((plainB op acct trace && idOk hold) && acctIdB other)) ∧ Below w.heap.size w w' := by
  have HP := Lib.hid (fun V (hV : Below w.heap.size w V) => holdOkR_any op acct trace hold V (hO.below hV) hs1 hs3 hs4)
  have HI := Lib.hid (fun V => implAcctIdOk_any other V hs2)
  generalize (plainB op acct trace && idOk hold) = b1 at HP ⊢
  generalize acctIdB other = b2 at HI ⊢
  clear hO hs1 hs4 hs3 hs2
  have HB0 : Hid (∀ o, Below w.heap.size w (w.alloc o)) := Lib.hid fun o => (Below.refl _ _).alloc (Nat.le_refl _) o
  go_enter Tryz.func212, Tryz.ntmps212
  go_upto_region 1 with fail
  obtain ⟨W, hW⟩ : ∃ W, W = w.alloc (.cells #[.int .i64 op, .string acct, .string trace, .string hold, .string other] 93) := ⟨_, rfl⟩
  have b0 : bk W w.heap.size 93 [.int .i64 op, .string acct, .string trace, .string hold, .string other] := by rw [hW]; exact bk.new w _ _
  have HB : Hid (Below w.heap.size w W) := Lib.hid (by rw [hW]; exact HB0.out _)
  have z0 := b0.lt
  rw [← hW]
  clear hW
  have B0 := Lib.hid b0
  have p0 := b0.cell 0
  have p1 := b0.cell 1
  have p2 := b0.cell 2
  have p3 := b0.cell 3
  have p4 := b0.cell 4
  clear b0
  go_wp2_with fail
  refine (HP.out W HB.out).mono ?_
  rintro e w1 ⟨rfl, hb1⟩
  have z1 := hb1.size
  have HB1 : Hid (Below w.heap.size w w1) := Lib.hid (HB.out.trans (hb1.mono (by omega)))
  have B1 := Lib.hid (B0.out.below hb1 z0)
  clear hb1 p0 p1 p2 p3 p4 B0 HB
  have pz := B1.out.cell 4
  cases b1
  · go_wp2
    go_ret
    exact ⟨rfl, HB1.out⟩
  go_wp2_with fail
  refine (HI.out w1).mono ?_
  rintro e w2 ⟨rfl, hb2⟩
  have HB2 : Hid (Below w.heap.size w w2) := Lib.hid (HB1.out.trans (hb2.mono (by omega)))
  go_wp2
  go_ret
  exact ⟨rfl, HB2.out⟩
end Go.Proofs.YtiolebpoofkpmaaGreatDoor
set_option linter.unusedVariables false
namespace Go.Proofs.YtiolebpoofkpmaaGreatDoor
open Go.ChangeShapes Go.WideShapes Go.ChangeAt Go.RowKit

set_option maxRecDepth 100000 in
theorem sizeReq : (Tryz.prog.info? 37).map (·.size) = some 8 := by kernel_rfl
set_option maxRecDepth 100000 in
theorem there8 {V : World} {b : Nat} {o0 o1 o2 o3 o4 o5 o6 o7 : Value} (h : bk V b 37 [o0, o1, o2, o3, o4, o5, o6, o7]) : V.there b 0 8 := by
  obtain ⟨⟨c0, c1, c2, c3, c4, c5, c6, c7⟩, f⟩ := h.eight
  intro j hj
  rw [Nat.zero_add]
  refine ⟨?_, f j⟩
  have h8 : j = 0 ∨ j = 1 ∨ j = 2 ∨ j = 3 ∨ j = 4 ∨ j = 5 ∨ j = 6 ∨ j = 7 := by omega
  rcases h8 with rfl | rfl | rfl | rfl | rfl | rfl | rfl | rfl
  · rw [c0]; rfl
  · rw [c1]; rfl
  · rw [c2]; rfl
  · rw [c3]; rfl
  · rw [c4]; rfl
  · rw [c5]; rfl
  · rw [c6]; rfl
  · rw [c7]; rfl
set_option maxRecDepth 100000 in
theorem set8_bk {V : World} {b : Nat} {o0 o1 o2 o3 o4 o5 o6 o7 : Value} (h : bk V b 37 [o0, o1, o2, o3, o4, o5, o6, o7]) (a0 a1 a2 a3 a4 a5 a6 a7 : Value) : bk (V.setCells b 0 [a0, a1, a2, a3, a4, a5, a6, a7]) b 37 [a0, a1, a2, a3, a4, a5, a6, a7] := ((((((((h.set 0 a0).set 1 a1).set 2 a2).set 3 a3).set 4 a4).set 5 a5).set 6 a6).set 7 a7)
set_option maxRecDepth 100000 in
theorem set8_turned (V : World) (b : Nat) (a0 a1 a2 a3 a4 a5 a6 a7 : Value) : Turned b (b + 1) V (V.setCells b 0 [a0, a1, a2, a3, a4, a5, a6, a7]) := (((((((((Turned.refl b (b + 1) V).set (b := b) 0 a0 (Nat.le_refl _) (Nat.lt_succ_self _)).set (b := b) 1 a1 (Nat.le_refl _) (Nat.lt_succ_self _)).set (b := b) 2 a2 (Nat.le_refl _) (Nat.lt_succ_self _)).set (b := b) 3 a3 (Nat.le_refl _) (Nat.lt_succ_self _)).set (b := b) 4 a4 (Nat.le_refl _) (Nat.lt_succ_self _)).set (b := b) 5 a5 (Nat.le_refl _) (Nat.lt_succ_self _)).set (b := b) 6 a6 (Nat.le_refl _) (Nat.lt_succ_self _)).set (b := b) 7 a7 (Nat.le_refl _) (Nat.lt_succ_self _))
set_option maxRecDepth 100000 in
theorem one8 (a b c d e : ByteArray) (x y z : Int) : #[Value.int .i64 x, .string a, .string b, .string c, .string d, .string e, .int .i64 y, .int .i64 z].all (·.oneCell') = true := by
  simp
  exact ⟨rfl, rfl, rfl, rfl, rfl, rfl, rfl, rfl⟩
set_option maxRecDepth 100000 in
theorem load8r {V : World} {b : Nat} {cs : List Value} (h : bk V b 37 cs) : V.rangeAt b 0 cs := fun j v hv => by rw [Nat.zero_add, h.cell j]; exact hv
end Go.Proofs.YtiolebpoofkpmaaGreatDoor
