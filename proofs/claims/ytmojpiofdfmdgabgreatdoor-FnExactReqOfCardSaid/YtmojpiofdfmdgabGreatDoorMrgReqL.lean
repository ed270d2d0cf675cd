/- ok of the amount, auth and move requests of the program; the table of operations lies as Go's text lays it. -/
import Derived.Test.YtmojpiofdfmdgabGreatDoorMrgReqJ
set_option linter.unusedVariables false
set_option linter.unusedSimpArgs false
namespace Go.Proofs.YtmojpiofdfmdgabGreatDoor
open Go.ChangeShapes Go.WideShapes Go.ChangeAt Go.RowKit

set_option maxRecDepth 100000 in
set_option maxHeartbeats 1600000 in
theorem amtOkR_any (op : Int) (acct trace hold : ByteArray) (amount : Int) (w : World) (hO : opsIn w) (hs1 : acct.size ≤ maxLen) (hs3 : hold.size ≤ maxLen) (hs4 : trace.size ≤ maxLen) :
    Calls Tryz.prog 193 #[.agg #[.int .i64 op, .string acct, .string trace, .string hold, .int .i64 amount]] w fun e w' => e = .returned (.bool ((plainB op acct trace && idOk hold) && decide (0 ≤ amount ∧ amount ≤ 999999999999))) ∧ Below w.heap.size w w' := by
  have HP := Lib.hid (fun V (hV : Below w.heap.size w V) => holdOkR_any op acct trace hold V (hO.below hV) hs1 hs3 hs4)
  generalize (plainB op acct trace && idOk hold) = b1 at HP ⊢
  clear hO hs1 hs4 hs3
  have HB0 : Hid (∀ o, Below w.heap.size w (w.alloc o)) := Lib.hid fun o => (Below.refl _ _).alloc (Nat.le_refl _) o
  go_enter Tryz.func193, Tryz.ntmps193
  go_upto_region 1 with fail
  obtain ⟨W, hW⟩ : ∃ W, W = w.alloc (.cells #[.int .i64 op, .string acct, .string trace, .string hold, .int .i64 amount] 85) := ⟨_, rfl⟩
  have b0 : bk W w.heap.size 85 [.int .i64 op, .string acct, .string trace, .string hold, .int .i64 amount] := by rw [hW]; exact bk.new w _ _
  have HB : Hid (Below w.heap.size w W) := Lib.hid (by rw [hW]; exact HB0.out _)
  have z0 := b0.lt
  rw [← hW]
  clear hW
  have B0 := Lib.hid b0
  have p0 := b0.cell 0
  have p1 := b0.cell 1
  have p2 := b0.cell 2
  have p3 := b0.cell 3
  have p4 := b0.cell 4
  clear b0
  go_wp2_with fail
  refine (HP.out W HB.out).mono ?_
  rintro e w1 ⟨rfl, hb1⟩
  have z1 := hb1.size
  have HB1 : Hid (Below w.heap.size w w1) := Lib.hid (HB.out.trans (hb1.mono (by omega)))
  have B1 := Lib.hid (B0.out.below hb1 z0)
  clear hb1 p0 p1 p2 p3 p4 B0 HB
  have pz := B1.out.cell 4
  cases b1
  · go_wp2
    go_ret
    exact ⟨rfl, HB1.out⟩
  by_cases e1 : 0 ≤ amount
  · by_cases e2 : amount ≤ 999999999999
    all_goals
      go_wp2
      go_ret
      exact ⟨by first | (simp [e1, e2]; done) | (simp [e1]; omega), HB1.out⟩
  · go_wp2
    go_ret
    exact ⟨by simp; omega, HB1.out⟩

set_option maxRecDepth 100000 in
set_option maxHeartbeats 1600000 in
theorem authOkR_any (op : Int) (acct trace hold : ByteArray) (amount : Int) (ttl : Int) (w : World) (hO : opsIn w) (hs1 : acct.size ≤ maxLen) (hs3 : hold.size ≤ maxLen) (hs4 : trace.size ≤ maxLen) :
    Calls Tryz.prog 196 #[.agg #[.int .i64 op, .string acct, .string trace, .string hold, .int .i64 amount, .int .i64 ttl]] w fun e w' => e = .returned (.bool (((plainB op acct trace && idOk hold) && decide (0 ≤ amount ∧ amount ≤ 999999999999)) && decide (0 ≤ ttl ∧ ttl ≤ 9999))) ∧ Below w.heap.size w w' := by
  have HP := Lib.hid (fun V (hV : Below w.heap.size w V) => amtOkR_any op acct trace hold amount V (hO.below hV) hs1 hs3 hs4)
  generalize ((plainB op acct trace && idOk hold) && decide (0 ≤ amount ∧ amount ≤ 999999999999)) = b1 at HP ⊢
  clear hO hs1 hs4 hs3
  have HB0 : Hid (∀ o, Below w.heap.size w (w.alloc o)) := Lib.hid fun o => (Below.refl _ _).alloc (Nat.le_refl _) o
  go_enter Tryz.func196, Tryz.ntmps196
  go_upto_region 1 with fail
  obtain ⟨W, hW⟩ : ∃ W, W = w.alloc (.cells #[.int .i64 op, .string acct, .string trace, .string hold, .int .i64 amount, .int .i64 ttl] 87) := ⟨_, rfl⟩
  have b0 : bk W w.heap.size 87 [.int .i64 op, .string acct, .string trace, .string hold, .int .i64 amount, .int .i64 ttl] := by rw [hW]; exact bk.new w _ _
  have HB : Hid (Below w.heap.size w W) := Lib.hid (by rw [hW]; exact HB0.out _)
  have z0 := b0.lt
  rw [← hW]
  clear hW
  have B0 := Lib.hid b0
  have p0 := b0.cell 0
  have p1 := b0.cell 1
  have p2 := b0.cell 2
  have p3 := b0.cell 3
  have p4 := b0.cell 4
  have p5 := b0.cell 5
  clear b0
  go_wp2_with fail
  refine (HP.out W HB.out).mono ?_
  rintro e w1 ⟨rfl, hb1⟩
  have z1 := hb1.size
  have HB1 : Hid (Below w.heap.size w w1) := Lib.hid (HB.out.trans (hb1.mono (by omega)))
  have B1 := Lib.hid (B0.out.below hb1 z0)
  clear hb1 p0 p1 p2 p3 p4 p5 B0 HB
  have pz := B1.out.cell 5
  cases b1
  · go_wp2
    go_ret
    exact ⟨rfl, HB1.out⟩
  by_cases e1 : 0 ≤ ttl
  · by_cases e2 : ttl ≤ 9999
    all_goals
      go_wp2
      go_ret
      exact ⟨by first | (simp [e1, e2]; done) | (simp [e1]; omega), HB1.out⟩
  · go_wp2
    go_ret
    exact ⟨by simp; omega, HB1.out⟩

set_option maxRecDepth 100000 in
set_option maxHeartbeats 1600000 in
theorem moveOkR_any (op : Int) (acct trace hold other : ByteArray) (w : World) (hO : opsIn w) (hs1 : acct.size ≤ maxLen) (hs3 : hold.size ≤ maxLen) (hs4 : trace.size ≤ maxLen) (hs2 : other.size ≤ maxLen) :
    Calls Tryz.prog 198 #[.agg #[.int .i64 op, .string acct, .string trace, .string hold, .string other]] w fun e w' => e = .returned (.bool ((plainB op acct trace && idOk hold) && acctIdB other)) ∧ Below w.heap.size w w' := by
  have HP := Lib.hid (fun V (hV : Below w.heap.size w V) => holdOkR_any op acct trace hold V (hO.below hV) hs1 hs3 hs4)
  have HI := Lib.hid (fun V => implAcctIdOk_any other V hs2)
  generalize (plainB op acct trace && idOk hold) = b1 at HP ⊢
  generalize acctIdB other = b2 at HI ⊢
  clear hO hs1 hs4 hs3 hs2
  have HB0 : Hid (∀ o, Below w.heap.size w (w.alloc o)) := Lib.hid fun o => (Below.refl _ _).alloc (Nat.le_refl _) o
  go_enter Tryz.func198, Tryz.ntmps198
  go_upto_region 1 with fail
  obtain ⟨W, hW⟩ : ∃ W, W = w.alloc (.cells #[.int .i64 op, .string acct, .string trace, .string hold, .string other] 89) := ⟨_, rfl⟩
  have b0 : bk W w.heap.size 89 [.int .i64 op, .string acct, .string trace, .string hold, .string other] := by rw [hW]; exact bk.new w _ _
  have HB : Hid (Below w.heap.size w W) := Lib.hid (by rw [hW]; exact HB0.out _)
  have z0 := b0.lt
  rw [← hW]
  clear hW
  have B0 := Lib.hid b0
  have p0 := b0.cell 0
  have p1 := b0.cell 1
  have p2 := b0.cell 2
  have p3 := b0.cell 3
  have p4 := b0.cell 4
  clear b0
  go_wp2_with fail
  refine (HP.out W HB.out).mono ?_
  rintro e w1 ⟨rfl, hb1⟩
  have z1 := hb1.size
  have HB1 : Hid (Below w.heap.size w w1) := Lib.hid (HB.out.trans (hb1.mono (by omega)))
  have B1 := Lib.hid (B0.out.below hb1 z0)
  clear hb1 p0 p1 p2 p3 p4 B0 HB
  have pz := B1.out.cell 4
  cases b1
  · go_wp2
    go_ret
    exact ⟨rfl, HB1.out⟩
  go_wp2_with fail
  refine (HI.out w1).mono ?_
  rintro e w2 ⟨rfl, hb2⟩
  have HB2 : Hid (Below w.heap.size w w2) := Lib.hid (HB1.out.trans (hb2.mono (by omega)))
  go_wp2
  go_ret
  exact ⟨rfl, HB2.out⟩
end Go.Proofs.YtmojpiofdfmdgabGreatDoor
