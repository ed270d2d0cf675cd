/- l11Which of the reference; the text has two bytes at least. -/
import Derived.Test.YtiolebpoofkpmaaGreatDoorMrp8
import Derived.Test.YtiolebpoofkpmaaGreatDoorMrp4
import Derived.Test.YtiolebpoofkpmaaGreatDoorMrp3
import Derived.Test.YtiolebpoofkpmaaGreatDoorMrp2
import Derived.Test.YtiolebpoofkpmaaGreatDoorMrp1
import Derived.Laws.AppendOwn
import Derived.Laws.AppendOwnNone
import Derived.OwnWalk
import Derived.RegionTactic
import Derived.WalkLawsBesides
import Derived.Deep.Cut
import Derived.Test.YtiolebpoofkpmaaGreatDoorMrp7
import Derived.Lib.Bytealg
set_option linter.unusedVariables false
namespace Go.Proofs.YtiolebpoofkpmaaGreatDoor
open Go.ChangeShapes Go.WideShapes Go.ChangeAt Go.RowKit

set_option maxRecDepth 100000 in
set_option maxHeartbeats 8000000 in
theorem l11Which_any (a s : ByteArray) (w : World) (h2 : 2 ≤ s.size) (hs : s.size ≤ maxLen) : Calls Tryz.prog 24 #[.string a, .string s] w fun e w' => e = .returned (.int .i64 (whichL a (s.extract 0 2))) ∧ Below w.heap.size w w' := by
  have h2' : (2 : Int) ≤ (s.size : Int) := by omega
  have HSZ := Lib.hid hs
  unfold maxLen at hs
  generalize hc : s.extract 0 2 = c
  go_enter Tryz.func24, Tryz.ntmps24
  go_wp2
  go_loopw [5] (fun iv wr => ∃ i : Nat, 1 ≤ i ∧ i ≤ 9 ∧ iv = .int .i64 i ∧ Hid (∀ j : Int, 1 ≤ j → j < i → ¬ (opTxt 0 j = a ∧ opTxt 1 j = c)) ∧ Hid (Below w.heap.size w wr) ∧ w.heap.size ≤ wr.heap.size) (fun iv _ => 9 - (intOf iv).toNat)
  case atStart => exact ⟨1, Nat.le_refl _, by omega, rfl, Lib.hid (fun j h1 h2 => absurd h2 (by omega)), Lib.hid (Below.refl _ _), Nat.le_refl _⟩
  case round =>
    obtain ⟨i, hi1, hi, rfl, HN, HB, hz⟩ := hrel
    by_cases hin : i < 9
    · have g1 : (i : Int) ≤ 8 := by omega
      by_cases e1 : opTxt 0 (i : Int) = a
      · have e1' : ((opTxt 0 (i : Int)).toList == a.toList) = true := by rw [beq_iff_eq, e1]
        by_cases e2 : opTxt 1 (i : Int) = c
        · have e2' : ((opTxt 1 (i : Int)).toList == (s.extract 0 2).toList) = true := by rw [beq_iff_eq, e2, hc]
          have HR : Hid (whichL a c = i) := Lib.hid (by rw [← e1, ← e2]; exact which_hit (by omega))
          clear e1 e2 hc
          go_upto_region 4 with fail
          have HX : Hid (Ext wr wr.drew) := Lib.hid (Ext.refl wr).drew
          refine quiet_region (C := Ext wr) (by kernel_rfl) (by kernel_rfl) HX.out ?_
          repeat (first
            | go_big_quiet_skip
            | (go_big_quiet_want; go_big_quiet_op; go_big_quiet_on)
            | (go_big_quiet_want; go_big_quiet_op; apply Exists.intro; refine ⟨fun _ _ => rfl, ?_⟩; go_big_quiet_on)
            | (go_big_quiet_want
               apply Exists.intro
               refine ⟨fun V hV => ?_, ?_⟩
               (unfold Oper.quietAt
                go_simp
                go_at_call 47
                refine (specOpMti_any i V).mono ?_
                rintro e w4 ⟨rfl, hb⟩
                exact ⟨rfl, hV.step hb⟩)
               simp only [Act.put, List.setIfInBounds_toArray, List.set_cons_zero, List.set_cons_succ]
               go_big_quiet_on)
            | (go_big_quiet_want
               apply Exists.intro
               refine ⟨fun V hV => ?_, ?_⟩
               (unfold Oper.quietAt
                go_simp
                go_at_call 48
                refine (specOpCode_any i V).mono ?_
                rintro e w4 ⟨rfl, hb⟩
                exact ⟨rfl, hV.step hb⟩)
               simp only [Act.put, List.setIfInBounds_toArray, List.set_cons_zero, List.set_cons_succ]
               go_big_quiet_on)
            | fail)
          refine wpQuiet_nil ?_
          intro w2 hw2
          have z2 : wr.heap.size ≤ w2.heap.size := hw2.below.size
          have HB2 : Hid (Below w.heap.size w w2) := Lib.hid (HB.out.trans (hw2.below.mono hz))
          clear hw2
          go_wp2
          go_ret
          exact ⟨by rw [HR.out]; rfl, HB2.out⟩
        · have e2' : ((opTxt 1 (i : Int)).toList == (s.extract 0 2).toList) = false := str_no (by rw [hc]; exact e2)
          have HE : Hid (¬ (opTxt 0 (i : Int) = a ∧ opTxt 1 (i : Int) = c)) := Lib.hid fun h => e2 h.2
          clear e1 e2 hc
          go_upto_region 4 with fail
          have HX : Hid (Ext wr wr.drew) := Lib.hid (Ext.refl wr).drew
          refine quiet_region (C := Ext wr) (by kernel_rfl) (by kernel_rfl) HX.out ?_
          repeat (first
            | go_big_quiet_skip
            | (go_big_quiet_want; go_big_quiet_op; go_big_quiet_on)
            | (go_big_quiet_want; go_big_quiet_op; apply Exists.intro; refine ⟨fun _ _ => rfl, ?_⟩; go_big_quiet_on)
            | (go_big_quiet_want
               apply Exists.intro
               refine ⟨fun V hV => ?_, ?_⟩
               (unfold Oper.quietAt
                go_simp
                go_at_call 47
                refine (specOpMti_any i V).mono ?_
                rintro e w4 ⟨rfl, hb⟩
                exact ⟨rfl, hV.step hb⟩)
               simp only [Act.put, List.setIfInBounds_toArray, List.set_cons_zero, List.set_cons_succ]
               go_big_quiet_on)
            | (go_big_quiet_want
               apply Exists.intro
               refine ⟨fun V hV => ?_, ?_⟩
               (unfold Oper.quietAt
                go_simp
                go_at_call 48
                refine (specOpCode_any i V).mono ?_
                rintro e w4 ⟨rfl, hb⟩
                exact ⟨rfl, hV.step hb⟩)
               simp only [Act.put, List.setIfInBounds_toArray, List.set_cons_zero, List.set_cons_succ]
               go_big_quiet_on)
            | fail)
          refine wpQuiet_nil ?_
          intro w2 hw2
          have z2 : wr.heap.size ≤ w2.heap.size := hw2.below.size
          have HB2 : Hid (Below w.heap.size w w2) := Lib.hid (HB.out.trans (hw2.below.mono hz))
          clear hw2
          go_wp2
          go_roundw
          case rel => exact ⟨i + 1, by omega, by omega, by go_num, Lib.hid (fun j h1 h2 => by
            rcases Int.lt_or_le j i with h | h
            · exact HN.out j h1 h
            · obtain rfl : j = i := by omega
              exact HE.out), HB2, Nat.le_trans hz z2⟩
          case measure => simp [intOf] <;> omega
      · have e1' : ((opTxt 0 (i : Int)).toList == a.toList) = false := str_no e1
        have HE : Hid (¬ (opTxt 0 (i : Int) = a ∧ opTxt 1 (i : Int) = c)) := Lib.hid fun h => e1 h.1
        clear e1
        go_upto_region 4 with fail
        have HX : Hid (Ext wr wr.drew) := Lib.hid (Ext.refl wr).drew
        refine quiet_region (C := Ext wr) (by kernel_rfl) (by kernel_rfl) HX.out ?_
        repeat (first
          | go_big_quiet_skip
          | (go_big_quiet_want; go_big_quiet_op; go_big_quiet_on)
          | (go_big_quiet_want; go_big_quiet_op; apply Exists.intro; refine ⟨fun _ _ => rfl, ?_⟩; go_big_quiet_on)
          | (go_big_quiet_want
             apply Exists.intro
             refine ⟨fun V hV => ?_, ?_⟩
             (unfold Oper.quietAt
              go_simp
              go_at_call 47
              refine (specOpMti_any i V).mono ?_
              rintro e w4 ⟨rfl, hb⟩
              exact ⟨rfl, hV.step hb⟩)
             simp only [Act.put, List.setIfInBounds_toArray, List.set_cons_zero, List.set_cons_succ]
             go_big_quiet_on)
          | (go_big_quiet_want
             apply Exists.intro
             refine ⟨fun V hV => ?_, ?_⟩
             (unfold Oper.quietAt
              go_simp
              go_at_call 48
              refine (specOpCode_any i V).mono ?_
              rintro e w4 ⟨rfl, hb⟩
              exact ⟨rfl, hV.step hb⟩)
             simp only [Act.put, List.setIfInBounds_toArray, List.set_cons_zero, List.set_cons_succ]
             go_big_quiet_on)
          | fail)
        refine wpQuiet_nil ?_
        intro w2 hw2
        have z2 : wr.heap.size ≤ w2.heap.size := hw2.below.size
        have HB2 : Hid (Below w.heap.size w w2) := Lib.hid (HB.out.trans (hw2.below.mono hz))
        clear hw2
        go_wp2
        go_roundw
        case rel => exact ⟨i + 1, by omega, by omega, by go_num, Lib.hid (fun j h1 h2 => by
          rcases Int.lt_or_le j i with h | h
          · exact HN.out j h1 h
          · obtain rfl : j = i := by omega
            exact HE.out), HB2, Nat.le_trans hz z2⟩
        case measure => simp [intOf] <;> omega
    · obtain rfl : i = 9 := by omega
      have HR := Lib.hid (which_none HN.out)
      go_wp2
      go_ret
      exact ⟨by rw [HR.out]; rfl, HB.out⟩
end Go.Proofs.YtiolebpoofkpmaaGreatDoor
set_option linter.unusedVariables false
namespace Go.Proofs.YtiolebpoofkpmaaGreatDoor
open Go.ChangeShapes Go.WideShapes Go.ChangeAt Go.RowKit

set_option maxRecDepth 100000 in
set_option maxHeartbeats 8000000 in
theorem requestOf_plain (op : Int) (hop : op < 1 ∨ 6 < op) (acct other hold trace mti : ByteArray) (amount ttl : Int) (w : World) :
    Calls Tryz.prog 59 #[.agg #[.int .i64 op, .string acct, .string other, .string hold, .string trace, .string mti, .int .i64 amount, .int .i64 ttl]] w fun e w' => e = .returned (.iface 85 (.agg #[.int .i64 op, .string acct, .string trace])) ∧ Below w.heap.size w w' := by
  have n1 : (op == 1) = false := by simp; omega
  have n2 : (op == 2) = false := by simp; omega
  have n3 : (op == 3) = false := by simp; omega
  have n4 : (op == 4) = false := by simp; omega
  have n5 : (op == 5) = false := by simp; omega
  have n6 : (op == 6) = false := by simp; omega
  clear hop
  have HB : Hid (∀ o1 o2 o3 o4, Below w.heap.size w ((((w.alloc o1).alloc o2).alloc o3).alloc o4)) := Lib.hid fun o1 o2 o3 o4 => (((((Below.refl _ _).alloc (Nat.le_refl _) o1).alloc (by simp) o2).alloc (by simp; omega) o3).alloc (by simp; omega) o4)
  go_enter Tryz.func59, Tryz.ntmps59
  go_wp2
  go_ret
  exact ⟨rfl, HB.out _ _ _ _⟩
set_option maxRecDepth 100000 in
set_option maxHeartbeats 8000000 in
theorem requestOf_free (acct other hold trace mti : ByteArray) (amount ttl : Int) (w : World) :
    Calls Tryz.prog 59 #[.agg #[.int .i64 5, .string acct, .string other, .string hold, .string trace, .string mti, .int .i64 amount, .int .i64 ttl]] w fun e w' => e = .returned (.iface 87 (.agg #[.int .i64 5, .string acct, .string trace, .string hold])) ∧ Below w.heap.size w w' := by
  have HB : Hid (∀ o1 o2 o3 o4, Below w.heap.size w ((((w.alloc o1).alloc o2).alloc o3).alloc o4)) := Lib.hid fun o1 o2 o3 o4 => (((((Below.refl _ _).alloc (Nat.le_refl _) o1).alloc (by simp) o2).alloc (by simp; omega) o3).alloc (by simp; omega) o4)
  go_enter Tryz.func59, Tryz.ntmps59
  go_wp2
  go_ret
  exact ⟨rfl, HB.out _ _ _ _⟩
set_option maxRecDepth 100000 in
set_option maxHeartbeats 8000000 in
theorem requestOf_amt (op : Int) (hop : op = 2 ∨ op = 3 ∨ op = 4) (acct other hold trace mti : ByteArray) (amount ttl : Int) (w : World) :
    Calls Tryz.prog 59 #[.agg #[.int .i64 op, .string acct, .string other, .string hold, .string trace, .string mti, .int .i64 amount, .int .i64 ttl]] w fun e w' => e = .returned (.iface 89 (.agg #[.int .i64 op, .string acct, .string trace, .string hold, .int .i64 amount])) ∧ Below w.heap.size w w' := by
  rcases hop with rfl | rfl | rfl
  all_goals have HB : Hid (∀ o1 o2 o3 o4, Below w.heap.size w ((((w.alloc o1).alloc o2).alloc o3).alloc o4)) := Lib.hid fun o1 o2 o3 o4 => (((((Below.refl _ _).alloc (Nat.le_refl _) o1).alloc (by simp) o2).alloc (by simp; omega) o3).alloc (by simp; omega) o4)
  all_goals go_enter Tryz.func59, Tryz.ntmps59
  all_goals go_wp2
  all_goals go_ret
  all_goals exact ⟨rfl, HB.out _ _ _ _⟩
set_option maxRecDepth 100000 in
set_option maxHeartbeats 8000000 in
theorem requestOf_auth (acct other hold trace mti : ByteArray) (amount ttl : Int) (w : World) :
    Calls Tryz.prog 59 #[.agg #[.int .i64 1, .string acct, .string other, .string hold, .string trace, .string mti, .int .i64 amount, .int .i64 ttl]] w fun e w' => e = .returned (.iface 91 (.agg #[.int .i64 1, .string acct, .string trace, .string hold, .int .i64 amount, .int .i64 ttl])) ∧ Below w.heap.size w w' := by
  have HB : Hid (∀ o1 o2 o3 o4, Below w.heap.size w ((((w.alloc o1).alloc o2).alloc o3).alloc o4)) := Lib.hid fun o1 o2 o3 o4 => (((((Below.refl _ _).alloc (Nat.le_refl _) o1).alloc (by simp) o2).alloc (by simp; omega) o3).alloc (by simp; omega) o4)
  go_enter Tryz.func59, Tryz.ntmps59
  go_wp2
  go_ret
  exact ⟨rfl, HB.out _ _ _ _⟩
set_option maxRecDepth 100000 in
set_option maxHeartbeats 8000000 in
theorem requestOf_move (acct other hold trace mti : ByteArray) (amount ttl : Int) (w : World) :
    Calls Tryz.prog 59 #[.agg #[.int .i64 6, .string acct, .string other, .string hold, .string trace, .string mti, .int .i64 amount, .int .i64 ttl]] w fun e w' => e = .returned (.iface 93 (.agg #[.int .i64 6, .string acct, .string trace, .string hold, .string other])) ∧ Below w.heap.size w w' := by
  have HB : Hid (∀ o1 o2 o3 o4, Below w.heap.size w ((((w.alloc o1).alloc o2).alloc o3).alloc o4)) := Lib.hid fun o1 o2 o3 o4 => (((((Below.refl _ _).alloc (Nat.le_refl _) o1).alloc (by simp) o2).alloc (by simp; omega) o3).alloc (by simp; omega) o4)
  go_enter Tryz.func59, Tryz.ntmps59
  go_wp2
  go_ret
  exact ⟨rfl, HB.out _ _ _ _⟩
end Go.Proofs.YtiolebpoofkpmaaGreatDoor
set_option linter.unusedVariables false
namespace Go.Proofs.YtiolebpoofkpmaaGreatDoor
open Go.ChangeShapes Go.WideShapes Go.ChangeAt Go.RowKit

def opRowV (op : Int) : Value := .agg #[.string (opTxt 0 op), .string (opTxt 1 op), .string (opTxt 2 op)]
set_option maxRecDepth 100000 in
theorem opAt_any (op : Int) (w : World) (hO : opsIn w) : Calls Tryz.prog 81 #[.int .i64 op] w fun e w' => e = .returned (opRowV op) ∧ Below w.heap.size w w' := by
  by_cases h0 : op < 0
  · have HR : Hid (opRowV op = .agg #[.string ⟨#[]⟩, .string ⟨#[]⟩, .string ⟨#[]⟩]) := Lib.hid (by unfold opRowV; rw [opTxt_neg 0 h0, opTxt_neg 1 h0, opTxt_neg 2 h0])
    rw [HR.out]
    clear hO
    go_enter Tryz.func81, Tryz.ntmps81
    go_wp2
    exact bodyPost_ret (v := .agg #[.string ⟨#[]⟩, .string ⟨#[]⟩, .string ⟨#[]⟩]) (by simp [results, Tryz.results81, go_sem]) rfl ⟨rfl, by first | exact (((Below.refl _ _).alloc (Nat.le_refl _) _).set _ _ (by simp)) | exact ((Below.refl _ _).alloc (Nat.le_refl _) _)⟩
  · by_cases h9 : 9 ≤ op
    · have HR : Hid (opRowV op = .agg #[.string ⟨#[]⟩, .string ⟨#[]⟩, .string ⟨#[]⟩]) := Lib.hid (by unfold opRowV; rw [opTxt_out 0 (by omega), opTxt_out 1 (by omega), opTxt_out 2 (by omega)])
      rw [HR.out]
      clear hO
      go_enter Tryz.func81, Tryz.ntmps81
      go_wp2
      exact bodyPost_ret (v := .agg #[.string ⟨#[]⟩, .string ⟨#[]⟩, .string ⟨#[]⟩]) (by simp [results, Tryz.results81, go_sem]) rfl ⟨rfl, ((Below.refl _ _).alloc (Nat.le_refl _) _)⟩
    · obtain ⟨i, rfl⟩ := Int.eq_ofNat_of_zero_le (show 0 ≤ op by omega)
      have HR : Hid (opRowV (i : Int) = .agg #[.string ⟨(opB 0 i).toArray⟩, .string ⟨(opB 1 i).toArray⟩, .string ⟨(opB 2 i).toArray⟩]) := Lib.hid (by unfold opRowV; rw [opTxt_nat, opTxt_nat, opTxt_nat])
      rw [HR.out]
      have hlt := hO.lt
      have c0 := hO i 0 (by omega) (by omega)
      have c1 := hO i 1 (by omega) (by omega)
      have c2 := hO i 2 (by omega) (by omega)
      rw [Nat.add_zero] at c0
      have g0 : 0 ≤ (i : Int) := by omega
      have g1 : (i : Int) < 9 := by omega
      clear hO h9 h0
      go_enter Tryz.func81, Tryz.ntmps81
      go_wp2
      exact bodyPost_ret (v := .agg #[.string ⟨(opB 0 i).toArray⟩, .string ⟨(opB 1 i).toArray⟩, .string ⟨(opB 2 i).toArray⟩]) (by simp [results, Tryz.results81, go_sem]) rfl ⟨rfl, ((Below.refl _ _).alloc (Nat.le_refl _) _)⟩
set_option maxRecDepth 100000 in
theorem opRow_f0 (a b c : ByteArray) (w : World) : (Instr.field 111 (.agg #[.string a, .string b, .string c]) 0).run Tryz.prog w = .ok (.string a) w := by rfl
set_option maxRecDepth 100000 in
theorem opRow_f2 (a b c : ByteArray) (w : World) : (Instr.field 111 (.agg #[.string a, .string b, .string c]) 2).run Tryz.prog w = .ok (.string c) w := by rfl
set_option maxRecDepth 100000 in
theorem implOpMti_any (op : Int) (w : World) (hO : opsIn w) : Calls Tryz.prog 64 #[.int .i64 op] w fun e w' => e = .returned (.string (opTxt 0 op)) ∧ Below w.heap.size w w' := by
  go_enter Tryz.func64, Tryz.ntmps64
  go_wp2_with fail
  refine (opAt_any op _ hO).mono ?_
  rintro e w1 ⟨rfl, hb⟩
  unfold opRowV
  have hf := opRow_f0 (opTxt 0 op) (opTxt 1 op) (opTxt 2 op)
  go_wp2
  go_ret
  exact ⟨rfl, hb⟩
set_option maxRecDepth 100000 in
theorem implOpName_any (op : Int) (w : World) (hO : opsIn w) : Calls Tryz.prog 199 #[.int .i64 op] w fun e w' => e = .returned (.string (opTxt 2 op)) ∧ Below w.heap.size w w' := by
  go_enter Tryz.func199, Tryz.ntmps199
  go_wp2_with fail
  refine (opAt_any op _ hO).mono ?_
  rintro e w1 ⟨rfl, hb⟩
  unfold opRowV
  have hf := opRow_f2 (opTxt 0 op) (opTxt 1 op) (opTxt 2 op)
  go_wp2
  go_ret
  exact ⟨rfl, hb⟩
end Go.Proofs.YtiolebpoofkpmaaGreatDoor
set_option linter.unusedVariables false
namespace Go.Proofs.YtiolebpoofkpmaaGreatDoor
open Go.ChangeShapes Go.WideShapes Go.ChangeAt Go.RowKit

/-- the blocks of the elements lie one after the other -/
structure Steps (m : Nat → Nat) (n : Nat) : Prop where
  up : ∀ j, j < n → m j ≤ m (j + 1)
set_option maxRecDepth 100000 in
theorem Steps.le {m : Nat → Nat} {n : Nat} (h : Steps m n) {j : Nat} : ∀ {k : Nat}, j ≤ k → k ≤ n → m j ≤ m k
  | 0, hj, _ => by obtain rfl : j = 0 := by omega
                   exact Nat.le_refl _
  | k + 1, hj, hk => by
    rcases Nat.lt_or_ge j (k + 1) with h1 | h1
    · exact Nat.le_trans (h.le (j := j) (k := k) (by omega) (by omega)) (h.up k (by omega))
    · obtain rfl : j = k + 1 := by omega
      exact Nat.le_refl _
set_option maxRecDepth 100000 in
theorem filled.congr {w : World} {b off k n i : Nat} {E E' : Nat → List Value} (h : filled w b off k n i E) (he : ∀ j, j < i → E' j = E j) : filled w b off k n i E' :=
  ⟨h.room, fun j hj => by rw [he j hj]; exact h.at_ j hj⟩
set_option maxRecDepth 100000 in
theorem rows_mine2 {α : Type} {R : Rep α} {lo hi b off c n : Nat} {w : World} {l : List α} {E : Nat → List Value} {p q : Nat → Nat} (hn : n = l.length) (hc : n ≤ c) (h1 : lo ≤ b) (h2 : b < hi) (hord : ∀ i j, i < j → j < n → q i ≤ p j) (hb : ∀ j, j < n → b < p j ∨ q j ≤ b) (hbs : ∀ j, j < n → lo ≤ p j ∧ q j ≤ hi)
    (hat : filled w b off R.k n n E) (h : ∀ j x, l[j]? = some x → R.mine (p j) (q j) w (E j) x) : R.slice.mine lo hi w [.slice (some ⟨b, off, none⟩) n c] l := by
  subst hn
  have hF : ∀ j : Nat, ∃ F : List Nat, ∀ x, l[j]? = some x → R.own w (E j) x F ∧ F.Nodup ∧ ∀ b ∈ F, p j ≤ b ∧ b < q j := fun j => by
    cases hx : l[j]? with
    | none => exact ⟨[], fun x h => by cases h⟩
    | some y =>
      obtain ⟨F, hF⟩ := h j y hx
      exact ⟨F, fun x h => by cases h; exact hF⟩
  let F : Nat → List Nat := fun j => Classical.choose (hF j)
  have hFs : ∀ j x, l[j]? = some x → R.own w (E j) x (F j) ∧ (F j).Nodup ∧ ∀ b ∈ F j, p j ≤ b ∧ b < q j := fun j => Classical.choose_spec (hF j)
  have hgt : ∀ (j : Nat) (hj : j < l.length), R.own w (E j) (l[j]'hj) (F j) ∧ (F j).Nodup ∧ ∀ b ∈ F j, p j ≤ b ∧ b < q j := fun j hj => hFs j _ (List.getElem?_eq_getElem hj)
  have hin : ∀ x ∈ List.flatten ((List.range l.length).map F), ∃ j, j < l.length ∧ p j ≤ x ∧ x < q j := fun x hx => by
    obtain ⟨G, hG, hxG⟩ := List.mem_flatten.1 hx
    obtain ⟨j, hj, rfl⟩ := List.mem_map.1 hG
    have hj' := List.mem_range.1 hj
    exact ⟨j, hj', (hgt j hj').2.2 x hxG⟩
  refine ⟨b :: List.flatten ((List.range l.length).map F), ⟨some ⟨b, off, none⟩, c, rfl, hc, .inr ⟨b, off, _, rfl, rfl, by simp, fun j x G hx hG => ?_⟩⟩, ?_, ?_⟩
  · have hj := (List.getElem?_eq_some_iff.1 hx).1
    have hG' : G = F j := by
      rw [List.getElem?_map, List.getElem?_range hj] at hG
      exact (Option.some.inj hG).symm
    subst hG'
    exact ⟨E j, (hFs j x hx).1, hat.at_ j hj, fun t ht => (hat.cells hj t ht).2⟩
  · rw [List.nodup_cons]
    refine ⟨fun hx => by obtain ⟨j, hj, h3⟩ := hin b hx; have := hb j hj; omega, ?_⟩
    rw [List.Nodup, List.pairwise_flatten]
    refine ⟨fun G hG => ?_, ?_⟩
    · obtain ⟨j, hj, rfl⟩ := List.mem_map.1 hG
      exact (hgt j (List.mem_range.1 hj)).2.1
    · rw [List.pairwise_map]
      refine List.Pairwise.imp_of_mem ?_ List.pairwise_lt_range
      intro i j hi' hj' hij x hx y hy
      have h3 := (hgt i (List.mem_range.1 hi')).2.2 x hx
      have h4 := (hgt j (List.mem_range.1 hj')).2.2 y hy
      have h5 := hord i j hij (List.mem_range.1 hj')
      omega
  · intro b' hb'
    rcases List.mem_cons.1 hb' with rfl | hb'
    · exact ⟨h1, h2⟩
    · obtain ⟨j, hj, h3⟩ := hin b' hb'
      have := hbs j hj; omega
set_option maxRecDepth 100000 in
theorem rows_mine {α : Type} {R : Rep α} {lo hi b off c n : Nat} {w : World} {l : List α} {E : Nat → List Value} {m : Nat → Nat} (hn : n = l.length) (hc : n ≤ c) (h1 : lo ≤ b) (h2 : b < m 0) (hm : Steps m n) (hhi : m n ≤ hi)
    (hat : filled w b off R.k n n E) (h : ∀ j x, l[j]? = some x → R.mine (m j) (m (j + 1)) w (E j) x) : R.slice.mine lo hi w [.slice (some ⟨b, off, none⟩) n c] l := by
  refine rows_mine2 (p := m) (q := fun j => m (j + 1)) hn hc h1 ?_ (fun i j hij hj => hm.le (show i + 1 ≤ j by omega) (by omega)) (fun j hj => .inl ?_) (fun j hj => ⟨?_, ?_⟩) hat h
  · have := hm.le (Nat.zero_le n) (Nat.le_refl _); omega
  · have := hm.le (Nat.zero_le j) (by omega); omega
  · have := hm.le (Nat.zero_le j) (by omega); omega
  · have := hm.le (show j + 1 ≤ n by omega) (Nat.le_refl _); omega
end Go.Proofs.YtiolebpoofkpmaaGreatDoor
set_option linter.unusedVariables false
namespace Go.Proofs.YtiolebpoofkpmaaGreatDoor
open Go.ChangeShapes Go.WideShapes Go.ChangeAt Go.RowKit

set_option maxRecDepth 100000 in
theorem infoU8 : (Tryz.prog.info? 5).map (fun i => (i.zero, i.size, i.bytes)) = some (some (.int .u8 0), 1, 1) := by kernel_rfl
set_option maxRecDepth 100000 in
set_option maxHeartbeats 800000 in
theorem eqBytes_any (hi1 hi2 : Nat) (va vb : Value) (l : List Int) (w : World) (hn : l.length ≤ 4611686018427387904) (h1 : rd .u8 hi1 w va l) (h2 : rd .u8 hi2 w vb l) :
    Calls Tryz.prog 8 #[va, vb] w fun e w' => e = .returned (.bool true) ∧ Below w.heap.size w w' := by
  obtain ⟨A1, c1, rfl, -, h1⟩ := h1
  obtain ⟨A2, c2, rfl, -, h2⟩ := h2
  have H1 := Lib.hid h1
  have H2 := Lib.hid h2
  clear h1 h2
  go_enter Tryz.func8, Tryz.ntmps8
  go_wp2
  go_loopw [5] (fun iv wr => ∃ (k : Nat) (q : Nat), k ≤ l.length ∧ iv = .int .i64 k ∧ wr = w.drewN q) (fun iv _ => l.length - (intOf iv).toNat)
  case atStart => exact ⟨0, 0, Nat.zero_le _, rfl, rfl⟩
  case round =>
    obtain ⟨k, q, hk, rfl, rfl⟩ := hrel
    by_cases hlt : k < l.length
    · obtain ⟨b1, o1, rfl, -, x1⟩ := H1.out k hlt
      obtain ⟨b2, o2, rfl, -, x2⟩ := H2.out k hlt
      generalize l.getD k 0 = x at x1 x2
      have g1 : (k : Int) < (l.length : Int) := by omega
      have g2 : 0 ≤ (k : Int) := by omega
      go_wp2
      go_quiet (fail)
      go_wp2
      go_roundw
      case rel => exact ⟨k + 1, _, by omega, by go_num, rfl⟩
      case measure => simp [intOf] <;> omega
    · go_wp2
      go_ret
      exact ⟨rfl, below_drewN (Below.refl _ _) _⟩

set_option maxRecDepth 100000 in
set_option maxHeartbeats 800000 in
theorem markBytes_any (lo hi : Nat) (v : Value) (l : List Int) (k : Int) (w : World) (hn : l.length ≤ 4611686018427387904) (hk0 : 0 ≤ k) (hk1 : k ≤ 4000000000000000000) (hm : nums .u8 lo hi w v l) :
    Calls Tryz.prog 9 #[v, .int .i64 k] w fun e w' => e = .returned (.int .i64 (k + l.length)) ∧ nums .u8 lo hi w' v (marksL (· % 256) k l.length) ∧ w.grownBy w' (blk v) := by
  obtain ⟨A, c, rfl, hc, hm⟩ := hm
  have hm := mkd.start (k := k) (f := (· % 256)) hm
  generalize l.length = n at hn hm hc ⊢
  have HM := Lib.hid hm
  have hkn : k + (n : Int) ≤ 8611686018427387904 := by omega
  clear hm
  go_enter Tryz.func9, Tryz.ntmps9
  go_wp2
  go_loopw [1, 5] (fun kv iv wr => ∃ i : Nat, i ≤ n ∧ iv = .int .i64 i ∧ kv = .int .i64 (k + i) ∧ mkd .u8 (· % 256) lo hi wr A k i n ∧ w.grownBy wr (blk (.slice A n c))) (fun _ iv _ => n - (intOf iv).toNat)
  case atStart => exact ⟨0, Nat.zero_le _, rfl, val_int (by simp), HM.out, grown_refl _ _⟩
  case round =>
    obtain ⟨i, hi, rfl, rfl, hm, hw⟩ := hrel
    have HM := Lib.hid hm
    have HW := Lib.hid hw
    clear hm hw
    by_cases hin : i < n
    · obtain ⟨b, off, rfl, h1, h2, hf, ⟨u, hu⟩, -⟩ := HM.out i hin
      have g1 : (i : Int) < (n : Int) := by omega
      have g2 : 0 ≤ (i : Int) := by omega
      have hb : blk (.slice (some ⟨b, off, none⟩) n c) = some b := by cases n with | zero => omega | succ n => rfl
      have HB := Lib.hid hb
      clear hb
      go_wp2
      go_roundw
      case rel => exact ⟨i + 1, by omega, by go_num, val_int (by omega), HM.out.set hin rfl, by have := HW.out; rw [HB.out] at this ⊢; exact grown_set this _ _⟩
      case measure => simp [intOf] <;> omega
    · obtain rfl : i = n := by omega
      go_wp2
      go_ret
      exact ⟨rfl, HM.out.done hc, HW.out⟩

set_option maxRecDepth 100000 in
set_option maxHeartbeats 800000 in
theorem toBytes_any (hi : Nat) (v : Value) (l : List Int) (w : World) (hn : l.length ≤ 1048576) (h : rd .u8 hi w v l) (hhi : hi ≤ w.heap.size) :
    Calls Tryz.prog 5 #[v] w fun e w' => ∃ u, e = .returned u ∧ nums .u8 w.heap.size w'.heap.size w' u l ∧ Below w.heap.size w w' := by
  obtain ⟨A, c, rfl, hc, h⟩ := h
  have HR := Lib.hid h
  clear h
  have hmk := run_make_row' (P := Tryz.prog) 22 5 (.int .u8 0) 1 Tryz.underlying22 infoU8 rfl .i64 .i64 l.length (by omega) (by omega)
  go_enter Tryz.func5, Tryz.ntmps5
  go_wp2
  go_loopw [4] (fun iv wr => ∃ i : Nat, i ≤ l.length ∧ iv = .int .i64 i ∧ part .u8 w.heap.size 5 l.length wr l i ∧ Below w.heap.size w wr) (fun iv _ => l.length - (intOf iv).toNat)
  case atStart => exact ⟨0, Nat.zero_le _, rfl, part.start (World.rowIs_made w (.int .u8 0) l.length 5), (Below.refl _ _).alloc (Nat.le_refl _) _⟩
  case round =>
    obtain ⟨i, hi, rfl, hp, hb⟩ := hrel
    have HP := Lib.hid hp
    by_cases hin : i < l.length
    · obtain ⟨b, off, rfl, hbl, hcell⟩ := HR.out i hin
      have hcell := (hb.cell (p := ⟨b, off + i, none⟩) (show b < w.heap.size by omega)).trans hcell
      have hdst := World.rowIs.cell hp hin
      rw [if_neg (by omega)] at hdst
      have hfr := World.rowIs.frozen hp i
      clear hp
      have g1 : (i : Int) < (l.length : Int) := by omega
      have g2 : 0 ≤ (i : Int) := by omega
      go_wp2
      go_roundw
      case rel => exact ⟨i + 1, by omega, by go_num, HP.out.set (by rw [List.getD_eq_getElem?_getD, List.getElem?_eq_getElem hin]; rfl), hb.setCell (by simp) _⟩
      case measure => simp [intOf] <;> omega
    · obtain rfl : i = l.length := by omega
      clear hp
      go_wp2
      go_ret
      exact ⟨_, rfl, HP.out.done (Nat.le_refl _), hb⟩
end Go.Proofs.YtiolebpoofkpmaaGreatDoor
set_option linter.unusedVariables false
namespace Go.Proofs.YtiolebpoofkpmaaGreatDoor
open Go.ChangeShapes Go.WideShapes Go.ChangeAt Go.RowKit

set_option maxRecDepth 100000 in
theorem nums.turned {K : IntKind} {lo hi lo' hi' : Nat} {w w' : World} {v : Value} {l : List Int} (h : nums K lo hi w v l) (ht : Turned lo' hi' w w') (h1 : hi ≤ lo' ∨ hi' ≤ lo) (h2 : hi ≤ w.heap.size) : nums K lo hi w' v l := by
  obtain ⟨A, c, rfl, hc, hj⟩ := h
  refine ⟨A, c, rfl, hc, fun j hl => ?_⟩
  obtain ⟨b, off, e, g1, g2, g3, g4⟩ := hj j hl
  have hk := ht.block b (by omega) (by omega)
  exact ⟨b, off, e, g1, g2, (cell_keep hk).trans g3, (frozen_keep hk).trans g4⟩
set_option maxRecDepth 100000 in
theorem rd.turned {K : IntKind} {hi lo' hi' : Nat} {w w' : World} {v : Value} {l : List Int} (h : rd K hi w v l) (ht : Turned lo' hi' w w') (h1 : hi ≤ lo') (h2 : hi ≤ w.heap.size) : rd K hi w' v l := by
  obtain ⟨A, c, rfl, hc, hj⟩ := h
  refine ⟨A, c, rfl, hc, fun j hl => ?_⟩
  obtain ⟨b, off, e, g2, g3⟩ := hj j hl
  have hk := ht.block b (by omega) (by omega)
  exact ⟨b, off, e, g2, (cell_keep hk).trans g3⟩
end Go.Proofs.YtiolebpoofkpmaaGreatDoor
set_option linter.unusedVariables false
namespace Go.Proofs.YtiolebpoofkpmaaGreatDoor
open Go.ChangeShapes Go.WideShapes Go.ChangeAt Go.RowKit

/-- trace, type, reply -/
abbrev SlotD := ByteArray × ByteArray × List Int
def BytesR : Rep (List Int) := (Rep.int .u8).slice
def SlotR : Rep SlotD := Rep.pair Rep.str (Rep.pair Rep.str BytesR)
def SlotsR : Rep (List SlotD) := SlotR.slice
set_option maxRecDepth 100000 in
/-- numbers of one's own as such a row -/
theorem nums_rep {K : IntKind} {lo hi : Nat} {w : World} {v : Value} {l : List Int} (h : nums K lo hi w v l) : (Rep.int K).slice.mine lo hi w [v] l := by
  obtain ⟨A, c, rfl, hc, hj⟩ := h
  cases l with
  | nil => exact ⟨[], ⟨A, c, rfl, hc, .inl ⟨rfl, rfl⟩⟩, List.nodup_nil, by simp⟩
  | cons y l =>
    obtain ⟨b, off, rfl, h1, h2, -, -⟩ := hj 0 (by simp)
    have hfl : List.flatten ((y :: l).map fun _ => ([] : List Nat)) = [] := by simp
    refine ⟨b :: List.flatten ((y :: l).map fun _ => []), ⟨_, c, rfl, hc, .inr ⟨b, off, _, rfl, rfl, by simp, fun j x G hx hG => ?_⟩⟩, by rw [hfl]; simp, ?_⟩
    · have hjl := (List.getElem?_eq_some_iff.1 hx).1
      have hG' : G = [] := by rw [List.getElem?_map, hx] at hG; simpa using hG.symm
      subst hG'
      obtain ⟨b', off', e, -, -, h3, h4⟩ := hj j hjl
      simp only [Option.some.injEq, Addr.mk.injEq, and_true] at e
      obtain ⟨rfl, rfl⟩ := e
      rw [List.getD_eq_getElem?_getD, hx] at h3
      have hk : off + j * (Rep.int K).k = off + j := by show off + j * 1 = _; rw [Nat.mul_one]
      refine ⟨[.int K x], ⟨rfl, rfl⟩, atL_one.2 (by rw [hk]; exact h3), fun t ht => ?_⟩
      have ht0 : t = 0 := by have : t < 1 := ht; omega
      subst ht0
      rw [hk]; exact h4
    · rw [hfl]; intro b' hb'; rw [List.mem_singleton.1 hb']; exact ⟨h1, h2⟩
set_option maxRecDepth 100000 in
theorem slot_mine_of {lo hi : Nat} {w : World} {u : Value} {x : SlotD} (h : nums .u8 lo hi w u x.2.2) : SlotR.mine lo hi w [.string x.1, .string x.2.1, u] x := by
  obtain ⟨F, h1, h2, h3⟩ := nums_rep h
  exact ⟨F, ⟨[_], [_, u], [], F, rfl, rfl, ⟨rfl, rfl⟩, [_], [u], [], F, rfl, rfl, ⟨rfl, rfl⟩, h1⟩, h2, h3⟩
end Go.Proofs.YtiolebpoofkpmaaGreatDoor
set_option linter.unusedVariables false
namespace Go.Proofs.YtiolebpoofkpmaaGreatDoor
open Go.ChangeShapes Go.WideShapes Go.ChangeAt Go.RowKit

/-- the first i elements stand, each with memory of its own behind the row's -/
def grows (w : World) (g n i : Nat) (l : List SlotD) (E : Nat → List Value) (m : Nat → Nat) : Prop :=
  filled w g 0 3 n i E ∧ (∀ j, (E j).length = 3) ∧ Steps m i ∧ g < m 0 ∧ m i ≤ w.heap.size ∧ ∀ j x, j < i → l[j]? = some x → SlotR.mine (m j) (m (j + 1)) w (E j) x
set_option maxRecDepth 100000 in
theorem grows.start {w : World} {g n : Nat} {l : List SlotD} (h : roomL w g 0 (n * 3)) (hg : g < w.heap.size) : grows w g n 0 l (fun _ => [.string ⟨#[]⟩, .string ⟨#[]⟩, .slice none 0 0]) (fun _ => w.heap.size) :=
  ⟨filled.start h, fun _ => rfl, ⟨fun j hj => absurd hj (by omega)⟩, hg, Nat.le_refl _, fun j x hj => absurd hj (by omega)⟩
set_option maxRecDepth 100000 in
theorem Steps.put {m : Nat → Nat} {i M : Nat} (h : Steps m i) (hM : m i ≤ M) : Steps (fun j => if j = i + 1 then M else m j) (i + 1) := ⟨fun j hj => by
  show (if j = i + 1 then M else m j) ≤ (if j + 1 = i + 1 then M else m (j + 1))
  by_cases e : j = i
  · subst e
    rw [if_neg (by omega), if_pos rfl]; exact hM
  · rw [if_neg (by omega), if_neg (by omega)]; exact h.up j (by omega)⟩
set_option maxRecDepth 100000 in
theorem grows.next {w w2 : World} {g n i : Nat} {l : List SlotD} {E : Nat → List Value} {m : Nat → Nat} {x : SlotD} {u : Value} (h : grows w g n i l E m) (hb : Below w.heap.size w w2) (hx : l[i]? = some x) (hin : i < n) (hg : g < w.heap.size)
    (hu : nums .u8 w.heap.size w2.heap.size w2 u x.2.2) :
    grows (setsAt w2 g (i * 3) [.string x.1, .string x.2.1, u]) g n (i + 1) l (fun j => if j = i then [.string x.1, .string x.2.1, u] else E j) (fun j => if j = i + 1 then w2.heap.size else m j) := by
  obtain ⟨h1, h2, h3, h4, h5, h6⟩ := h
  have hf : filled w2 g 0 3 n i (fun j => if j = i then [.string x.1, .string x.2.1, u] else E j) := (h1.keep (hb.block g hg)).congr fun j hj => if_neg (by omega)
  have hl : ∀ j, ((fun j => if j = i then [Value.string x.1, .string x.2.1, u] else E j) j).length = 3 := fun j => by
    simp only
    split
    · rfl
    · exact h2 j
  have hn := hf.next hin (fun j _ => hl j)
  simp only [if_true, Nat.zero_add] at hn
  have ht := setsAt_turned [.string x.1, .string x.2.1, u] w2 g (i * 3) (Turned.refl g (g + 1) w2) (Nat.le_refl _) (by omega)
  have hsz := hb.size
  have hz := ht.size
  refine ⟨hn, hl, h3.put (by omega), by show g < (if 0 = i + 1 then w2.heap.size else m 0); rw [if_neg (by omega)]; exact h4, by show (if i + 1 = i + 1 then w2.heap.size else m (i + 1)) ≤ _; rw [if_pos rfl]; exact hz, fun j y hj hy => ?_⟩
  by_cases e : j = i
  · subst e
    have hxy : y = x := Option.some.inj (hy.symm.trans hx)
    subst hxy
    show SlotR.mine (if j = j + 1 then w2.heap.size else m j) (if j + 1 = j + 1 then w2.heap.size else m (j + 1)) _ (if j = j then _ else E j) y
    rw [if_neg (by omega), if_pos rfl, if_pos rfl]
    exact ((slot_mine_of hu).turned ht (.inr (by have := h3.le (Nat.zero_le j) (Nat.le_refl _); omega)) (Nat.le_refl _)).mono (by omega) (Nat.le_refl _)
  · have hji : j < i := by omega
    show SlotR.mine (if j = i + 1 then w2.heap.size else m j) (if j + 1 = i + 1 then w2.heap.size else m (j + 1)) _ (if j = i then _ else E j) y
    rw [if_neg e, if_neg (by omega), if_neg (by omega)]
    have hm0 := h3.le (Nat.zero_le j) (by omega)
    have hm1 := h3.le (show j + 1 ≤ i by omega) (Nat.le_refl _)
    exact ((h6 j y hji hy).below hb (by omega)).turned ht (.inr (by omega)) (by omega)
set_option maxRecDepth 100000 in
theorem grows.done {w : World} {g n lo : Nat} {l : List SlotD} {E : Nat → List Value} {m : Nat → Nat} (h : grows w g n n l E m) (hn : n = l.length) (hg : lo ≤ g) : SlotsR.mine lo w.heap.size w [.slice (some ⟨g, 0, none⟩) n n] l := by
  obtain ⟨h1, h2, h3, h4, h5, h6⟩ := h
  exact rows_mine (R := SlotR) hn (Nat.le_refl _) hg h4 h3 h5 h1 fun j x hx => h6 j x (by rw [hn]; exact (List.getElem?_eq_some_iff.1 hx).1) hx
end Go.Proofs.YtiolebpoofkpmaaGreatDoor
set_option linter.unusedVariables false
namespace Go.Proofs.YtiolebpoofkpmaaGreatDoor
open Go.ChangeShapes Go.WideShapes Go.ChangeAt Go.RowKit

end Go.Proofs.YtiolebpoofkpmaaGreatDoor
set_option linter.unusedVariables false
namespace Go.Proofs.YtiolebpoofkpmaaGreatDoor
open Go.ChangeShapes Go.WideShapes Go.ChangeAt Go.RowKit

section
variable {P : Program} (w : World)
end
end Go.Proofs.YtiolebpoofkpmaaGreatDoor
set_option linter.unusedVariables false
namespace Go.Proofs.YtiolebpoofkpmaaGreatDoor
open Go.ChangeShapes Go.WideShapes Go.ChangeAt Go.RowKit

end Go.Proofs.YtiolebpoofkpmaaGreatDoor
set_option linter.unusedVariables false
namespace Go.Proofs.YtiolebpoofkpmaaGreatDoor
open Go.ChangeShapes Go.WideShapes Go.ChangeAt Go.RowKit

end Go.Proofs.YtiolebpoofkpmaaGreatDoor
set_option linter.unusedVariables false
namespace Go.Proofs.YtiolebpoofkpmaaGreatDoor
open Go.ChangeShapes Go.WideShapes Go.ChangeAt Go.RowKit

def traceOk (s : ByteArray) : Bool := digs s && decide (s.size = 6)
set_option maxRecDepth 100000 in
theorem isTrace_any (s : ByteArray) (w : World) (hs : s.size ≤ maxLen) :
    Calls Tryz.prog 201 #[.string s] w fun e w' => e = .returned (.bool (traceOk s)) ∧ Below w.heap.size w w' := by
  by_cases h4 : s.size = 6
  · have HM : Hid (traceOk s = digs s) := Lib.hid (by simp [traceOk, h4])
    rw [HM.out]
    have h4' : ((s.size : Int) == 6) = true := by simp [h4]
    have HD := Lib.hid (fun w' => implDigits_any s w' hs)
    clear h4
    go_enter Tryz.func201, Tryz.ntmps201
    go_wp2_with fail
    refine (HD.out _).mono ?_
    rintro e w1 ⟨rfl, hb⟩
    go_wp2
    go_ret
    exact ⟨rfl, hb⟩
  · have HM : Hid (traceOk s = false) := Lib.hid (by simp [traceOk, h4])
    rw [HM.out]
    have h4' : ((s.size : Int) == 6) = false := by simp; omega
    clear h4
    go_enter Tryz.func201, Tryz.ntmps201
    go_wp2
    go_ret
    exact ⟨rfl, Below.refl _ _⟩
end Go.Proofs.YtiolebpoofkpmaaGreatDoor
set_option linter.unusedVariables false
namespace Go.Proofs.YtiolebpoofkpmaaGreatDoor
open Go.ChangeShapes Go.WideShapes Go.ChangeAt Go.RowKit

set_option maxRecDepth 100000 in
theorem implAcctIdOk_any (s : ByteArray) (w : World) (hs : s.size ≤ maxLen) :
    Calls Tryz.prog 200 #[.string s] w fun e w' => e = .returned (.bool (acctIdB s)) ∧ Below w.heap.size w w' := by
  by_cases h : s.size ≤ 19
  · have HI : Hid (acctIdB s = luOk s) := Lib.hid (by unfold acctIdB; rw [decide_eq_true h]; rfl)
    have HL := Lib.hid (fun w => implLuhnOk_any s w (by omega))
    have h' : (s.size : Int) ≤ 19 := by omega
    rw [HI.out]
    generalize luOk s = b at HL
    go_enter Tryz.func200, Tryz.ntmps200
    go_wp2_with fail
    refine (HL.out _).mono ?_
    rintro e w1 ⟨rfl, hb⟩
    go_wp2
    go_ret
    exact ⟨rfl, hb⟩
  · have HI : Hid (acctIdB s = false) := Lib.hid (by unfold acctIdB; rw [decide_eq_false h]; rfl)
    have h' : ¬ (s.size : Int) ≤ 19 := by omega
    rw [HI.out]
    go_enter Tryz.func200, Tryz.ntmps200
    go_wp2
    go_ret
    exact ⟨rfl, Below.refl _ _⟩
end Go.Proofs.YtiolebpoofkpmaaGreatDoor
set_option linter.unusedVariables false
namespace Go.Proofs.YtiolebpoofkpmaaGreatDoor
open Go.ChangeShapes Go.WideShapes Go.ChangeAt Go.RowKit

end Go.Proofs.YtiolebpoofkpmaaGreatDoor
set_option linter.unusedVariables false
namespace Go.Proofs.YtiolebpoofkpmaaGreatDoor
open Go.ChangeShapes Go.WideShapes Go.ChangeAt Go.RowKit

end Go.Proofs.YtiolebpoofkpmaaGreatDoor
