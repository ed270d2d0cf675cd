/- Luhn, LuhnOk: what the two functions return is the check digit of the sum 'luSum'; no conditions. -/
import Derived.Test.YtiolebpoofkpmaaGreatDoorMrp1
import Derived.Deep.RegionWith
import Derived.Deep.QuietTactic
import Derived.BigQuiet
import Derived.Test.YtiolebpoofkpmaaGreatDoorMrp3
import Derived.Test.YtiolebpoofkpmaaGreatDoorMrp2
import Derived.WalkLawsBesides
set_option linter.unusedVariables false
namespace Go.Proofs.YtiolebpoofkpmaaGreatDoor
open Go.ChangeShapes Go.WideShapes Go.ChangeAt Go.RowKit

/-- the digit of a byte -/
def dOf (c : UInt8) : Int := (c.toNat : Int) - 48
/-- a digit doubled, 9 taken off where it is greater than 9 -/
def twiceOf (d : Int) : Int := if 4 < d then 2 * d - 9 else 2 * d
/-- the Luhn sum: the last digit is doubled, and every second one before it -/
def luSum : List UInt8 → Int
  | [] => 0
  | c :: l => (if l.length % 2 = 0 then twiceOf (dOf c) else dOf c) + luSum l
def luVal (s : ByteArray) : Int := if digs s = true then (10 - luSum s.data.toList % 10) % 10 else -1

set_option maxRecDepth 100000 in
theorem twice_bd {d : Int} (h0 : 0 ≤ d) (h1 : d ≤ 9) : 0 ≤ twiceOf d ∧ twiceOf d ≤ 9 := by unfold twiceOf; split <;> omega
set_option maxRecDepth 100000 in
theorem drop_one (s : ByteArray) (k : Nat) (h : k < s.size) : s.data.toList.drop k = s[k] :: s.data.toList.drop (k + 1) :=
  List.drop_eq_getElem_cons (by simpa using h)
set_option maxRecDepth 100000 in
theorem drop_len (s : ByteArray) (k : Nat) : (s.data.toList.drop k).length = s.size - k := by simp
set_option maxRecDepth 100000 in
theorem luSum_bd {s : ByteArray} (hd : digs s = true) (k : Nat) : 0 ≤ luSum (s.data.toList.drop k) ∧ luSum (s.data.toList.drop k) ≤ 9 * ((s.size - k : Nat) : Int) := by
  generalize hn : s.size - k = n
  induction n generalizing k with
  | zero =>
    have : s.data.toList.drop k = [] := List.drop_eq_nil_of_le (by simp; omega)
    rw [this]; exact ⟨Int.le_refl _, Int.le_refl _⟩
  | succ n ih =>
    have hk : k < s.size := by omega
    have h1 := ih (k + 1) (by omega)
    have hg := digs_get hd k hk
    rw [drop_one s k hk]
    simp only [luSum]
    have ht := twice_bd (d := dOf s[k]) (by unfold dOf; omega) (by unfold dOf; omega)
    have hd0 : 0 ≤ dOf s[k] ∧ dOf s[k] ≤ 9 := by unfold dOf; omega
    split <;> omega
set_option maxRecDepth 100000 in
/-- one digit further -/
theorem luSum_even {s : ByteArray} (k : Nat) (hk : k < s.size) (he : (s.size - k) % 2 = 1) : luSum (s.data.toList.drop k) = twiceOf (dOf s[k]) + luSum (s.data.toList.drop (k + 1)) := by
  rw [drop_one s k hk]; simp only [luSum]; rw [if_pos (by rw [drop_len]; omega)]
set_option maxRecDepth 100000 in
theorem luSum_odd {s : ByteArray} (k : Nat) (hk : k < s.size) (he : (s.size - k) % 2 = 0) : luSum (s.data.toList.drop k) = dOf s[k] + luSum (s.data.toList.drop (k + 1)) := by
  rw [drop_one s k hk]; simp only [luSum]; rw [if_neg (by rw [drop_len]; omega)]

set_option maxRecDepth 100000 in
theorem luhnDouble_any (d : Int) (w : World) (h0 : 0 ≤ d) (h1 : d ≤ 9) : Calls Tryz.prog 204 #[.int .i64 d] w fun e w' => e = .returned (.int .i64 (twiceOf d)) ∧ w = w' := by
  by_cases h4 : 4 < d
  all_goals
    go_enter Tryz.func204, Tryz.ntmps204
    go_wp2
    go_ret
    exact ⟨ret_int (by unfold twiceOf; split <;> omega), rfl⟩

def parOf (s : ByteArray) (k : Nat) : Bool := decide ((s.size - k) % 2 = 1)
set_option maxRecDepth 100000 in
theorem par_next (s : ByteArray) (k : Nat) (h : k < s.size) : (!parOf s k) = parOf s (k + 1) := by
  unfold parOf
  rcases Nat.mod_two_eq_zero_or_one (s.size - k) with h1 | h1
  · rw [h1, show (s.size - (k + 1)) % 2 = 1 by omega]; rfl
  · rw [h1, show (s.size - (k + 1)) % 2 = 0 by omega]; rfl
set_option maxRecDepth 100000 in
theorem val_bool {a b : Bool} (h : a = b) : Value.bool a = Value.bool b := by rw [h]

set_option maxRecDepth 100000 in
set_option maxHeartbeats 800000 in
theorem implLuhn_any (s : ByteArray) (w : World) (hs : s.size ≤ 1048576) :
    Calls Tryz.prog 203 #[.string s] w fun e w' => e = .returned (.int .i64 (luVal s)) ∧ Below w.heap.size w w' := by
  cases hd : digs s
  · have hv : luVal s = -1 := by simp [luVal, hd]
    rw [hv]
    go_enter Tryz.func203, Tryz.ntmps203
    go_wp2_with (go_at_call 72; refine (implDigits_any _ _ (by unfold maxLen; omega)).mono ?_; rintro e w1 ⟨rfl, hb⟩)
    go_ret
    exact ⟨rfl, hb⟩
  · have hv : luVal s = (10 - luSum s.data.toList % 10) % 10 := by simp [luVal, hd]
    rw [hv]
    have hD := Lib.hid hd
    have hall := luSum_bd hd 0
    simp only [List.drop_zero, Nat.sub_zero] at hall
    have hall0 := hall.1
    have hall1 : luSum s.data.toList ≤ 9437184 := by omega
    clear hall hv
    go_enter Tryz.func203, Tryz.ntmps203
    go_wp2_with (go_at_call 72; refine (implDigits_any _ _ (by unfold maxLen; omega)).mono ?_; rintro e w1 ⟨rfl, hb⟩)
    clear hd
    go_loopw [3, 4] (fun dv sv wr => ∃ k : Nat, k ≤ s.size ∧ wr = w1.iter s k ∧ dv = .bool (parOf s k) ∧ sv = .int .i64 (luSum s.data.toList - luSum (s.data.toList.drop k))) (fun _ _ wr => s.size - wr.iterPos w1.heap.size)
    case atStart => exact ⟨0, Nat.zero_le _, rfl, val_bool (by unfold parOf; rw [Bool.eq_iff_iff]; simp; omega), val_int (by simp)⟩
    case round =>
      obtain ⟨k, hk, rfl, rfl, rfl⟩ := hrel
      by_cases hlt : k < s.size
      · have hg := digs_get hD.out k hlt
        have hg1 : (48 : Int) ≤ (s[k].toNat : Int) := by omega
        have hg2 : (s[k].toNat : Int) ≤ 57 := by omega
        have hnx : ∀ ty, (Instr.next (.pointer (some ⟨w1.heap.size, 0, none⟩)) true ty).run Tryz.prog (w1.iter s k) = _ := fun ty => run_next_any w1 s k ty hlt
        rw [decode_ascii s k hlt (by omega)] at hnx
        have hbk := luSum_bd hD.out k
        have hbk0 := hbk.1
        have hbk1 : luSum (s.data.toList.drop k) ≤ 9437184 := by omega
        clear hbk
        have hpn := Lib.hid (par_next s k hlt)
        have hpk := Lib.hid (show parOf s k = decide ((s.size - k) % 2 = 1) from rfl)
        cases hp : parOf s k
        · have hstep := Lib.hid (luSum_odd k hlt (by have := of_decide_eq_false (hpk.out.symm.trans hp); omega))
          rw [hp] at hpn
          go_wp2
          go_roundw
          case rel => exact ⟨k + 1, by omega, rfl, val_bool hpn.out, val_int (by have := hstep.out; unfold dOf at this; omega)⟩
          case measure => simp <;> omega
        · have hstep := Lib.hid (luSum_even k hlt (of_decide_eq_true (hpk.out.symm.trans hp)))
          have htw := twice_bd (d := (s[k].toNat : Int) - 48) (by omega) (by omega)
          rw [hp] at hpn
          go_wp2_with (go_at_call 204; refine (luhnDouble_any _ _ (by omega) (by omega)).mono ?_; rintro e w' ⟨rfl, rfl⟩)
          go_roundw
          case rel => exact ⟨k + 1, by omega, rfl, val_bool hpn.out, val_int (by have := hstep.out; unfold dOf at this; omega)⟩
          case measure => simp <;> omega
      · have hnx : ∀ ty, (Instr.next (.pointer (some ⟨w1.heap.size, 0, none⟩)) true ty).run Tryz.prog (w1.iter s k) = _ := fun ty => run_next_end w1 s k ty hlt
        have he : luSum (s.data.toList.drop k) = 0 := by rw [List.drop_eq_nil_of_le (by simp; omega)]; rfl
        have he0 : 0 ≤ luSum (s.data.toList.drop k) := by omega
        have he1 : luSum (s.data.toList.drop k) ≤ 0 := by omega
        clear he
        go_wp2
        go_ret
        exact ⟨ret_int (by omega), hb.trans ((below_iter _ _ _).mono hb.size)⟩

set_option maxRecDepth 100000 in
set_option maxHeartbeats 800000 in
theorem specLuhn_any (s : ByteArray) (w : World) (hs : s.size ≤ 1048576) :
    Calls Tryz.prog 93 #[.string s] w fun e w' => e = .returned (.int .i64 (luVal s)) ∧ w = w' := by
  cases hd : digs s
  · have hv : luVal s = -1 := by simp [luVal, hd]
    rw [hv]
    go_enter Tryz.func93, Tryz.ntmps93
    go_wp2_with (go_at_call 38; refine (specDigits_any _ _ (by unfold maxLen; omega)).mono ?_; rintro e w1 ⟨rfl, rfl⟩)
    go_ret
    exact ⟨rfl, rfl⟩
  · have hv : luVal s = (10 - luSum s.data.toList % 10) % 10 := by simp [luVal, hd]
    rw [hv]
    have hD := Lib.hid hd
    clear hv
    have hpos := digs_pos hd
    go_enter Tryz.func93, Tryz.ntmps93
    go_wp2_with (go_at_call 38; refine (specDigits_any _ _ (by unfold maxLen; omega)).mono ?_; rintro e w1 ⟨rfl, rfl⟩)
    clear hd
    go_loop [3, 4, 5] (fun nv tv iv => ∃ k : Nat, k ≤ s.size ∧ iv = .int .i64 ((k : Int) - 1) ∧ tv = .bool (!parOf s k) ∧ nv = .int .i64 (luSum (s.data.toList.drop k) % 10)) (fun _ _ iv => (intOf iv + 1).toNat)
    case atStart => exact ⟨s.size, Nat.le_refl _, rfl, val_bool (by unfold parOf; simp), val_int (by rw [List.drop_eq_nil_of_le (by simp)]; rfl)⟩
    case round =>
      obtain ⟨j, hk, rfl, rfl, rfl⟩ := hrel
      cases j with
      | zero =>
        go_wp2
        go_ret
        exact ⟨ret_int (by omega), rfl⟩
      | succ k =>
        have hlt : k < s.size := by omega
        have hg := digs_get hD.out k hlt
        have hg1 : (48 : Int) ≤ (s[k].toNat : Int) := by omega
        have hg2 : (s[k].toNat : Int) ≤ 57 := by omega
        have hpn := Lib.hid (par_next s k hlt)
        have hpk := Lib.hid (show parOf s k = decide ((s.size - k) % 2 = 1) from rfl)
        rw [← par_next s k hlt]
        cases hp : parOf s k
        · have hstep := Lib.hid (luSum_odd k hlt (by have := of_decide_eq_false (hpk.out.symm.trans hp); omega))
          go_wp2
          go_round
          case rel => exact ⟨k, by omega, rfl, val_bool (by rw [hp]; rfl), val_int (by have := hstep.out; unfold dOf at this; omega)⟩
          case measure => simp [intOf] <;> omega
        · have hstep := Lib.hid (luSum_even k hlt (of_decide_eq_true (hpk.out.symm.trans hp)))
          by_cases h4 : (s[k].toNat : Int) ≤ 52
          · go_wp2
            go_round
            case rel => exact ⟨k, by omega, rfl, val_bool (by rw [hp]; rfl), val_int (by have := hstep.out; unfold dOf twiceOf at this; split at this <;> omega)⟩
            case measure => simp [intOf] <;> omega
          · go_wp2
            go_round
            case rel => exact ⟨k, by omega, rfl, val_bool (by rw [hp]; rfl), val_int (by have := hstep.out; unfold dOf twiceOf at this; split at this <;> omega)⟩
            case measure => simp [intOf] <;> omega
end Go.Proofs.YtiolebpoofkpmaaGreatDoor
set_option linter.unusedVariables false
namespace Go.Proofs.YtiolebpoofkpmaaGreatDoor
open Go.ChangeShapes Go.WideShapes Go.ChangeAt Go.RowKit

def initOf (s : ByteArray) : ByteArray := s.extract 0 (s.size - 1)
def luOk (s : ByteArray) : Bool := decide (2 ≤ s.size) && digs s && (luVal (initOf s) == dOf (s.data.toList.getLastD 0))

set_option maxRecDepth 100000 in
theorem luOk_eq (s : ByteArray) (hd : digs s = true) (h2 : ¬ s.size < 2) : luOk s = (luVal (s.extract 0 (s.size - 1)) == ((s[s.size - 1].toNat : Int) - 48)) := by
  have hl : s.data.toList.getLastD 0 = s[s.size - 1] := by
    have hne : s.data.toList ≠ [] := by
      intro h
      have h4 : s.data.toList.length = s.size := by simp
      rw [h] at h4
      simp only [List.length_nil] at h4
      omega
    rw [List.getLastD_eq_getLast?, List.getLast?_eq_some_getLast hne, Option.getD_some, List.getLast_eq_getElem]
    rfl
  have h3 : decide (2 ≤ s.size) = true := decide_eq_true (by omega)
  unfold luOk dOf initOf
  rw [hd, h3, hl]
  rfl
set_option maxRecDepth 100000 in
theorem bool_beq_comm (a b : Int) : (a == b) = (b == a) := by rw [Bool.eq_iff_iff]; simp only [beq_iff_eq]; exact eq_comm
set_option maxRecDepth 100000 in
set_option maxHeartbeats 800000 in
theorem specLuhnOk_any (s : ByteArray) (w : World) (hs : s.size ≤ 1048576) :
    Calls Tryz.prog 69 #[.string s] w fun e w' => e = .returned (.bool (luOk s)) ∧ Below w.heap.size w w' := by
  cases hd : digs s
  · go_enter Tryz.func69, Tryz.ntmps69
    go_wp2_with (go_at_call 38; refine (specDigits_any _ _ (by unfold maxLen; omega)).mono ?_; rintro e w1 ⟨rfl, rfl⟩)
    go_ret
    exact ⟨ret_bool (by simp [luOk, hd]), Below.refl _ _⟩
  · by_cases h2 : s.size < 2
    · go_enter Tryz.func69, Tryz.ntmps69
      go_wp2_with (go_at_call 38; refine (specDigits_any _ _ (by unfold maxLen; omega)).mono ?_; rintro e w1 ⟨rfl, rfl⟩)
      go_ret
      exact ⟨ret_bool (by simp [luOk]; omega), Below.refl _ _⟩
    · have hg := digs_get hd (s.size - 1) (by omega)
      go_enter Tryz.func69, Tryz.ntmps69
      go_wp2_with (go_at_call 38; refine (specDigits_any _ _ (by unfold maxLen; omega)).mono ?_; rintro e w1 ⟨rfl, rfl⟩)
      have e1 : IntKind.i64.wrap ((s.size : Int) - 1) = (s.size : Int) - 1 := IntWalk.i64_in _ (by omega)
      have e2 : ((s.size : Int) - 1).toNat = s.size - 1 := by omega
      have e3 : 0 ≤ (s.size : Int) - 1 := by omega
      have e4 : 1 ≤ (s.size : Int) := by omega
      have e5 : IntKind.i64.wrap (s[s.size - 1].toNat : Int) = (s[s.size - 1].toNat : Int) := IntWalk.i64_in _ (by omega)
      have e6 : IntKind.i64.wrap ((s[s.size - 1].toNat : Int) - 48) = (s[s.size - 1].toNat : Int) - 48 := IntWalk.i64_in _ (by omega)
      have e7 : IntKind.u8.wrap ((s[s.size - 1].toNat : Int) - 48) = (s[s.size - 1].toNat : Int) - 48 := IntWalk.u8_in _ (by omega)
      go_region_with ((go_at_call 93; refine (specLuhn_any _ _ (by simp <;> omega)).mono ?_; rintro e w' ⟨rfl, rfl⟩))
      all_goals
        go_wp2
        go_ret
        exact ⟨ret_bool (luOk_eq s hd h2).symm, (Below.refl _ _).drew⟩

set_option maxRecDepth 100000 in
set_option maxHeartbeats 800000 in
theorem implLuhnOk_any (s : ByteArray) (w : World) (hs : s.size ≤ 1048576) :
    Calls Tryz.prog 202 #[.string s] w fun e w' => e = .returned (.bool (luOk s)) ∧ Below w.heap.size w w' := by
  by_cases h2 : s.size < 2
  · go_enter Tryz.func202, Tryz.ntmps202
    go_wp2_with (go_at_call 72; refine (implDigits_any _ _ (by unfold maxLen; omega)).mono ?_; rintro e w1 ⟨rfl, hb⟩)
    go_ret
    exact ⟨ret_bool (by simp [luOk]; omega), Below.refl _ _⟩
  · cases hd : digs s
    · go_enter Tryz.func202, Tryz.ntmps202
      go_wp2_with (go_at_call 72; refine (implDigits_any _ _ (by unfold maxLen; omega)).mono ?_; rintro e w1 ⟨rfl, hb⟩)
      go_ret
      exact ⟨ret_bool (by simp [luOk, hd]), hb⟩
    · have hg := digs_get hd (s.size - 1) (by omega)
      go_enter Tryz.func202, Tryz.ntmps202
      go_wp2_with (go_at_call 72; refine (implDigits_any _ _ (by unfold maxLen; omega)).mono ?_; rintro e w1 ⟨rfl, hb⟩)
      have e1 : IntKind.i64.wrap ((s.size : Int) - 1) = (s.size : Int) - 1 := IntWalk.i64_in _ (by omega)
      have e2 : ((s.size : Int) - 1).toNat = s.size - 1 := by omega
      have e3 : 0 ≤ (s.size : Int) - 1 := by omega
      have e4 : 1 ≤ (s.size : Int) := by omega
      have e5 : IntKind.i64.wrap (s[s.size - 1].toNat : Int) = (s[s.size - 1].toNat : Int) := IntWalk.i64_in _ (by omega)
      have e6 : IntKind.i64.wrap ((s[s.size - 1].toNat : Int) - 48) = (s[s.size - 1].toNat : Int) - 48 := IntWalk.i64_in _ (by omega)
      have e7 : IntKind.u8.wrap ((s[s.size - 1].toNat : Int) - 48) = (s[s.size - 1].toNat : Int) - 48 := IntWalk.u8_in _ (by omega)
      go_region_with ((go_at_call 203; refine (implLuhn_any _ _ (by simp <;> omega)).mono ?_; rintro e w' ⟨rfl, hb2⟩))
      all_goals
        go_wp2
        go_ret
        exact ⟨ret_bool (((luOk_eq s hd h2).trans (bool_beq_comm _ _)).symm), hb.drew.trans (hb2.mono (by simp; exact hb.size))⟩
end Go.Proofs.YtiolebpoofkpmaaGreatDoor
set_option linter.unusedVariables false
namespace Go.Proofs.YtiolebpoofkpmaaGreatDoor
open Go.ChangeShapes Go.WideShapes Go.ChangeAt Go.RowKit

def acctIdB (s : ByteArray) : Bool := decide (s.size ≤ 19) && luOk s
set_option maxRecDepth 100000 in
theorem specAcctIdOk_any (s : ByteArray) (w : World) (hs : s.size ≤ maxLen) :
    Calls Tryz.prog 50 #[.string s] w fun e w' => e = .returned (.bool (acctIdB s)) ∧ Below w.heap.size w w' := by
  by_cases h : s.size ≤ 19
  · have HI : Hid (acctIdB s = luOk s) := Lib.hid (by unfold acctIdB; rw [decide_eq_true h]; rfl)
    have HL := Lib.hid (fun w => specLuhnOk_any s w (by omega))
    have h' : (s.size : Int) ≤ 19 := by omega
    rw [HI.out]
    generalize luOk s = b at HL
    go_enter Tryz.func50, Tryz.ntmps50
    go_wp2_with fail
    refine (HL.out _).mono ?_
    rintro e w1 ⟨rfl, hb⟩
    go_wp2
    go_ret
    exact ⟨rfl, hb⟩
  · have HI : Hid (acctIdB s = false) := Lib.hid (by unfold acctIdB; rw [decide_eq_false h]; rfl)
    have h' : ¬ (s.size : Int) ≤ 19 := by omega
    rw [HI.out]
    go_enter Tryz.func50, Tryz.ntmps50
    go_wp2
    go_ret
    exact ⟨rfl, Below.refl _ _⟩
end Go.Proofs.YtiolebpoofkpmaaGreatDoor
set_option linter.unusedVariables false
namespace Go.Proofs.YtiolebpoofkpmaaGreatDoor
open Go.ChangeShapes Go.WideShapes Go.ChangeAt Go.RowKit

end Go.Proofs.YtiolebpoofkpmaaGreatDoor
set_option linter.unusedVariables false
namespace Go.Proofs.YtiolebpoofkpmaaGreatDoor
open Go.ChangeShapes Go.WideShapes Go.ChangeAt Go.RowKit

end Go.Proofs.YtiolebpoofkpmaaGreatDoor
set_option linter.unusedVariables false
namespace Go.Proofs.YtiolebpoofkpmaaGreatDoor
open Go.ChangeShapes Go.WideShapes Go.ChangeAt Go.RowKit

end Go.Proofs.YtiolebpoofkpmaaGreatDoor
set_option linter.unusedVariables false
namespace Go.Proofs.YtiolebpoofkpmaaGreatDoor
open Go.ChangeShapes Go.WideShapes Go.ChangeAt Go.RowKit

def inB (n lo hi : Int) : Bool := decide (lo ≤ n ∧ n ≤ hi)
set_option maxRecDepth 100000 in
theorem inB_any (n lo hi : Int) (w : World) : Calls Tryz.prog 44 #[.int .i64 n, .int .i64 lo, .int .i64 hi] w fun e w' => e = .returned (.bool (inB n lo hi)) ∧ w = w' := by
  by_cases h0 : lo ≤ n
  all_goals
    go_enter Tryz.func44, Tryz.ntmps44
    go_wp2
    go_ret
    exact ⟨by simp [inB]; omega, rfl⟩
end Go.Proofs.YtiolebpoofkpmaaGreatDoor
set_option linter.unusedVariables false
namespace Go.Proofs.YtiolebpoofkpmaaGreatDoor
open Go.ChangeShapes Go.WideShapes Go.ChangeAt Go.RowKit

end Go.Proofs.YtiolebpoofkpmaaGreatDoor
set_option linter.unusedVariables false
namespace Go.Proofs.YtiolebpoofkpmaaGreatDoor
open Go.ChangeShapes Go.WideShapes Go.ChangeAt Go.RowKit

end Go.Proofs.YtiolebpoofkpmaaGreatDoor
set_option linter.unusedVariables false
namespace Go.Proofs.YtiolebpoofkpmaaGreatDoor
open Go.ChangeShapes Go.WideShapes Go.ChangeAt Go.RowKit

/-- a digit or a small letter -/
def idCh (c : UInt8) : Bool := decide (48 ≤ c.toNat ∧ c.toNat ≤ 57 ∨ 97 ≤ c.toNat ∧ c.toNat ≤ 122)
def idOk (s : ByteArray) : Bool := s.data.toList.all idCh && inB (s.size : Int) 1 6
set_option maxRecDepth 100000 in
theorem all_step {s : ByteArray} {k : Nat} {p : UInt8 → Bool} (hlt : k < s.size) (h : (s.data.toList.take k).all p = true) (hp : p s[k] = true) : (s.data.toList.take (k + 1)).all p = true := by
  have hl : k < s.data.toList.length := by simpa using hlt
  have hp' : p s.data.toList[k] = true := hp
  rw [List.take_succ_eq_append_getElem hl, List.all_append, h]
  simpa using hp'
set_option maxRecDepth 100000 in
theorem all_not {s : ByteArray} {k : Nat} {p : UInt8 → Bool} (hlt : k < s.size) (hp : p s[k] = false) : s.data.toList.all p = false := by
  rw [List.all_eq_false]
  have hl : k < s.data.toList.length := by simpa using hlt
  exact ⟨s.data.toList[k], List.getElem_mem hl, by rw [Bool.not_eq_true]; exact hp⟩
set_option maxRecDepth 100000 in
theorem all_whole {s : ByteArray} {p : UInt8 → Bool} (h : (s.data.toList.take s.size).all p = true) : s.data.toList.all p = true := by
  have e : s.size = s.data.toList.length := by simp
  rw [e, List.take_length] at h
  exact h
set_option maxRecDepth 100000 in
theorem idOk_not {s : ByteArray} (h : s.data.toList.all idCh = false) : idOk s = false := by unfold idOk; rw [h]; rfl
set_option maxRecDepth 100000 in
theorem idOk_yes {s : ByteArray} (h : s.data.toList.all idCh = true) : idOk s = inB (s.size : Int) 1 6 := by unfold idOk; rw [h]; rfl
end Go.Proofs.YtiolebpoofkpmaaGreatDoor
set_option linter.unusedVariables false
namespace Go.Proofs.YtiolebpoofkpmaaGreatDoor
open Go.ChangeShapes Go.WideShapes Go.ChangeAt Go.RowKit

set_option maxRecDepth 100000 in
theorem bk.cells3 {w : World} {g : Nat} {t : TypeId} {a b c : Value} (h : bk w g t [a, b, c]) : w.cell? ⟨g, 0, none⟩ = some a ∧ w.cell? ⟨g, 1, none⟩ = some b ∧ w.cell? ⟨g, 2, none⟩ = some c := ⟨h.cell 0, h.cell 1, h.cell 2⟩
set_option maxRecDepth 100000 in
theorem str_eq_list {a b : ByteArray} : a.toList = b.toList ↔ a = b := by
  constructor
  · intro h
    apply ByteArray.ext
    apply Array.toList_inj.1
    rwa [ByteArray.toList_eq, ByteArray.toList_eq] at h
  · rintro rfl; rfl
end Go.Proofs.YtiolebpoofkpmaaGreatDoor
set_option linter.unusedVariables false
namespace Go.Proofs.YtiolebpoofkpmaaGreatDoor
open Go.ChangeShapes Go.WideShapes Go.ChangeAt Go.RowKit

set_option maxRecDepth 100000 in
set_option maxHeartbeats 1600000 in
theorem specHoldIdOk_any (s : ByteArray) (w : World) (hs : s.size ≤ maxLen) :
    Calls Tryz.prog 51 #[.string s] w fun e w' => e = .returned (.bool (idOk s)) ∧ w = w' := by
  unfold maxLen at hs
  have HI := Lib.hid (fun w => inB_any (s.size : Int) 1 6 w)
  go_enter Tryz.func51, Tryz.ntmps51
  go_wp2
  go_loop [3] (fun i => ∃ k : Nat, k ≤ s.size ∧ i = .int .i64 k ∧ (s.data.toList.take k).all idCh = true) (fun i => s.size - (intOf i).toNat)
  case atStart => exact ⟨0, Nat.zero_le _, rfl, rfl⟩
  case round =>
    obtain ⟨k, hk, rfl, ha0⟩ := hrel
    have ha := Lib.hid ha0
    clear ha0
    by_cases hlt : k < s.size
    · go_wp2
      · go_ret
        exact ⟨ret_bool (idOk_not (all_not (p := idCh) hlt (decide_eq_false (by omega)))).symm, rfl⟩
      · go_round
        case rel => exact ⟨k + 1, by omega, by go_num, all_step hlt ha.out (decide_eq_true (by omega))⟩
        case measure => simp [intOf] <;> omega
      · go_ret
        exact ⟨ret_bool (idOk_not (all_not (p := idCh) hlt (decide_eq_false (by omega)))).symm, rfl⟩
      · go_round
        case rel => exact ⟨k + 1, by omega, by go_num, all_step hlt ha.out (decide_eq_true (by omega))⟩
        case measure => simp [intOf] <;> omega
      · go_ret
        exact ⟨ret_bool (idOk_not (all_not (p := idCh) hlt (decide_eq_false (by omega)))).symm, rfl⟩
    · obtain rfl : k = s.size := by omega
      have HV := Lib.hid (idOk_yes (all_whole ha.out))
      go_wp2_with fail
      refine (HI.out _).mono ?_
      rintro e w1 ⟨rfl, rfl⟩
      go_wp2
      go_ret
      exact ⟨ret_bool HV.out.symm, rfl⟩
end Go.Proofs.YtiolebpoofkpmaaGreatDoor
set_option linter.unusedVariables false
namespace Go.Proofs.YtiolebpoofkpmaaGreatDoor
open Go.ChangeShapes Go.WideShapes Go.ChangeAt Go.RowKit

/-- W is w0 and more: all blocks of w0 hold what they held. -/
def Ext (w0 W : World) : Prop := Below w0.heap.size w0 W
set_option maxRecDepth 100000 in
theorem Ext.refl (w0 : World) : Ext w0 w0 := Below.refl _ _
set_option maxRecDepth 100000 in
theorem Ext.drew {w0 W : World} (h : Ext w0 W) : Ext w0 W.drew := Below.drew h
set_option maxRecDepth 100000 in
theorem Ext.below {w0 W : World} (h : Ext w0 W) : Below w0.heap.size w0 W := h
set_option maxRecDepth 100000 in
theorem Ext.step {w0 W W' : World} (h : Ext w0 W) (hb : Below W.heap.size W W') : Ext w0 W' := Below.trans h (hb.mono (Below.size h))
set_option maxRecDepth 100000 in
theorem Ext.cell {w0 W : World} (h : Ext w0 W) {b off : Nat} {v : Value} (hc : w0.cell? ⟨b, off, none⟩ = some v) (hb : b < w0.heap.size) : W.cell? ⟨b, off, none⟩ = some v := (Below.cell h hb).trans hc
set_option maxRecDepth 100000 in
theorem quiet_region {P : Program} {C : World → Prop} {id : Nat} {Q : Exit → Act → World → Prop} {a : Act} {w : World} {l : List Oper} (hm : P.follows .mixedOrders = true) (hB : Region.lexB .any l.toArray = true) (hC : C w.drew)
    (h : wpQuiet P l.toArray C (fun a' => ∀ w', C w' → Q .normal a' w') l a) : (Code.region id l.toArray true).wp P Q a w :=
  wp_region_quiet (C := C) hm hB hC (by simpa using h)
end Go.Proofs.YtiolebpoofkpmaaGreatDoor
