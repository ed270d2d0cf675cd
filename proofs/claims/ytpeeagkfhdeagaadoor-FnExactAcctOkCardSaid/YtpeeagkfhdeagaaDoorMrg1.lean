/- Accounts: what a size says; no conditions. -/
import Derived.Test.YtpeeagkfhdeagaaDoorAcctE
import Derived.Test.YtpeeagkfhdeagaaDoorSlotH
import Derived.Test.YtpeeagkfhdeagaaDoorBase
import Derived.Test.YtpeeagkfhdeagaaDoorDigS
import Derived.Deep.RegionWith
import Derived.Deep.QuietTactic
import Derived.BigQuiet
import Derived.Test.YtpeeagkfhdeagaaDoorHoldA
import Derived.WalkLawsBesides
import Derived.Test.YtpeeagkfhdeagaaDoorMem
import Derived.Deep.DeepCutAuto
import Derived.Test.YtpeeagkfhdeagaaDoorMon
import Derived.LaidEql
import Derived.Stop.Asserts
import Derived.RowKitTokens
import Derived.Lib.ReflectliteSlice
import Derived.OneCell
import Derived.Test.YtpeeagkfhdeagaaDoorAdd
import Derived.Test.YtpeeagkfhdeagaaDoorSatV
import Derived.Test.YtpeeagkfhdeagaaDoorRingS
import Derived.Test.YtpeeagkfhdeagaaDoorSlotK
import Derived.Test.YtpeeagkfhdeagaaDoorRowS
import Derived.RegionTactic
import Derived.Test.YtpeeagkfhdeagaaDoorMemT
import Derived.Test.YtpeeagkfhdeagaaDoorAcct
import Derived.Test.YtpeeagkfhdeagaaDoorHoldP
import Derived.Lib.Bytealg
set_option linter.unusedVariables false
namespace Go.Proofs.YtpeeagkfhdeagaaDoor
set_option maxRecDepth 100000 in
theorem acct_small {a : AcctD} {N : Nat} (h : acctSz a ≤ N) : acctSmall N a := by
  unfold acctSz at h
  have hs : slotsSz (aS a) ≤ N := by omega
  exact ⟨by unfold holdsSz at h; omega, by omega, by omega, sz_len hs, sz_reply hs⟩
end Go.Proofs.YtpeeagkfhdeagaaDoor
/- isDigit; the characters of a string of digits; no conditions. -/
set_option linter.unusedVariables false
namespace Go.Proofs.YtpeeagkfhdeagaaDoor
open Go.ChangeShapes Go.WideShapes Go.ChangeAt Go.RowKit

/-- is the number of a character a digit's? -/
def runeDig (r : Int) : Bool := decide (48 ≤ r) && decide (r ≤ 57)
set_option maxRecDepth 100000 in
theorem isDigit_any (r : Int) (w : World) : Calls Tryd.prog 93 #[.int .i32 r] w fun e w' => e = .returned (.bool (runeDig r)) ∧ w = w' := by
  by_cases h0 : 48 ≤ r
  all_goals
    go_enter Tryd.func93, Tryd.ntmps93
    go_wp2
    go_ret
    exact ⟨by simp [runeDig]; omega, rfl⟩

set_option maxRecDepth 100000 in
/-- The character at a place: a digit there, or none. -/
theorem rune_dig (s : ByteArray) (pos : Nat) (h : pos < s.size) (hd : isDig s[pos] = true) : Utf8.decode s pos = (s[pos].toNat, 1) ∧ runeDig (s[pos].toNat : Int) = true := by
  have h1 := (isDig_iff _).1 hd
  exact ⟨decode_ascii s pos h (by omega), by simp [runeDig]; omega⟩
set_option maxRecDepth 100000 in
theorem rune_not (s : ByteArray) (pos : Nat) (h : pos < s.size) (hd : isDig s[pos] = false) : runeDig ((Utf8.decode s pos).1 : Int) = false := by
  have h1 := (isDig_no _).1 hd
  rcases Nat.lt_or_ge s[pos].toNat 128 with h2 | h2
  · rw [decode_ascii s pos h h2]; simp [runeDig]; omega
  · have := (decode_high s pos h h2).1; simp [runeDig]; omega

end Go.Proofs.YtpeeagkfhdeagaaDoor
/- Digits: both functions tell whether a string is not empty and holds digits alone; no conditions. -/
set_option linter.unusedVariables false
namespace Go.Proofs.YtpeeagkfhdeagaaDoor
open Go.ChangeShapes Go.WideShapes Go.ChangeAt Go.RowKit

set_option maxRecDepth 100000 in
theorem implDigits_any (s : ByteArray) (w : World) (hs : s.size ≤ maxLen) :
    Calls Tryd.prog 85 #[.string s] w fun e w' => e = .returned (.bool (digs s)) ∧ Below w.heap.size w w' := by
  unfold maxLen at hs
  go_enter Tryd.func85, Tryd.ntmps85
  go_wp2
  go_loopw [2] (fun _ wr => ∃ k : Nat, k ≤ s.size ∧ wr = w.iter s k ∧ (s.data.toList.take k).all isDig = true) (fun _ wr => s.size - wr.iterPos w.heap.size)
  case atStart => exact ⟨0, Nat.zero_le _, rfl, rfl⟩
  case round =>
    obtain ⟨k, hk, rfl, ha0⟩ := hrel
    have ha := Lib.hid ha0
    clear ha0
    by_cases hlt : k < s.size
    · cases hd : isDig s[k]
      · have hr := rune_not s k hlt hd
        have hnx : ∀ ty, (Instr.next (.pointer (some ⟨w.heap.size, 0, none⟩)) true ty).run Tryd.prog (w.iter s k) = _ := fun ty => run_next_any w s k ty hlt
        generalize hq : Utf8.decode s k = q at hnx hr
        obtain ⟨r, wd⟩ := q
        clear hq
        go_wp2_with (go_at_call 93; refine (isDigit_any _ _).mono ?_; rintro e w' ⟨rfl, rfl⟩)
        go_ret
        exact ⟨ret_bool (digs_no s k hlt hd).symm, below_iter _ _ _⟩
      · obtain ⟨hdec, hr⟩ := rune_dig s k hlt hd
        have hnx : ∀ ty, (Instr.next (.pointer (some ⟨w.heap.size, 0, none⟩)) true ty).run Tryd.prog (w.iter s k) = _ := fun ty => run_next_any w s k ty hlt
        rw [hdec] at hnx
        have hb := Lib.hid (all_one s k hlt ha.out hd)
        clear hdec hd
        go_wp2_with (go_at_call 93; refine (isDigit_any _ _).mono ?_; rintro e w' ⟨rfl, rfl⟩)
        go_roundw
        case rel => exact ⟨k + 1, by omega, rfl, hb.out⟩
        case measure => simp <;> omega
    · have hnx : ∀ ty, (Instr.next (.pointer (some ⟨w.heap.size, 0, none⟩)) true ty).run Tryd.prog (w.iter s k) = _ := fun ty => run_next_end w s k ty hlt
      go_wp2
      go_ret
      exact ⟨ret_bool ((not_empty s).trans (digs_end s k hlt ha.out)), below_iter _ _ _⟩
end Go.Proofs.YtpeeagkfhdeagaaDoor
/- Luhn, LuhnOk: what the two functions return is the check digit of the sum 'luSum'; no conditions. -/
set_option linter.unusedVariables false
namespace Go.Proofs.YtpeeagkfhdeagaaDoor
open Go.ChangeShapes Go.WideShapes Go.ChangeAt Go.RowKit

/-- the digit of a byte -/
def dOf (c : UInt8) : Int := (c.toNat : Int) - 48
/-- a digit doubled, 9 taken off where it is greater than 9 -/
def twiceOf (d : Int) : Int := if 4 < d then 2 * d - 9 else 2 * d
/-- the Luhn sum: the last digit is doubled, and every second one before it -/
def luSum : List UInt8 → Int
  | [] => 0
  | c :: l => (if l.length % 2 = 0 then twiceOf (dOf c) else dOf c) + luSum l
def luVal (s : ByteArray) : Int := if digs s = true then (10 - luSum s.data.toList % 10) % 10 else -1

set_option maxRecDepth 100000 in
theorem twice_bd {d : Int} (h0 : 0 ≤ d) (h1 : d ≤ 9) : 0 ≤ twiceOf d ∧ twiceOf d ≤ 9 := by unfold twiceOf; split <;> omega
set_option maxRecDepth 100000 in
theorem drop_one (s : ByteArray) (k : Nat) (h : k < s.size) : s.data.toList.drop k = s[k] :: s.data.toList.drop (k + 1) :=
  List.drop_eq_getElem_cons (by simpa using h)
set_option maxRecDepth 100000 in
theorem drop_len (s : ByteArray) (k : Nat) : (s.data.toList.drop k).length = s.size - k := by simp
set_option maxRecDepth 100000 in
theorem luSum_bd {s : ByteArray} (hd : digs s = true) (k : Nat) : 0 ≤ luSum (s.data.toList.drop k) ∧ luSum (s.data.toList.drop k) ≤ 9 * ((s.size - k : Nat) : Int) := by
  generalize hn : s.size - k = n
  induction n generalizing k with
  | zero =>
    have : s.data.toList.drop k = [] := List.drop_eq_nil_of_le (by simp; omega)
    rw [this]; exact ⟨Int.le_refl _, Int.le_refl _⟩
  | succ n ih =>
    have hk : k < s.size := by omega
    have h1 := ih (k + 1) (by omega)
    have hg := digs_get hd k hk
    rw [drop_one s k hk]
    simp only [luSum]
    have ht := twice_bd (d := dOf s[k]) (by unfold dOf; omega) (by unfold dOf; omega)
    have hd0 : 0 ≤ dOf s[k] ∧ dOf s[k] ≤ 9 := by unfold dOf; omega
    split <;> omega
set_option maxRecDepth 100000 in
/-- one digit further -/
theorem luSum_even {s : ByteArray} (k : Nat) (hk : k < s.size) (he : (s.size - k) % 2 = 1) : luSum (s.data.toList.drop k) = twiceOf (dOf s[k]) + luSum (s.data.toList.drop (k + 1)) := by
  rw [drop_one s k hk]; simp only [luSum]; rw [if_pos (by rw [drop_len]; omega)]
set_option maxRecDepth 100000 in
theorem luSum_odd {s : ByteArray} (k : Nat) (hk : k < s.size) (he : (s.size - k) % 2 = 0) : luSum (s.data.toList.drop k) = dOf s[k] + luSum (s.data.toList.drop (k + 1)) := by
  rw [drop_one s k hk]; simp only [luSum]; rw [if_neg (by rw [drop_len]; omega)]

set_option maxRecDepth 100000 in
theorem luhnDouble_any (d : Int) (w : World) (h0 : 0 ≤ d) (h1 : d ≤ 9) : Calls Tryd.prog 94 #[.int .i64 d] w fun e w' => e = .returned (.int .i64 (twiceOf d)) ∧ w = w' := by
  by_cases h4 : 4 < d
  all_goals
    go_enter Tryd.func94, Tryd.ntmps94
    go_wp2
    go_ret
    exact ⟨ret_int (by unfold twiceOf; split <;> omega), rfl⟩

def parOf (s : ByteArray) (k : Nat) : Bool := decide ((s.size - k) % 2 = 1)
set_option maxRecDepth 100000 in
theorem par_next (s : ByteArray) (k : Nat) (h : k < s.size) : (!parOf s k) = parOf s (k + 1) := by
  unfold parOf
  rcases Nat.mod_two_eq_zero_or_one (s.size - k) with h1 | h1
  · rw [h1, show (s.size - (k + 1)) % 2 = 1 by omega]; rfl
  · rw [h1, show (s.size - (k + 1)) % 2 = 0 by omega]; rfl
set_option maxRecDepth 100000 in
theorem val_bool {a b : Bool} (h : a = b) : Value.bool a = Value.bool b := by rw [h]

set_option maxRecDepth 100000 in
set_option maxHeartbeats 800000 in
theorem implLuhn_any (s : ByteArray) (w : World) (hs : s.size ≤ 1048576) :
    Calls Tryd.prog 86 #[.string s] w fun e w' => e = .returned (.int .i64 (luVal s)) ∧ Below w.heap.size w w' := by
  cases hd : digs s
  · have hv : luVal s = -1 := by simp [luVal, hd]
    rw [hv]
    go_enter Tryd.func86, Tryd.ntmps86
    go_wp2_with (go_at_call 85; refine (implDigits_any _ _ (by unfold maxLen; omega)).mono ?_; rintro e w1 ⟨rfl, hb⟩)
    go_ret
    exact ⟨rfl, hb⟩
  · have hv : luVal s = (10 - luSum s.data.toList % 10) % 10 := by simp [luVal, hd]
    rw [hv]
    have hD := Lib.hid hd
    have hall := luSum_bd hd 0
    simp only [List.drop_zero, Nat.sub_zero] at hall
    have hall0 := hall.1
    have hall1 : luSum s.data.toList ≤ 9437184 := by omega
    clear hall hv
    go_enter Tryd.func86, Tryd.ntmps86
    go_wp2_with (go_at_call 85; refine (implDigits_any _ _ (by unfold maxLen; omega)).mono ?_; rintro e w1 ⟨rfl, hb⟩)
    clear hd
    go_loopw [3, 4] (fun dv sv wr => ∃ k : Nat, k ≤ s.size ∧ wr = w1.iter s k ∧ dv = .bool (parOf s k) ∧ sv = .int .i64 (luSum s.data.toList - luSum (s.data.toList.drop k))) (fun _ _ wr => s.size - wr.iterPos w1.heap.size)
    case atStart => exact ⟨0, Nat.zero_le _, rfl, val_bool (by unfold parOf; rw [Bool.eq_iff_iff]; simp; omega), val_int (by simp)⟩
    case round =>
      obtain ⟨k, hk, rfl, rfl, rfl⟩ := hrel
      by_cases hlt : k < s.size
      · have hg := digs_get hD.out k hlt
        have hg1 : (48 : Int) ≤ (s[k].toNat : Int) := by omega
        have hg2 : (s[k].toNat : Int) ≤ 57 := by omega
        have hnx : ∀ ty, (Instr.next (.pointer (some ⟨w1.heap.size, 0, none⟩)) true ty).run Tryd.prog (w1.iter s k) = _ := fun ty => run_next_any w1 s k ty hlt
        rw [decode_ascii s k hlt (by omega)] at hnx
        have hbk := luSum_bd hD.out k
        have hbk0 := hbk.1
        have hbk1 : luSum (s.data.toList.drop k) ≤ 9437184 := by omega
        clear hbk
        have hpn := Lib.hid (par_next s k hlt)
        have hpk := Lib.hid (show parOf s k = decide ((s.size - k) % 2 = 1) from rfl)
        cases hp : parOf s k
        · have hstep := Lib.hid (luSum_odd k hlt (by have := of_decide_eq_false (hpk.out.symm.trans hp); omega))
          rw [hp] at hpn
          go_wp2
          go_roundw
          case rel => exact ⟨k + 1, by omega, rfl, val_bool hpn.out, val_int (by have := hstep.out; unfold dOf at this; omega)⟩
          case measure => simp <;> omega
        · have hstep := Lib.hid (luSum_even k hlt (of_decide_eq_true (hpk.out.symm.trans hp)))
          have htw := twice_bd (d := (s[k].toNat : Int) - 48) (by omega) (by omega)
          rw [hp] at hpn
          go_wp2_with (go_at_call 94; refine (luhnDouble_any _ _ (by omega) (by omega)).mono ?_; rintro e w' ⟨rfl, rfl⟩)
          go_roundw
          case rel => exact ⟨k + 1, by omega, rfl, val_bool hpn.out, val_int (by have := hstep.out; unfold dOf at this; omega)⟩
          case measure => simp <;> omega
      · have hnx : ∀ ty, (Instr.next (.pointer (some ⟨w1.heap.size, 0, none⟩)) true ty).run Tryd.prog (w1.iter s k) = _ := fun ty => run_next_end w1 s k ty hlt
        have he : luSum (s.data.toList.drop k) = 0 := by rw [List.drop_eq_nil_of_le (by simp; omega)]; rfl
        have he0 : 0 ≤ luSum (s.data.toList.drop k) := by omega
        have he1 : luSum (s.data.toList.drop k) ≤ 0 := by omega
        clear he
        go_wp2
        go_ret
        exact ⟨ret_int (by omega), hb.trans ((below_iter _ _ _).mono hb.size)⟩

set_option maxRecDepth 100000 in
set_option maxHeartbeats 800000 in
theorem specLuhn_any (s : ByteArray) (w : World) (hs : s.size ≤ 1048576) :
    Calls Tryd.prog 73 #[.string s] w fun e w' => e = .returned (.int .i64 (luVal s)) ∧ w = w' := by
  cases hd : digs s
  · have hv : luVal s = -1 := by simp [luVal, hd]
    rw [hv]
    go_enter Tryd.func73, Tryd.ntmps73
    go_wp2_with (go_at_call 72; refine (specDigits_any _ _ (by unfold maxLen; omega)).mono ?_; rintro e w1 ⟨rfl, rfl⟩)
    go_ret
    exact ⟨rfl, rfl⟩
  · have hv : luVal s = (10 - luSum s.data.toList % 10) % 10 := by simp [luVal, hd]
    rw [hv]
    have hD := Lib.hid hd
    clear hv
    have hpos := digs_pos hd
    go_enter Tryd.func73, Tryd.ntmps73
    go_wp2_with (go_at_call 72; refine (specDigits_any _ _ (by unfold maxLen; omega)).mono ?_; rintro e w1 ⟨rfl, rfl⟩)
    clear hd
    go_loop [3, 4, 5] (fun nv tv iv => ∃ k : Nat, k ≤ s.size ∧ iv = .int .i64 ((k : Int) - 1) ∧ tv = .bool (!parOf s k) ∧ nv = .int .i64 (luSum (s.data.toList.drop k) % 10)) (fun _ _ iv => (intOf iv + 1).toNat)
    case atStart => exact ⟨s.size, Nat.le_refl _, rfl, val_bool (by unfold parOf; simp), val_int (by rw [List.drop_eq_nil_of_le (by simp)]; rfl)⟩
    case round =>
      obtain ⟨j, hk, rfl, rfl, rfl⟩ := hrel
      cases j with
      | zero =>
        go_wp2
        go_ret
        exact ⟨ret_int (by omega), rfl⟩
      | succ k =>
        have hlt : k < s.size := by omega
        have hg := digs_get hD.out k hlt
        have hg1 : (48 : Int) ≤ (s[k].toNat : Int) := by omega
        have hg2 : (s[k].toNat : Int) ≤ 57 := by omega
        have hpn := Lib.hid (par_next s k hlt)
        have hpk := Lib.hid (show parOf s k = decide ((s.size - k) % 2 = 1) from rfl)
        rw [← par_next s k hlt]
        cases hp : parOf s k
        · have hstep := Lib.hid (luSum_odd k hlt (by have := of_decide_eq_false (hpk.out.symm.trans hp); omega))
          go_wp2
          go_round
          case rel => exact ⟨k, by omega, rfl, val_bool (by rw [hp]; rfl), val_int (by have := hstep.out; unfold dOf at this; omega)⟩
          case measure => simp [intOf] <;> omega
        · have hstep := Lib.hid (luSum_even k hlt (of_decide_eq_true (hpk.out.symm.trans hp)))
          by_cases h4 : (s[k].toNat : Int) ≤ 52
          · go_wp2
            go_round
            case rel => exact ⟨k, by omega, rfl, val_bool (by rw [hp]; rfl), val_int (by have := hstep.out; unfold dOf twiceOf at this; split at this <;> omega)⟩
            case measure => simp [intOf] <;> omega
          · go_wp2
            go_round
            case rel => exact ⟨k, by omega, rfl, val_bool (by rw [hp]; rfl), val_int (by have := hstep.out; unfold dOf twiceOf at this; split at this <;> omega)⟩
            case measure => simp [intOf] <;> omega
end Go.Proofs.YtpeeagkfhdeagaaDoor
/- LuhnOk: both functions tell whether the last digit is the check digit of those before it; no conditions. -/
set_option linter.unusedVariables false
namespace Go.Proofs.YtpeeagkfhdeagaaDoor
open Go.ChangeShapes Go.WideShapes Go.ChangeAt Go.RowKit

def initOf (s : ByteArray) : ByteArray := s.extract 0 (s.size - 1)
def luOk (s : ByteArray) : Bool := decide (2 ≤ s.size) && digs s && (luVal (initOf s) == dOf (s.data.toList.getLastD 0))

set_option maxRecDepth 100000 in
theorem luOk_eq (s : ByteArray) (hd : digs s = true) (h2 : ¬ s.size < 2) : luOk s = (luVal (s.extract 0 (s.size - 1)) == ((s[s.size - 1].toNat : Int) - 48)) := by
  have hl : s.data.toList.getLastD 0 = s[s.size - 1] := by
    have hne : s.data.toList ≠ [] := by
      intro h
      have h4 : s.data.toList.length = s.size := by simp
      rw [h] at h4
      simp only [List.length_nil] at h4
      omega
    rw [List.getLastD_eq_getLast?, List.getLast?_eq_some_getLast hne, Option.getD_some, List.getLast_eq_getElem]
    rfl
  have h3 : decide (2 ≤ s.size) = true := decide_eq_true (by omega)
  unfold luOk dOf initOf
  rw [hd, h3, hl]
  rfl
set_option maxRecDepth 100000 in
theorem bool_beq_comm (a b : Int) : (a == b) = (b == a) := by rw [Bool.eq_iff_iff]; simp only [beq_iff_eq]; exact eq_comm
set_option maxRecDepth 100000 in
theorem quiet_l {P : Program} {f : FuncId} {args : Array Value} {w : World} {n : Nat} {v : Value}
    (h : Calls P f args (w.drewN n) fun e w' => e = .returned v ∧ w.drewN n = w') : Calls P f args (w.drewN n) fun e w'' => e = .returned v ∧ ∃ m, w'' = w.drewN m :=
  h.mono fun _ _ ⟨he, hm⟩ => ⟨he, n, hm.symm⟩

set_option maxRecDepth 100000 in
set_option maxHeartbeats 800000 in
theorem specLuhnOk_any (s : ByteArray) (w : World) (hs : s.size ≤ 1048576) :
    Calls Tryd.prog 54 #[.string s] w fun e w' => e = .returned (.bool (luOk s)) ∧ Below w.heap.size w w' := by
  cases hd : digs s
  · go_enter Tryd.func54, Tryd.ntmps54
    go_wp2_with (go_at_call 72; refine (specDigits_any _ _ (by unfold maxLen; omega)).mono ?_; rintro e w1 ⟨rfl, rfl⟩)
    go_ret
    exact ⟨ret_bool (by simp [luOk, hd]), Below.refl _ _⟩
  · by_cases h2 : s.size < 2
    · go_enter Tryd.func54, Tryd.ntmps54
      go_wp2_with (go_at_call 72; refine (specDigits_any _ _ (by unfold maxLen; omega)).mono ?_; rintro e w1 ⟨rfl, rfl⟩)
      go_ret
      exact ⟨ret_bool (by simp [luOk]; omega), Below.refl _ _⟩
    · have hg := digs_get hd (s.size - 1) (by omega)
      go_enter Tryd.func54, Tryd.ntmps54
      go_wp2_with (go_at_call 72; refine (specDigits_any _ _ (by unfold maxLen; omega)).mono ?_; rintro e w1 ⟨rfl, rfl⟩)
      have e1 : IntKind.i64.wrap ((s.size : Int) - 1) = (s.size : Int) - 1 := IntWalk.i64_in _ (by omega)
      have e2 : ((s.size : Int) - 1).toNat = s.size - 1 := by omega
      have e3 : 0 ≤ (s.size : Int) - 1 := by omega
      have e4 : 1 ≤ (s.size : Int) := by omega
      have e5 : IntKind.i64.wrap (s[s.size - 1].toNat : Int) = (s[s.size - 1].toNat : Int) := IntWalk.i64_in _ (by omega)
      have e6 : IntKind.i64.wrap ((s[s.size - 1].toNat : Int) - 48) = (s[s.size - 1].toNat : Int) - 48 := IntWalk.i64_in _ (by omega)
      have e7 : IntKind.u8.wrap ((s[s.size - 1].toNat : Int) - 48) = (s[s.size - 1].toNat : Int) - 48 := IntWalk.u8_in _ (by omega)
      go_region_with ((go_at_call 73; refine (specLuhn_any _ _ (by simp <;> omega)).mono ?_; rintro e w' ⟨rfl, rfl⟩))
      all_goals
        go_wp2
        go_ret
        exact ⟨ret_bool (luOk_eq s hd h2).symm, (Below.refl _ _).drew⟩

set_option maxRecDepth 100000 in
set_option maxHeartbeats 800000 in
theorem implLuhnOk_any (s : ByteArray) (w : World) (hs : s.size ≤ 1048576) :
    Calls Tryd.prog 76 #[.string s] w fun e w' => e = .returned (.bool (luOk s)) ∧ Below w.heap.size w w' := by
  by_cases h2 : s.size < 2
  · go_enter Tryd.func76, Tryd.ntmps76
    go_wp2_with (go_at_call 85; refine (implDigits_any _ _ (by unfold maxLen; omega)).mono ?_; rintro e w1 ⟨rfl, hb⟩)
    go_ret
    exact ⟨ret_bool (by simp [luOk]; omega), Below.refl _ _⟩
  · cases hd : digs s
    · go_enter Tryd.func76, Tryd.ntmps76
      go_wp2_with (go_at_call 85; refine (implDigits_any _ _ (by unfold maxLen; omega)).mono ?_; rintro e w1 ⟨rfl, hb⟩)
      go_ret
      exact ⟨ret_bool (by simp [luOk, hd]), hb⟩
    · have hg := digs_get hd (s.size - 1) (by omega)
      go_enter Tryd.func76, Tryd.ntmps76
      go_wp2_with (go_at_call 85; refine (implDigits_any _ _ (by unfold maxLen; omega)).mono ?_; rintro e w1 ⟨rfl, hb⟩)
      have e1 : IntKind.i64.wrap ((s.size : Int) - 1) = (s.size : Int) - 1 := IntWalk.i64_in _ (by omega)
      have e2 : ((s.size : Int) - 1).toNat = s.size - 1 := by omega
      have e3 : 0 ≤ (s.size : Int) - 1 := by omega
      have e4 : 1 ≤ (s.size : Int) := by omega
      have e5 : IntKind.i64.wrap (s[s.size - 1].toNat : Int) = (s[s.size - 1].toNat : Int) := IntWalk.i64_in _ (by omega)
      have e6 : IntKind.i64.wrap ((s[s.size - 1].toNat : Int) - 48) = (s[s.size - 1].toNat : Int) - 48 := IntWalk.i64_in _ (by omega)
      have e7 : IntKind.u8.wrap ((s[s.size - 1].toNat : Int) - 48) = (s[s.size - 1].toNat : Int) - 48 := IntWalk.u8_in _ (by omega)
      go_region_with ((go_at_call 86; refine (implLuhn_any _ _ (by simp <;> omega)).mono ?_; rintro e w' ⟨rfl, hb2⟩))
      all_goals
        go_wp2
        go_ret
        exact ⟨ret_bool (((luOk_eq s hd h2).trans (bool_beq_comm _ _)).symm), hb.drew.trans (hb2.mono (by simp; exact hb.size))⟩
end Go.Proofs.YtpeeagkfhdeagaaDoor
/- AcctIdOk of the reference; no conditions. -/
set_option linter.unusedVariables false
namespace Go.Proofs.YtpeeagkfhdeagaaDoor
open Go.ChangeShapes Go.WideShapes Go.ChangeAt Go.RowKit

def acctIdB (s : ByteArray) : Bool := decide (s.size ≤ 19) && luOk s
set_option maxRecDepth 100000 in
theorem specAcctIdOk_any (s : ByteArray) (w : World) (hs : s.size ≤ maxLen) :
    Calls Tryd.prog 28 #[.string s] w fun e w' => e = .returned (.bool (acctIdB s)) ∧ Below w.heap.size w w' := by
  by_cases h : s.size ≤ 19
  · have HI : Hid (acctIdB s = luOk s) := Lib.hid (by unfold acctIdB; rw [decide_eq_true h]; rfl)
    have HL := Lib.hid (fun w => specLuhnOk_any s w (by omega))
    have h' : (s.size : Int) ≤ 19 := by omega
    rw [HI.out]
    generalize luOk s = b at HL
    go_enter Tryd.func28, Tryd.ntmps28
    go_wp2_with fail
    refine (HL.out _).mono ?_
    rintro e w1 ⟨rfl, hb⟩
    go_wp2
    go_ret
    exact ⟨rfl, hb⟩
  · have HI : Hid (acctIdB s = false) := Lib.hid (by unfold acctIdB; rw [decide_eq_false h]; rfl)
    have h' : ¬ (s.size : Int) ≤ 19 := by omega
    rw [HI.out]
    go_enter Tryd.func28, Tryd.ntmps28
    go_wp2
    go_ret
    exact ⟨rfl, Below.refl _ _⟩
end Go.Proofs.YtpeeagkfhdeagaaDoor
/- HoldIdOk, HoldOk, HoldAt of the reference; no conditions. -/
set_option linter.unusedVariables false
namespace Go.Proofs.YtpeeagkfhdeagaaDoor
open Go.ChangeShapes Go.WideShapes Go.ChangeAt Go.RowKit

set_option maxRecDepth 100000 in
set_option maxHeartbeats 1600000 in
theorem specHoldIdOk_any (s : ByteArray) (w : World) (hs : s.size ≤ maxLen) :
    Calls Tryd.prog 74 #[.string s] w fun e w' => e = .returned (.bool (idOk s)) ∧ w = w' := by
  unfold maxLen at hs
  have HI := Lib.hid (fun w => inB_any (s.size : Int) 1 6 w)
  go_enter Tryd.func74, Tryd.ntmps74
  go_wp2
  go_loop [3] (fun i => ∃ k : Nat, k ≤ s.size ∧ i = .int .i64 k ∧ (s.data.toList.take k).all idCh = true) (fun i => s.size - (intOf i).toNat)
  case atStart => exact ⟨0, Nat.zero_le _, rfl, rfl⟩
  case round =>
    obtain ⟨k, hk, rfl, ha0⟩ := hrel
    have ha := Lib.hid ha0
    clear ha0
    by_cases hlt : k < s.size
    · go_wp2
      · go_ret
        exact ⟨ret_bool (idOk_not (all_not (p := idCh) hlt (decide_eq_false (by omega)))).symm, rfl⟩
      · go_round
        case rel => exact ⟨k + 1, by omega, by go_num, all_step hlt ha.out (decide_eq_true (by omega))⟩
        case measure => simp [intOf] <;> omega
      · go_ret
        exact ⟨ret_bool (idOk_not (all_not (p := idCh) hlt (decide_eq_false (by omega)))).symm, rfl⟩
      · go_round
        case rel => exact ⟨k + 1, by omega, by go_num, all_step hlt ha.out (decide_eq_true (by omega))⟩
        case measure => simp [intOf] <;> omega
      · go_ret
        exact ⟨ret_bool (idOk_not (all_not (p := idCh) hlt (decide_eq_false (by omega)))).symm, rfl⟩
    · obtain rfl : k = s.size := by omega
      have HV := Lib.hid (idOk_yes (all_whole ha.out))
      go_wp2_with fail
      refine (HI.out _).mono ?_
      rintro e w1 ⟨rfl, rfl⟩
      go_wp2
      go_ret
      exact ⟨ret_bool HV.out.symm, rfl⟩
set_option maxRecDepth 100000 in
set_option maxHeartbeats 1600000 in
theorem specHoldOk_any (x : HoldD) (w : World) (hs : x.1.size ≤ maxLen) :
    Calls Tryd.prog 55 #[.agg #[.string x.1, .int .i64 x.2.1, .int .i64 x.2.2]] w fun e w' => e = .returned (.bool (holdOk x)) ∧ Below w.heap.size w w' := by
  have HI1 := Lib.hid (fun w => specHoldIdOk_any x.1 w hs)
  have HI2 := Lib.hid (fun w => inB_any x.2.1 1 9007199254740992 w)
  have HT := Lib.hid (fun w => specTime_any x.2.2 w)
  have HD : Hid (holdOk x = (idOk x.1 && (inB x.2.1 1 9007199254740992 && timeB x.2.2))) := Lib.hid rfl
  generalize idOk x.1 = b1 at HI1 HD
  generalize inB x.2.1 1 9007199254740992 = b2 at HI2 HD
  generalize timeB x.2.2 = b3 at HT HD
  have HB0 : Hid (Below w.heap.size w (w.alloc (.cells #[.string x.1, .int .i64 x.2.1, .int .i64 x.2.2] 73))) := Lib.hid ((Below.refl _ _).alloc (Nat.le_refl _) _)
  rw [HD.out]
  cases b1
  · go_enter Tryd.func55, Tryd.ntmps55
    go_wp2_with fail
    refine (HI1.out _).mono ?_
    rintro e w1 ⟨rfl, rfl⟩
    go_wp2
    go_ret
    exact ⟨rfl, HB0.out⟩
  cases b2
  · go_enter Tryd.func55, Tryd.ntmps55
    go_wp2_with fail
    refine (HI1.out _).mono ?_
    rintro e w1 ⟨rfl, rfl⟩
    go_wp2_with fail
    refine (HI2.out _).mono ?_
    rintro e w1 ⟨rfl, rfl⟩
    go_wp2
    go_ret
    exact ⟨rfl, HB0.out⟩
  go_enter Tryd.func55, Tryd.ntmps55
  go_wp2_with fail
  refine (HI1.out _).mono ?_
  rintro e w1 ⟨rfl, rfl⟩
  go_wp2_with fail
  refine (HI2.out _).mono ?_
  rintro e w1 ⟨rfl, rfl⟩
  go_wp2_with fail
  refine (HT.out _).mono ?_
  rintro e w1 ⟨rfl, rfl⟩
  go_wp2
  go_ret
  exact ⟨rfl, HB0.out⟩
set_option maxRecDepth 100000 in
theorem find_none {l : List HoldD} {id : ByteArray} (h : ∀ x ∈ l, x.1 ≠ id) : findH l id = -1 := by
  have h1 : l.findIdx? (fun x => decide (x.1 = id)) = none := List.findIdx?_eq_none_iff.2 fun x hx => decide_eq_false (h x hx)
  unfold findH
  rw [h1]
set_option maxRecDepth 100000 in
theorem find_some {l : List HoldD} {id : ByteArray} {i : Nat} {x : HoldD} (hx : l[i]? = some x) (he : x.1 = id) (h : ∀ y ∈ l.take i, y.1 ≠ id) : findH l id = (i : Int) := by
  obtain ⟨hi, rfl⟩ := List.getElem?_eq_some_iff.1 hx
  have h1 : l.findIdx? (fun x => decide (x.1 = id)) = some i := by
    rw [List.findIdx?_eq_some_iff_getElem]
    refine ⟨hi, decide_eq_true he, fun j hj => ?_⟩
    have hm : l[j] ∈ l.take i := by rw [List.mem_take_iff_getElem]; exact ⟨j, by omega, rfl⟩
    simpa using h _ hm
  unfold findH
  rw [h1]
end Go.Proofs.YtpeeagkfhdeagaaDoor
/- A region that draws its order, whose operations only read, and whose callees read and make memory of their own: one walk in the order of the text, over the worlds that extend a given one; no conditions. -/
set_option linter.unusedVariables false
namespace Go.Proofs.YtpeeagkfhdeagaaDoor
open Go.ChangeShapes Go.WideShapes Go.ChangeAt Go.RowKit

/-- W is w0 and more: all blocks of w0 hold what they held. -/
def Ext (w0 W : World) : Prop := Below w0.heap.size w0 W
set_option maxRecDepth 100000 in
theorem Ext.refl (w0 : World) : Ext w0 w0 := Below.refl _ _
set_option maxRecDepth 100000 in
theorem Ext.drew {w0 W : World} (h : Ext w0 W) : Ext w0 W.drew := Below.drew h
set_option maxRecDepth 100000 in
theorem Ext.below {w0 W : World} (h : Ext w0 W) : Below w0.heap.size w0 W := h
set_option maxRecDepth 100000 in
theorem Ext.step {w0 W W' : World} (h : Ext w0 W) (hb : Below W.heap.size W W') : Ext w0 W' := Below.trans h (hb.mono (Below.size h))
set_option maxRecDepth 100000 in
theorem Ext.cell {w0 W : World} (h : Ext w0 W) {b off : Nat} {v : Value} (hc : w0.cell? ⟨b, off, none⟩ = some v) (hb : b < w0.heap.size) : W.cell? ⟨b, off, none⟩ = some v := (Below.cell h hb).trans hc
set_option maxRecDepth 100000 in
theorem quiet_region {P : Program} {C : World → Prop} {id : Nat} {Q : Exit → Act → World → Prop} {a : Act} {w : World} {l : List Oper} (hm : P.follows .mixedOrders = true) (hB : Region.lexB .any l.toArray = true) (hC : C w.drew)
    (h : wpQuiet P l.toArray C (fun a' => ∀ w', C w' → Q .normal a' w') l a) : (Code.region id l.toArray true).wp P Q a w :=
  wp_region_quiet (C := C) hm hB hC (by simpa using h)
end Go.Proofs.YtpeeagkfhdeagaaDoor
/- HoldsOk of the reference; no conditions. -/
set_option linter.unusedVariables false
namespace Go.Proofs.YtpeeagkfhdeagaaDoor
open Go.ChangeShapes Go.WideShapes Go.ChangeAt Go.RowKit

set_option maxRecDepth 100000 in
theorem holds_ok_not {l : List HoldD} {i : Nat} (hi : i < l.length) (h : holdAtOk l i = false) : holdsOk l = false := by
  unfold holdsOk
  have : (List.range l.length).all (holdAtOk l) = false := by
    rw [List.all_eq_false]
    exact ⟨i, List.mem_range.2 hi, by rw [h]; exact Bool.false_ne_true⟩
  rw [this]; rfl
set_option maxRecDepth 100000 in
theorem holds_ok_end {l : List HoldD} (h : (List.range l.length).all (holdAtOk l) = true) : holdsOk l = decide (l.length ≤ 4) := by
  unfold holdsOk; rw [h]; rfl
set_option maxRecDepth 100000 in
theorem range_snoc {l : List HoldD} {i : Nat} (h : (List.range i).all (holdAtOk l) = true) (h1 : holdAtOk l i = true) : (List.range (i + 1)).all (holdAtOk l) = true := by
  rw [List.range_succ, List.all_append, h]
  simp [h1]
set_option maxRecDepth 100000 in
set_option maxHeartbeats 1600000 in
theorem specHoldsOk_any (hi : Nat) (v : Value) (l : List HoldD) (w : World) (hn : l.length ≤ 1048576) (hs : ∀ x ∈ l, x.1.size ≤ maxLen) (h : HoldsR.rd hi w [v] l) (hh : hi ≤ w.heap.size) :
    Calls Tryd.prog 31 #[v] w fun e w' => e = .returned (.bool (holdsOk l)) ∧ Below w.heap.size w w' := by
  obtain ⟨A, c, rfl, hc, h⟩ := holds_rd h
  have HR := Lib.hid h
  have HS := Lib.hid hs
  clear h hs
  go_enter Tryd.func31, Tryd.ntmps31
  go_wp2
  go_loopw [7] (fun iv wr => ∃ i : Nat, i ≤ l.length ∧ iv = .int .i64 i ∧ Hid ((List.range i).all (holdAtOk l) = true) ∧ Hid (Below w.heap.size w wr) ∧ w.heap.size ≤ wr.heap.size) (fun iv _ => l.length - (intOf iv).toNat)
  case atStart => exact ⟨0, Nat.zero_le _, rfl, Lib.hid rfl, Lib.hid (Below.refl _ _), Nat.le_refl _⟩
  case round =>
    obtain ⟨i, hi', rfl, HN, HB, hz⟩ := hrel
    by_cases hin : i < l.length
    · obtain ⟨x, hx⟩ : ∃ x, l[i]? = some x := ⟨_, List.getElem?_eq_getElem hin⟩
      obtain ⟨p, hp⟩ : ∃ p, l[i - 1]? = some p := ⟨_, List.getElem?_eq_getElem (by omega : i - 1 < l.length)⟩
      have HXD : Hid (holdAtOk l i = (holdOk x && (decide (i = 0) || Op.bytesLess p.1.toList x.1.toList))) := Lib.hid (by
        unfold holdAtOk strLt
        rw [getD_of hx, getD_of hp])
      obtain ⟨b, off, rfl, hbl, c0, c1, c2⟩ := HR.out i x hx
      obtain ⟨b', off', e', -, d0, -, -⟩ := HR.out (i - 1) p hp
      simp only [Option.some.injEq, Addr.mk.injEq, and_true] at e'
      obtain ⟨rfl, rfl⟩ := e'
      have c0 := (HB.out.cell (p := ⟨b, off + i * 3, none⟩) (show b < w.heap.size by omega)).trans c0
      have c1 := (HB.out.cell (p := ⟨b, off + i * 3 + 1, none⟩) (show b < w.heap.size by omega)).trans c1
      have c2 := (HB.out.cell (p := ⟨b, off + i * 3 + 2, none⟩) (show b < w.heap.size by omega)).trans c2
      have d0 := (HB.out.cell (p := ⟨b, off + (i - 1) * 3, none⟩) (show b < w.heap.size by omega)).trans d0
      have g1 : (i : Int) < (l.length : Int) := by omega
      have g2 : 0 ≤ (i : Int) := by omega
      have hxs := HS.out x (List.mem_of_getElem? hx)
      have HOK := Lib.hid (fun W => specHoldOk_any x W hxs)
      obtain ⟨d, hd⟩ : ∃ d : Nat, d = i - 1 := ⟨_, rfl⟩
      rw [← hd] at d0
      have HDI := Lib.hid hd
      clear hx hp hd
      go_upto_region 4 with fail
      obtain ⟨W3, hW3⟩ : ∃ W3, W3 = wr.alloc (.cells #[.string x.1, .int .i64 x.2.1, .int .i64 x.2.2] 73) := ⟨_, rfl⟩
      have b3 := heap_alloc_new wr (.cells #[.string x.1, .int .i64 x.2.1, .int .i64 x.2.2] 73)
      have hb3 := (Below.refl wr.heap.size wr).alloc (Nat.le_refl _) (.cells #[.string x.1, .int .i64 x.2.1, .int .i64 x.2.2] 73)
      rw [← hW3] at b3 hb3 ⊢
      clear hW3
      have z3 : wr.heap.size < W3.heap.size := lt_of_block b3
      have HB3 : Hid (Below w.heap.size w W3) := Lib.hid (HB.out.trans (hb3.mono hz))
      have P0 := Lib.hid (cell_of_row _ _ 0 _ _ (0, 0) b3)
      have P1 := Lib.hid (cell_of_row _ _ 1 _ _ (0, 0) b3)
      have P2 := Lib.hid (cell_of_row _ _ 2 _ _ (0, 0) b3)
      simp only [List.getElem?_toArray, List.getElem?_cons_zero, List.getElem?_cons_succ] at P0 P1 P2
      have D0 := Lib.hid ((hb3.cell (p := ⟨b, off + d * 3, none⟩) (show b < wr.heap.size by omega)).trans d0)
      clear b3 hb3 c0 c1 c2 d0
      obtain ⟨ok, hok⟩ : ∃ ok, ok = holdAtOk l i := ⟨_, rfl⟩
      rw [← hok] at HXD
      have HOKI : Hid (holdAtOk l i = ok) := Lib.hid hok.symm
      clear hok
      generalize holdOk x = hk at HOK HXD
      go_cut [29] (fun cv wx => cv = .bool (!(hk && (decide (i = 0) || Op.bytesLess p.1.toList x.1.toList))) ∧ Below W3.heap.size W3 wx)
      case first =>
        have HX : Hid (Ext W3 W3.drew) := Lib.hid (Ext.refl W3).drew
        cases hk
        · refine quiet_region (C := Ext W3) (by kernel_rfl) (by kernel_rfl) HX.out ?_
          repeat (first
            | go_big_quiet_skip
            | (go_big_quiet_want; go_big_quiet_op; go_big_quiet_on)
            | (go_big_quiet_want; go_big_quiet_op; apply Exists.intro; refine ⟨fun _ _ => rfl, ?_⟩; go_big_quiet_on)
            | (go_big_quiet_want
               apply Exists.intro
               refine ⟨fun W hW => ?_, ?_⟩
               (have q0 := hW.cell P0.out z3
                have q1 := hW.cell P1.out z3
                have q2 := hW.cell P2.out z3
                have q3 := hW.cell D0.out (by omega)
                unfold Oper.quietAt
                go_simp
                rfl)
               simp only [Act.put, List.setIfInBounds_toArray, List.set_cons_zero, List.set_cons_succ]
               go_big_quiet_on)
            | (go_big_quiet_want
               apply Exists.intro
               refine ⟨fun W hW => ?_, ?_⟩
               (unfold Oper.quietAt
                go_simp
                go_at_call 55
                refine (HOK.out W).mono ?_
                rintro e w4 ⟨rfl, hb4⟩
                exact ⟨rfl, hW.step hb4⟩)
               simp only [Act.put, List.setIfInBounds_toArray, List.set_cons_zero, List.set_cons_succ]
               go_big_quiet_on))
          refine wpQuiet_nil ?_
          intro W4 hW4
          go_wp2
          go_meet
          exact ⟨rfl, hW4⟩
        by_cases hi0 : i = 0
        · have HI0 : Hid (decide (0 < i) = false) := Lib.hid (decide_eq_false (by omega))
          have HV : Hid (decide (i = 0) = true) := Lib.hid (decide_eq_true hi0)
          clear hi0
          refine quiet_region (C := Ext W3) (by kernel_rfl) (by kernel_rfl) HX.out ?_
          repeat (first
            | go_big_quiet_skip
            | (go_big_quiet_want; go_big_quiet_op; go_big_quiet_on)
            | (go_big_quiet_want; go_big_quiet_op; apply Exists.intro; refine ⟨fun _ _ => rfl, ?_⟩; go_big_quiet_on)
            | (go_big_quiet_want
               apply Exists.intro
               refine ⟨fun W hW => ?_, ?_⟩
               (have q0 := hW.cell P0.out z3
                have q1 := hW.cell P1.out z3
                have q2 := hW.cell P2.out z3
                have q3 := hW.cell D0.out (by omega)
                unfold Oper.quietAt
                go_simp
                rfl)
               simp only [Act.put, List.setIfInBounds_toArray, List.set_cons_zero, List.set_cons_succ]
               go_big_quiet_on)
            | (go_big_quiet_want
               apply Exists.intro
               refine ⟨fun W hW => ?_, ?_⟩
               (unfold Oper.quietAt
                go_simp
                go_at_call 55
                refine (HOK.out W).mono ?_
                rintro e w4 ⟨rfl, hb4⟩
                exact ⟨rfl, hW.step hb4⟩)
               simp only [Act.put, List.setIfInBounds_toArray, List.set_cons_zero, List.set_cons_succ]
               go_big_quiet_on))
          rw [HI0.out]
          repeat (first
            | go_big_quiet_skip
            | (go_big_quiet_want; go_big_quiet_op; go_big_quiet_on)
            | (go_big_quiet_want; go_big_quiet_op; apply Exists.intro; refine ⟨fun _ _ => rfl, ?_⟩; go_big_quiet_on))
          refine wpQuiet_nil ?_
          intro W4 hW4
          go_wp2
          go_meet
          exact ⟨by rw [HV.out]; rfl, hW4⟩
        have hi1 : decide (0 < i) = true := decide_eq_true (by omega)
        have HV : Hid (decide (i = 0) = false) := Lib.hid (decide_eq_false hi0)
        have gw : IntKind.i64.wrap ((i : Int) - 1) = (d : Int) := by have := HDI.out; rw [IntKind.wrap_i64]; omega
        have gw2 : wrap64 ((i : Int) - 1) = (d : Int) := by have := HDI.out; unfold wrap64; omega
        have gd : (d : Int) < (l.length : Int) := by have := HDI.out; omega
        have gd0 : 0 ≤ (d : Int) := by omega
        clear hi0
        cases hbl : Op.bytesLess p.1.toList x.1.toList
        · refine quiet_region (C := Ext W3) (by kernel_rfl) (by kernel_rfl) HX.out ?_
          repeat (first
            | go_big_quiet_skip
            | (go_big_quiet_want; go_big_quiet_op; go_big_quiet_on)
            | (go_big_quiet_want; go_big_quiet_op; apply Exists.intro; refine ⟨fun _ _ => rfl, ?_⟩; go_big_quiet_on)
            | (go_big_quiet_want
               apply Exists.intro
               refine ⟨fun W hW => ?_, ?_⟩
               (have q0 := hW.cell P0.out z3
                have q1 := hW.cell P1.out z3
                have q2 := hW.cell P2.out z3
                have q3 := hW.cell D0.out (by omega)
                unfold Oper.quietAt
                go_simp
                rfl)
               simp only [Act.put, List.setIfInBounds_toArray, List.set_cons_zero, List.set_cons_succ]
               go_big_quiet_on)
            | (go_big_quiet_want
               apply Exists.intro
               refine ⟨fun W hW => ?_, ?_⟩
               (unfold Oper.quietAt
                go_simp
                go_at_call 55
                refine (HOK.out W).mono ?_
                rintro e w4 ⟨rfl, hb4⟩
                exact ⟨rfl, hW.step hb4⟩)
               simp only [Act.put, List.setIfInBounds_toArray, List.set_cons_zero, List.set_cons_succ]
               go_big_quiet_on))
          refine wpQuiet_nil ?_
          intro W4 hW4
          go_wp2
          go_meet
          exact ⟨by rw [HV.out, hbl]; rfl, hW4⟩
        · refine quiet_region (C := Ext W3) (by kernel_rfl) (by kernel_rfl) HX.out ?_
          repeat (first
            | go_big_quiet_skip
            | (go_big_quiet_want; go_big_quiet_op; go_big_quiet_on)
            | (go_big_quiet_want; go_big_quiet_op; apply Exists.intro; refine ⟨fun _ _ => rfl, ?_⟩; go_big_quiet_on)
            | (go_big_quiet_want
               apply Exists.intro
               refine ⟨fun W hW => ?_, ?_⟩
               (have q0 := hW.cell P0.out z3
                have q1 := hW.cell P1.out z3
                have q2 := hW.cell P2.out z3
                have q3 := hW.cell D0.out (by omega)
                unfold Oper.quietAt
                go_simp
                rfl)
               simp only [Act.put, List.setIfInBounds_toArray, List.set_cons_zero, List.set_cons_succ]
               go_big_quiet_on)
            | (go_big_quiet_want
               apply Exists.intro
               refine ⟨fun W hW => ?_, ?_⟩
               (unfold Oper.quietAt
                go_simp
                go_at_call 55
                refine (HOK.out W).mono ?_
                rintro e w4 ⟨rfl, hb4⟩
                exact ⟨rfl, hW.step hb4⟩)
               simp only [Act.put, List.setIfInBounds_toArray, List.set_cons_zero, List.set_cons_succ]
               go_big_quiet_on))
          refine wpQuiet_nil ?_
          intro W4 hW4
          go_wp2
          go_meet
          exact ⟨by rw [HV.out, hbl]; rfl, hW4⟩
      case rest =>
        obtain ⟨rfl, hbc⟩ := hcut
        have HBC : Hid (Below w.heap.size w wc) := Lib.hid (HB3.out.trans (hbc.mono (by omega)))
        have zc : w.heap.size ≤ wc.heap.size := HBC.out.size
        rw [← HXD.out]
        cases ok
        · have HV : Hid (holdsOk l = false) := Lib.hid (holds_ok_not hin HOKI.out)
          go_wp2
          go_ret
          exact ⟨ret_bool HV.out.symm, HBC.out⟩
        · go_wp2
          go_roundw
          case rel => exact ⟨i + 1, by omega, by go_num, Lib.hid (range_snoc HN.out HOKI.out), HBC, zc⟩
          case measure => simp [intOf] <;> omega
    · obtain rfl : i = l.length := by omega
      have HV : Hid (holdsOk l = decide (l.length ≤ 4)) := Lib.hid (holds_ok_end HN.out)
      go_wp2
      go_ret
      exact ⟨ret_bool (by rw [HV.out]; simp; omega), HB.out⟩
end Go.Proofs.YtpeeagkfhdeagaaDoor
/- Live, LiveOnes, HoldDrop of the reference; no conditions. -/
set_option linter.unusedVariables false
namespace Go.Proofs.YtpeeagkfhdeagaaDoor
open Go.ChangeShapes Go.WideShapes Go.ChangeAt Go.RowKit

end Go.Proofs.YtpeeagkfhdeagaaDoor
/- errors.As at a target of the program's own error type: nil is none; an overflow is stored into the target. The library's table of type handles holds what its text lays. -/
set_option linter.unusedVariables false
namespace Go.Proofs.YtpeeagkfhdeagaaDoor
open Go.ChangeShapes Go.WideShapes Go.ChangeAt Go.RowKit Go.Extern.Stop Go.Stop Go.Extern

set_option maxRecDepth 100000 in
theorem as_nil (t : Value) (w : World) :
    Calls Tryd.prog 92 #[.nilIface, t] w fun e w' => e = .returned (.bool false) ∧ w = w' := by
  go_enter Tryd.func92, Tryd.ntmps92
  go_wp2
  go_ret
  exact ⟨rfl, rfl⟩

abbrev big : Value := .int .i64 4611686018427387904
abbrev OV : Nat := 108
abbrev OP : Nat := 110
abbrev ER : Nat := 103
abbrev RT : Nat := 125
set_option maxRecDepth 100000 in
theorem r_valueOfP (t : Addr) (w : World) : (ReflectliteValue.unpack (.iface OP (.pointer (some t)))).run Tryd.prog w
    = .ok (.agg #[.pointer (some ⟨2, OP, none⟩), .pointer (some ⟨w.heap.size, 0, none⟩), .int .u64 150]) (w.alloc (.cells #[.pointer (some t)] OP)) := by kernel_rfl
set_option maxRecDepth 100000 in
theorem r_typeP (a : Addr) (w : World) : (ReflectliteValue.methodAny (ReflectliteValue.valueError "reflectlite.Value.Type" 0) (fun t _ _ _ => ReflectliteType.toType t) #[.agg #[.pointer (some ⟨2, OP, none⟩), .pointer (some a), .int .u64 150]]).run Tryd.prog w
    = .ok (.iface RT (.agg #[.pointer (some ⟨2, OP, none⟩)])) w := by kernel_rfl
set_option maxRecDepth 100000 in
theorem r_kindP (w : World) : ((ReflectliteType.abiMethod fun t => (fun a : Nat => Value.int IntKind.u8 (a : Int)) <$> Rtype.kind t) #[.pointer (some ⟨2, OP, none⟩)]).run Tryd.prog w = .ok (.int .u8 22) w := by kernel_rfl
set_option maxRecDepth 100000 in
theorem r_kindV (w : World) : ((ReflectliteType.abiMethod fun t => (fun a : Nat => Value.int IntKind.u8 (a : Int)) <$> Rtype.kind t) #[.pointer (some ⟨2, OV, none⟩)]).run Tryd.prog w = .ok (.int .u8 25) w := by kernel_rfl
set_option maxRecDepth 100000 in
theorem r_elem (w : World) : (ReflectliteType.method ReflectliteType.elem #[.agg #[.pointer (some ⟨2, OP, none⟩)]]).run Tryd.prog w = .ok (.iface RT (.agg #[.pointer (some ⟨2, OV, none⟩)])) w := by kernel_rfl
set_option maxRecDepth 100000 in
theorem r_impl (w : World) : (ReflectliteType.relation "Implements" ReflectliteType.implements_ #[.agg #[.pointer (some ⟨2, OV, none⟩)], .iface RT (.agg #[.pointer (some ⟨2, ER, none⟩)])]).run Tryd.prog w = .ok (.bool true) w := by kernel_rfl
set_option maxRecDepth 100000 in
theorem r_typeOf (v : Value) (w : World) : (ReflectliteType.typeOf #[.iface OV v]).run Tryd.prog w = .ok (.iface RT (.agg #[.pointer (some ⟨2, OV, none⟩)])) w := by kernel_rfl
set_option maxRecDepth 100000 in
theorem r_assign (w : World) : (ReflectliteType.relation "AssignableTo" ReflectliteType.assignableTo #[.agg #[.pointer (some ⟨2, OV, none⟩)], .iface RT (.agg #[.pointer (some ⟨2, OV, none⟩)])]).run Tryd.prog w = .ok (.bool true) w := by kernel_rfl
set_option maxRecDepth 100000 in
theorem r_valueOfV (w : World) : (ReflectliteValue.unpack (.iface OV (.agg #[big]))).run Tryd.prog w
    = .ok (.agg #[.pointer (some ⟨2, OV, none⟩), .pointer (some ⟨w.heap.size, 0, none⟩), .int .u64 153]) (w.alloc (.cells #[big] OV)) := by kernel_rfl
set_option maxRecDepth 100000 in
theorem r_partsP (a : Addr) (w : World) : (ReflectliteValue.parts (.agg #[.pointer (some ⟨2, OP, none⟩), .pointer (some a), .int .u64 150])).run Tryd.prog w = .ok (some (OP, a, 150)) w := by kernel_rfl
set_option maxRecDepth 100000 in
theorem r_partsA (a : Addr) (w : World) : (ReflectliteValue.parts (.agg #[.pointer (some ⟨2, OV, none⟩), .pointer (some a), .int .u64 409])).run Tryd.prog w = .ok (some (OV, a, 409)) w := by kernel_rfl
set_option maxRecDepth 100000 in
theorem r_partsV (a : Addr) (w : World) : (ReflectliteValue.parts (.agg #[.pointer (some ⟨2, OV, none⟩), .pointer (some a), .int .u64 153])).run Tryd.prog w = .ok (some (OV, a, 153)) w := by kernel_rfl
set_option maxRecDepth 100000 in
theorem r_elemOf (w : World) : (Rtype.elem? OP).run Tryd.prog w = .ok (some OV) w := by kernel_rfl
set_option maxRecDepth 100000 in
theorem r_mk (p : Addr) (w : World) : (ReflectliteValue.mk OV p ReflectliteValue.flagAddr).run Tryd.prog w = .ok (.agg #[.pointer (some ⟨2, OV, none⟩), .pointer (some p), .int .u64 409]) w := by kernel_rfl
set_option maxRecDepth 100000 in
theorem r_direct (w : World) : (Rtype.directlyAssignable OV OV).run Tryd.prog w = .ok true w := by kernel_rfl
set_option maxRecDepth 100000 in
theorem r_size (w : World) : (sizeOf OV).run Tryd.prog w = .ok 1 w := by kernel_rfl
set_option maxRecDepth 100000 in
theorem r_method (z : Sem Value) (f : TypeId → Addr → Nat → Nat → Sem Value) (v : Value) :
    ReflectliteValue.method z f #[v] = (do match ← ReflectliteValue.parts v with | none => z | some (t, a, fl) => f t a fl (fl % 32)) := rfl
set_option maxRecDepth 100000 in
theorem r_isNil (a p : Addr) (W : World) (ha : W.cell? a = some (.pointer (some p))) :
    (ReflectliteValue.method (ReflectliteValue.valueError "reflectlite.Value.IsNil" 0) ReflectliteValue.isNil #[.agg #[.pointer (some ⟨2, OP, none⟩), .pointer (some a), .int .u64 150]]).run Tryd.prog W = .ok (.bool false) W := by
  rw [r_method]
  simp only [Sem.run_bind, r_partsP, Result.andThen]
  simp [ReflectliteValue.isNil, loadVar, isAgg, underlying, Tryd.underlying110, ha, Result.andThen]
set_option maxRecDepth 100000 in
theorem r_elemV (a p : Addr) (W : World) (ha : W.cell? a = some (.pointer (some p))) :
    (ReflectliteValue.method (ReflectliteValue.valueError "reflectlite.Value.Elem" 0) ReflectliteValue.elem #[.agg #[.pointer (some ⟨2, OP, none⟩), .pointer (some a), .int .u64 150]]).run Tryd.prog W
      = .ok (.agg #[.pointer (some ⟨2, OV, none⟩), .pointer (some p), .int .u64 409]) W := by
  rw [r_method]
  simp only [Sem.run_bind, r_partsP, Result.andThen]
  simp [ReflectliteValue.elem, loadVar, isAgg, underlying, Tryd.underlying110, ha, Result.andThen, r_elemOf, r_mk]
set_option maxRecDepth 100000 in
theorem r_setText (v x : Value) : ReflectliteValue.set #[v, x] = (do
    let (some (dst, a, fl), some (src, b, _)) := (← ReflectliteValue.parts v, ← ReflectliteValue.parts x)
      | unsupported (.noEntry "extern/(internal/reflectlite.Value).Set.zeroValue")
    if fl / ReflectliteValue.flagAddr % 2 == 0 then unsupported (.noEntry "extern/(internal/reflectlite.Value).Set.unaddressable")
    let val ← loadVar src b
    if ← Rtype.directlyAssignable dst src then storeVar dst a val
    else if ← Rtype.implements dst src then
      if (← Rtype.kind src) == 20 then
        match val with
        | .nilIface => unsupported (.noEntry "extern/reflectlite: a nil value of one interface type handed on as a value of another")
        | _ => storeVar dst a val
      else storeVar dst a (.iface src val)
    else panicString ("reflectlite.Set: value of type " ++ (← Rtype.spelt src) ++ " is not assignable to type " ++ (← Rtype.spelt dst))
    pure (.tuple #[])) := rfl
set_option maxRecDepth 100000 in
theorem r_info : (Tryd.prog.info? OV).map (·.size) = some 1 := by kernel_rfl
set_option maxRecDepth 100000 in
theorem r_load (b : Nat) (W : World) (hB : W.heap[b]? = some (.cells #[big] OV (0, 0))) : (loadVar OV ⟨b, 0, none⟩).run Tryd.prog W = .ok (.agg #[big]) W :=
  run_loadVar_row W b OV OV #[big] (0, 0) _ hB Tryd.underlying108 rfl r_info
set_option maxRecDepth 100000 in
theorem r_store (ta : Addr) (old : Value) (W : World) (ht : W.cell? ta = some old) (hf : W.frozen? ta = false) : (storeVar OV ta (.agg #[big])).run Tryd.prog W = .ok () (W.setCell ta big) := by
  unfold storeVar
  simp only [Sem.run_bind, r_size, Result.andThen]
  simp [Value.cells, storeCells, Addr.add]
  rw [run_store Tryd.prog W ta _ _ (by rfl)]
  simp [ht, hf]
set_option maxRecDepth 100000 in
theorem r_set (ta : Addr) (b : Nat) (old : Value) (W : World) (hB : W.heap[b]? = some (.cells #[big] OV (0, 0))) (ht : W.cell? ta = some old) (hf : W.frozen? ta = false) :
    (ReflectliteValue.set #[.agg #[.pointer (some ⟨2, OV, none⟩), .pointer (some ta), .int .u64 409], .agg #[.pointer (some ⟨2, OV, none⟩), .pointer (some ⟨b, 0, none⟩), .int .u64 153]]).run Tryd.prog W
      = .ok (.tuple #[]) (W.setCell ta big) := by
  have h1 := r_load b W hB
  have h2 := r_store ta old W ht hf
  rw [r_setText]
  simp only [Sem.run_bind, r_partsA, r_partsV, Result.andThen]
  simp [ReflectliteValue.flagAddr, h1, h2, Result.andThen, r_direct]
end Go.Proofs.YtpeeagkfhdeagaaDoor
/- errors.As at an overflow: it is stored into the target. -/
set_option linter.unusedVariables false
namespace Go.Proofs.YtpeeagkfhdeagaaDoor
open Go.ChangeShapes Go.WideShapes Go.ChangeAt Go.RowKit Go.Extern.Stop Go.Stop Go.Extern

abbrev RV : Nat := 115
def asW1 (w : World) (t : Nat) : World := w.alloc (.cells #[.pointer (some ⟨t, 0, none⟩)] OP)
def asVal (w : World) : Array Value := #[.pointer (some ⟨2, OP, none⟩), .pointer (some ⟨w.heap.size, 0, none⟩), .int .u64 150]
set_option maxRecDepth 100000 in
set_option maxHeartbeats 4000000 in
theorem as_hit (t : Nat) (old : Value) (w : World) (hg : w.cell? ⟨1, 0, none⟩ = some (.iface RT (.agg #[.pointer (some ⟨2, ER, none⟩)]))) (hT : w.heap[t]? = some (.cells #[old] OV (0, 0))) :
    Calls Tryd.prog 92 #[.iface OV (.agg #[big]), .iface OP (.pointer (some ⟨t, 0, none⟩))] w fun ev w' => ev = .returned (.bool true) ∧
      w' = ((((w.alloc (.cells #[.pointer (some ⟨t, 0, none⟩)] OP)).alloc (.cells #[.pointer (some ⟨2, OP, none⟩), .pointer (some ⟨w.heap.size, 0, none⟩), .int .u64 150] RV)).alloc (.cells #[.pointer (some ⟨2, OP, none⟩), .pointer (some ⟨w.heap.size, 0, none⟩), .int .u64 150] RV)).alloc (.cells #[big] OV)).setCell ⟨t, 0, none⟩ big := by
  have hVO := @run_callFunc_extern Tryd.prog 95 _ (fun args => ReflectliteValue.unpack (args.getD 0 (.tuple #[]))) Tryd.func95 (by kernel_rfl) (by kernel_rfl) (by kernel_rfl) (by kernel_rfl)
  have hTy := @run_callFunc_extern Tryd.prog 96 _ (ReflectliteValue.methodAny (ReflectliteValue.valueError "reflectlite.Value.Type" 0) (fun t _ _ _ => ReflectliteType.toType t)) Tryd.func96 (by kernel_rfl) (by kernel_rfl) (by kernel_rfl) (by kernel_rfl)
  have hIN := @run_callFunc_extern Tryd.prog 97 _ (ReflectliteValue.method (ReflectliteValue.valueError "reflectlite.Value.IsNil" 0) ReflectliteValue.isNil) Tryd.func97 (by kernel_rfl) (by kernel_rfl) (by kernel_rfl) (by kernel_rfl)
  have hKi := @run_callFunc_extern Tryd.prog 116 _ (ReflectliteType.abiMethod fun t => do pure (.int .u8 (← Rtype.kind t))) Tryd.func116 (by kernel_rfl) (by kernel_rfl) (by kernel_rfl) (by kernel_rfl)
  have hEl := @run_callFunc_extern Tryd.prog 126 _ (ReflectliteType.method ReflectliteType.elem) Tryd.func126 (by kernel_rfl) (by kernel_rfl) (by kernel_rfl) (by kernel_rfl)
  have hIm := @run_callFunc_extern Tryd.prog 127 _ (ReflectliteType.relation "Implements" ReflectliteType.implements_) Tryd.func127 (by kernel_rfl) (by kernel_rfl) (by kernel_rfl) (by kernel_rfl)
  have hTO := @run_callFunc_extern Tryd.prog 99 _ ReflectliteType.typeOf Tryd.func99 (by kernel_rfl) (by kernel_rfl) (by kernel_rfl) (by kernel_rfl)
  have hAT := @run_callFunc_extern Tryd.prog 124 _ (ReflectliteType.relation "AssignableTo" ReflectliteType.assignableTo) Tryd.func124 (by kernel_rfl) (by kernel_rfl) (by kernel_rfl) (by kernel_rfl)
  have hVE := @run_callFunc_extern Tryd.prog 100 _ (ReflectliteValue.method (ReflectliteValue.valueError "reflectlite.Value.Elem" 0) ReflectliteValue.elem) Tryd.func100 (by kernel_rfl) (by kernel_rfl) (by kernel_rfl) (by kernel_rfl)
  have hVS := @run_callFunc_extern Tryd.prog 101 _ ReflectliteValue.set Tryd.func101 (by kernel_rfl) (by kernel_rfl) (by kernel_rfl) (by kernel_rfl)
  have tO := r_typeOf
  have a25 := r_assign
  have v25 := r_valueOfV
  have f6 := r_valueOfP
  have f7 := r_typeP
  have k27 := r_kindP
  have k25 := r_kindV
  have e27 := r_elem
  have i25 := r_impl
  have n8 := r_isNil ⟨w.heap.size, 0, none⟩ ⟨t, 0, none⟩ ((w.alloc (.cells #[.pointer (some ⟨t, 0, none⟩)] OP)).alloc (.cells #[.pointer (some ⟨2, OP, none⟩), .pointer (some ⟨w.heap.size, 0, none⟩), .int .u64 150] RV)) (by simp)
  have hlt : 1 < w.heap.size := by
    rcases Nat.lt_or_ge 1 w.heap.size with h | h
    · exact h
    · simp [World.cell?, Array.getElem?_eq_none h] at hg
  have hg2 : ((w.alloc (.cells #[.pointer (some ⟨t, 0, none⟩)] OP)).alloc (.cells #[.pointer (some ⟨2, OP, none⟩), .pointer (some ⟨w.heap.size, 0, none⟩), .int .u64 150] RV)).cell? ⟨1, 0, none⟩ = some (.iface RT (.agg #[.pointer (some ⟨2, ER, none⟩)])) := by
    rw [World.cell?_alloc_lt _ _ ⟨1, 0, none⟩ (by simp; omega), World.cell?_alloc_lt _ _ ⟨1, 0, none⟩ hlt]; exact hg
  have ht0 : w.cell? ⟨t, 0, none⟩ = some old := cell_of_one hT
  have hf0 : w.frozen? ⟨t, 0, none⟩ = false := free_of_one hT
  have htl : t < w.heap.size := lt_of_block hT
  have el := r_elemV ⟨w.heap.size, 0, none⟩ ⟨t, 0, none⟩ (((w.alloc (.cells #[.pointer (some ⟨t, 0, none⟩)] OP)).alloc (.cells #[.pointer (some ⟨2, OP, none⟩), .pointer (some ⟨w.heap.size, 0, none⟩), .int .u64 150] RV)).alloc (.cells #[.pointer (some ⟨2, OP, none⟩), .pointer (some ⟨w.heap.size, 0, none⟩), .int .u64 150] RV)) (by rw [World.cell?_alloc_lt _ _ ⟨w.heap.size, 0, none⟩ (by simp; omega)]; simp)
  have st := r_set ⟨t, 0, none⟩ (w.heap.size + 1 + 1 + 1) old ((((w.alloc (.cells #[.pointer (some ⟨t, 0, none⟩)] OP)).alloc (.cells #[.pointer (some ⟨2, OP, none⟩), .pointer (some ⟨w.heap.size, 0, none⟩), .int .u64 150] RV)).alloc (.cells #[.pointer (some ⟨2, OP, none⟩), .pointer (some ⟨w.heap.size, 0, none⟩), .int .u64 150] RV)).alloc (.cells #[big] OV))
    (by
      have hs : (((w.alloc (.cells #[.pointer (some ⟨t, 0, none⟩)] OP)).alloc (.cells #[.pointer (some ⟨2, OP, none⟩), .pointer (some ⟨w.heap.size, 0, none⟩), .int .u64 150] RV)).alloc (.cells #[.pointer (some ⟨2, OP, none⟩), .pointer (some ⟨w.heap.size, 0, none⟩), .int .u64 150] RV)).heap.size = w.heap.size + 1 + 1 + 1 := by simp
      generalize (((w.alloc (.cells #[.pointer (some ⟨t, 0, none⟩)] OP)).alloc (.cells #[.pointer (some ⟨2, OP, none⟩), .pointer (some ⟨w.heap.size, 0, none⟩), .int .u64 150] RV)).alloc (.cells #[.pointer (some ⟨2, OP, none⟩), .pointer (some ⟨w.heap.size, 0, none⟩), .int .u64 150] RV)) = V at hs ⊢
      rw [← hs]
      show (V.heap.push _)[V.heap.size]? = _
      simp)
    (by rw [World.cell?_alloc_lt _ _ ⟨t, 0, none⟩ (by simp; omega), World.cell?_alloc_lt _ _ ⟨t, 0, none⟩ (by simp; omega), World.cell?_alloc_lt _ _ ⟨t, 0, none⟩ (by simp; omega), World.cell?_alloc_lt _ _ ⟨t, 0, none⟩ htl]; exact ht0)
    (by rw [World.frozen?_alloc_old _ _ ⟨t, 0, none⟩ (by simp; omega), World.frozen?_alloc_old _ _ ⟨t, 0, none⟩ (by simp; omega), World.frozen?_alloc_old _ _ ⟨t, 0, none⟩ (by simp; omega), World.frozen?_alloc_old _ _ ⟨t, 0, none⟩ (Nat.ne_of_lt htl)]; exact hf0)
  clear hT
  go_enter Tryd.func92, Tryd.ntmps92
  go_wp2
  go_outline
  go_ways
  refine wp_loop_rounds 1 ?_
  rw [rounds_succ]
  go_wp2
  go_ret
  exact ⟨rfl, rfl⟩
end Go.Proofs.YtpeeagkfhdeagaaDoor
/- AddSat: both functions return the saturating sum; the program's error variable and the library's table of type handles hold what their texts lay. -/
set_option linter.unusedVariables false
namespace Go.Proofs.YtpeeagkfhdeagaaDoor
open Go.ChangeShapes Go.WideShapes Go.ChangeAt Go.RowKit

set_option maxRecDepth 100000 in
theorem specClamp_any (n : Int) (w : World) : Calls Tryd.prog 59 #[.int .i64 n, .int .i64 0, .int .i64 4611686018427387904] w fun e w' => e = .returned (.int .i64 (clampM n)) ∧ w = w' := by
  by_cases h0 : n < 0
  · have hv : clampM n = 0 := by unfold clampM; rw [if_pos h0]
    rw [hv]; clear hv
    go_enter Tryd.func59, Tryd.ntmps59
    go_wp2
    go_ret
    exact ⟨rfl, rfl⟩
  · by_cases h1 : 4611686018427387904 < n
    · have hv : clampM n = 4611686018427387904 := by unfold clampM; rw [if_neg h0, if_pos h1]
      rw [hv]; clear hv
      go_enter Tryd.func59, Tryd.ntmps59
      go_wp2
      go_ret
      exact ⟨rfl, rfl⟩
    · have hv : clampM n = n := by unfold clampM; rw [if_neg h0, if_neg h1]
      rw [hv]; clear hv
      go_enter Tryd.func59, Tryd.ntmps59
      go_wp2
      go_ret
      exact ⟨rfl, rfl⟩

set_option maxRecDepth 100000 in
theorem implClamp_any (n : Int) (w : World) : Calls Tryd.prog 91 #[.int .i64 n] w fun e w' => e = .returned (.int .i64 (clampM n)) ∧ w = w' := by
  by_cases h0 : n < 0
  · have hv : clampM n = 0 := by unfold clampM; rw [if_pos h0]
    rw [hv]; clear hv
    go_enter Tryd.func91, Tryd.ntmps91
    go_wp2
    go_ret
    exact ⟨ret_int (by omega), rfl⟩
  · by_cases h1 : 4611686018427387904 < n
    · have hv : clampM n = 4611686018427387904 := by unfold clampM; rw [if_neg h0, if_pos h1]
      rw [hv]; clear hv
      go_enter Tryd.func91, Tryd.ntmps91
      go_wp2
      go_ret
      exact ⟨ret_int (by omega), rfl⟩
    · have hv : clampM n = n := by unfold clampM; rw [if_neg h0, if_neg h1]
      rw [hv]; clear hv
      go_enter Tryd.func91, Tryd.ntmps91
      go_wp2
      go_ret
      exact ⟨ret_int (by omega), rfl⟩

set_option maxRecDepth 100000 in
theorem specSat_any (a b : Int) (w : World) : Calls Tryd.prog 34 #[.int .i64 a, .int .i64 b] w fun e w' => e = .returned (.int .i64 (satVal a b)) ∧ w = w' := by
  cases hk : addOk (clampM a) (clampM b)
  · have hv : satVal a b = 4611686018427387904 := by simp [satVal, hk]
    rw [hv]; clear hv
    go_enter Tryd.func34, Tryd.ntmps34
    go_wp2_with (first | (go_at_call 59; refine (specClamp_any _ _).mono ?_; rintro e w' ⟨rfl, rfl⟩) | (go_at_call 58; refine (specAdd_any _ _ _).mono ?_; rintro e w' ⟨rfl, rfl⟩))
    go_ret
    exact ⟨rfl, rfl⟩
  · have hv : satVal a b = addVal (clampM a) (clampM b) := by simp [satVal, hk, addVal]
    rw [hv]; clear hv
    go_enter Tryd.func34, Tryd.ntmps34
    go_wp2_with (first | (go_at_call 59; refine (specClamp_any _ _).mono ?_; rintro e w' ⟨rfl, rfl⟩) | (go_at_call 58; refine (specAdd_any _ _ _).mono ?_; rintro e w' ⟨rfl, rfl⟩))
    go_ret
    exact ⟨rfl, rfl⟩

set_option maxRecDepth 100000 in
theorem implSat_any (a b : Int) (w : World) (hg : w.cell? ⟨1, 0, none⟩ = some (.iface RT (.agg #[.pointer (some ⟨2, ER, none⟩)]))) :
    Calls Tryd.prog 84 #[.int .i64 a, .int .i64 b] w fun e w' => e = .returned (.int .i64 (satVal a b)) ∧ Below w.heap.size w w' := by
  have ha := clampM_mon a
  have hb := clampM_mon b
  have hlt : 1 < w.heap.size := by
    rcases Nat.lt_or_ge 1 w.heap.size with h | h
    · exact h
    · simp [World.cell?, Array.getElem?_eq_none h] at hg
  by_cases hover : 4611686018427387904 - clampM b < clampM a
  · have hk : addOk (clampM a) (clampM b) = false := by unfold addOk; rw [decide_eq_false (by omega)]; simp
    have hv : satVal a b = 4611686018427387904 := by simp [satVal, hk]
    rw [hv]; clear hv hk
    go_enter Tryd.func84, Tryd.ntmps84
    go_wp2_with (first | (go_at_call 91; refine (implClamp_any _ _).mono ?_; rintro e w' ⟨rfl, rfl⟩) | (go_at_call 90; refine (sum_over _ _ _ ha hb hover).mono ?_; rintro e w' ⟨rfl, rfl⟩))
    go_wp2_with fail
    have hgA : (w.alloc (.cells #[.int .i64 0] OV)).cell? ⟨1, 0, none⟩ = some (.iface RT (.agg #[.pointer (some ⟨2, ER, none⟩)])) := cell?_alloc_old _ hg
    have hTA : (w.alloc (.cells #[.int .i64 0] OV)).heap[w.heap.size]? = some (.cells #[.int .i64 0] OV (0, 0)) := by
      show (w.heap.push _)[w.heap.size]? = _
      simp
    refine (as_hit w.heap.size (.int .i64 0) _ hgA hTA).mono ?_
    rintro e w1 ⟨rfl, rfl⟩
    go_wp2
    go_ret
    exact ⟨rfl, by go_grown⟩
  · have hk : addOk (clampM a) (clampM b) = true := by unfold addOk; rw [ha, hb, decide_eq_true (by omega)]; rfl
    have hv : satVal a b = clampM a + clampM b := by simp [satVal, hk]
    rw [hv]; clear hv hk
    go_enter Tryd.func84, Tryd.ntmps84
    go_wp2_with fail
    refine (implClamp_any _ _).mono ?_
    rintro e w' ⟨rfl, rfl⟩
    go_wp2_with fail
    refine (implClamp_any _ _).mono ?_
    rintro e w' ⟨rfl, rfl⟩
    go_wp2_with fail
    refine (sum_ok _ _ _ ha hb (by omega)).mono ?_
    rintro e w' ⟨rfl, rfl⟩
    go_wp2_with fail
    refine (as_nil _ _).mono ?_
    rintro e w' ⟨rfl, rfl⟩
    go_wp2
    go_ret
    exact ⟨rfl, (Below.refl _ _).alloc (Nat.le_refl _) _⟩
end Go.Proofs.YtpeeagkfhdeagaaDoor
/- Stored and LiveSum of the reference; no conditions. -/
set_option linter.unusedVariables false
namespace Go.Proofs.YtpeeagkfhdeagaaDoor
open Go.ChangeShapes Go.WideShapes Go.ChangeAt Go.RowKit

set_option maxRecDepth 100000 in
theorem storedL_next {l : List HoldD} {i : Nat} {x : HoldD} (h : l[i]? = some x) : storedL (l.take (i + 1)) = satVal (storedL (l.take i)) x.2.1 := by
  obtain ⟨hi, rfl⟩ := List.getElem?_eq_some_iff.1 h
  unfold storedL
  rw [List.take_succ_eq_append_getElem hi, List.foldl_append]
  rfl
set_option maxRecDepth 100000 in
set_option maxHeartbeats 1600000 in
theorem specStored_any (hi : Nat) (v : Value) (l : List HoldD) (w : World) (hn : l.length ≤ 1048576) (h : HoldsR.rd hi w [v] l) (hh : hi ≤ w.heap.size) :
    Calls Tryd.prog 35 #[v] w fun e w' => e = .returned (.int .i64 (storedL l)) ∧ Below w.heap.size w w' := by
  obtain ⟨A, c, rfl, hc, h⟩ := holds_rd h
  have HR := Lib.hid h
  clear h
  go_enter Tryd.func35, Tryd.ntmps35
  go_wp2
  go_loopw [3, 8] (fun nv iv wr => ∃ i : Nat, i ≤ l.length ∧ iv = .int .i64 i ∧ nv = .int .i64 (storedL (l.take i)) ∧ Hid (Below w.heap.size w wr) ∧ w.heap.size ≤ wr.heap.size) (fun _ iv _ => l.length - (intOf iv).toNat)
  case atStart => exact ⟨0, Nat.zero_le _, rfl, rfl, Lib.hid (Below.refl _ _), Nat.le_refl _⟩
  case round =>
    obtain ⟨i, hi', rfl, rfl, HB, hz⟩ := hrel
    by_cases hin : i < l.length
    · obtain ⟨x, hx⟩ : ∃ x, l[i]? = some x := ⟨_, List.getElem?_eq_getElem hin⟩
      obtain ⟨b, off, rfl, hbl, c0, c1, c2⟩ := HR.out i x hx
      have HNX := Lib.hid (storedL_next hx)
      clear hx
      have c0 := (HB.out.cell (p := ⟨b, off + i * 3, none⟩) (show b < w.heap.size by omega)).trans c0
      have c1 := (HB.out.cell (p := ⟨b, off + i * 3 + 1, none⟩) (show b < w.heap.size by omega)).trans c1
      have c2 := (HB.out.cell (p := ⟨b, off + i * 3 + 2, none⟩) (show b < w.heap.size by omega)).trans c2
      have g1 : (i : Int) < (l.length : Int) := by omega
      have g2 : 0 ≤ (i : Int) := by omega
      have HSA := Lib.hid (fun W => specSat_any (storedL (l.take i)) x.2.1 W)
      have HB2 : Hid (Below w.heap.size w (wr.alloc (.cells #[.string x.1, .int .i64 x.2.1, .int .i64 x.2.2] 73))) := Lib.hid (HB.out.alloc hz _)
      go_wp2_with fail
      refine (HSA.out _).mono ?_
      rintro e w5 ⟨rfl, rfl⟩
      go_wp2
      go_roundw
      case rel => exact ⟨i + 1, by omega, by go_num, by rw [HNX.out], HB2, by simp; omega⟩
      case measure => simp [intOf] <;> omega
    · obtain rfl : i = l.length := by omega
      rw [List.take_length]
      go_wp2
      go_ret
      exact ⟨rfl, HB.out⟩
end Go.Proofs.YtpeeagkfhdeagaaDoor
/- AcctOk of the reference; no conditions. -/
set_option linter.unusedVariables false
namespace Go.Proofs.YtpeeagkfhdeagaaDoor
open Go.ChangeShapes Go.WideShapes Go.ChangeAt Go.RowKit

def acctHead (a : AcctD) : Bool := acctIdB (aId a) && (inB (aLim a) 0 9007199254740992 && (inB (aMost a) 0 1000 && (inB (aSum a) 0 9007199254740992 && isMon (aPos a))))
def acctTail (a : AcctD) : Bool := holdsOk (aH a) && (ringOk (aR a) && (slotsOk (aS a) && decide (satVal (aPos a) (storedL (aH a)) ≤ aLim a)))
def acctOk (a : AcctD) : Bool := acctHead a && acctTail a
set_option maxRecDepth 100000 in
set_option maxHeartbeats 16000000 in
theorem specAcctOk_any (hi : Nat) (vh vc vs vl : Value) (a : AcctD) (w : World) (hz : acctSmall 1048576 a) (hbig : acctBig a) (h : AcctR.rd hi w (aCells a vh vc vs vl) a) (hh : hi ≤ w.heap.size) :
    Calls Tryd.prog 11 #[.agg #[.string (aId a), .int .i64 (aLim a), .int .i64 (aPos a), .int .i64 (aMost a), .int .i64 (aSum a), vh, .int .i64 (aR a).1, .int .i64 (aR a).2.1, vc, vs, vl]] w fun e w' => e = .returned (.bool (acctOk a)) ∧ Below w.heap.size w w' := by
  obtain ⟨vh0, vc0, vs0, vl0, hcs, r1, r2, r3, r4⟩ := acct_rd h
  simp only [aCells, List.cons.injEq, and_true, true_and] at hcs
  obtain ⟨rfl, rfl, rfl, rfl⟩ := hcs
  clear h
  obtain ⟨z1, z2, z3, z4, z5⟩ := hz
  obtain ⟨y0, y1, y1', y2, y3, y4, y5⟩ := hbig
  obtain ⟨id, lim, pos, most, sum, hs, ⟨sp, hd, cs, ss⟩, sl⟩ := a
  have HE : Hid (acctOk (id, lim, pos, most, sum, hs, (sp, hd, cs, ss), sl) = ((acctIdB id && (inB lim 0 9007199254740992 && (inB most 0 1000 && (inB sum 0 9007199254740992 && isMon pos)))) && (holdsOk hs && (ringOk (sp, hd, cs, ss) && (slotsOk sl && decide (satVal pos (storedL hs) ≤ lim)))))) := Lib.hid rfl
  simp only [aId, aLim, aPos, aMost, aSum, aH, aS] at r1 r2 r3 r4 z1 z2 z3 z4 z5 y0 y1 y1' y2 y3 y4 y5 ⊢
  obtain ⟨AH, cH, rfl, -⟩ := Rep.slice_form r1
  obtain ⟨AC, cC, rfl, -⟩ := r2.form
  obtain ⟨AS, cS, rfl, -⟩ := r3.form
  obtain ⟨AL, cL, rfl, -⟩ := Rep.slice_form r4
  have HQ1 := Lib.hid (fun W (hW : Below w.heap.size w W) => specHoldsOk_any hi _ hs W z1 y1' (Rep.below (R := HoldsR) r1 hW hh) (Nat.le_trans hh hW.size))
  have HQ2 := Lib.hid (fun W (hW : Below w.heap.size w W) => specRingOk_any hi _ _ (sp, hd, cs, ss) W (r2.below hW hh) (r3.below hW hh) (Nat.le_trans hh hW.size) z2 z3)
  have HQ3 := Lib.hid (fun W (hW : Below w.heap.size w W) => specSlotsOk_any hi _ sl W (by omega) (fun x hx => ⟨(y5 x hx).1, (y5 x hx).2.1⟩) (Rep.below (R := SlotsR) r4 hW hh) (Nat.le_trans hh hW.size))
  have HQ4 := Lib.hid (fun W (hW : Below w.heap.size w W) => specStored_any hi _ hs W z1 (Rep.below (R := HoldsR) r1 hW hh) (Nat.le_trans hh hW.size))
  have HQ5 := Lib.hid (fun W => specSat_any pos (storedL hs) W)
  have HI0 := Lib.hid (fun W => specAcctIdOk_any id W y0)
  have HI1 := Lib.hid (fun W => inB_any lim 0 9007199254740992 W)
  have HI2 := Lib.hid (fun W => inB_any most 0 1000 W)
  have HI3 := Lib.hid (fun W => inB_any sum 0 9007199254740992 W)
  have HI4 := Lib.hid (fun W => l01Money_any pos W)
  clear r1 r2 r3 r4 y0 y1 y1' y2 y3 y4 y5 z5
  generalize acctIdB id = b0 at HE HI0
  generalize inB lim 0 9007199254740992 = b1 at HE HI1
  generalize inB most 0 1000 = b2 at HE HI2
  generalize inB sum 0 9007199254740992 = b3 at HE HI3
  generalize isMon pos = b4 at HE HI4
  generalize holdsOk hs = t1 at HE HQ1
  generalize ringOk (sp, hd, cs, ss) = t2 at HE HQ2
  generalize slotsOk sl = t3 at HE HQ3
  generalize satVal pos (storedL hs) = sv at HE HQ5
  generalize storedL hs = st at HQ4 HQ5
  go_enter Tryd.func11, Tryd.ntmps11
  go_upto_region 1 with fail
  obtain ⟨W, hW⟩ : ∃ W, W = w.alloc (.cells #[.string id, .int .i64 lim, .int .i64 pos, .int .i64 most, .int .i64 sum, .slice AH hs.length cH, .int .i64 sp, .int .i64 hd, .slice AC cs.length cC, .slice AS ss.length cS, .slice AL sl.length cL] 28) := ⟨_, rfl⟩
  have bb : bk W w.heap.size 28 [.string id, .int .i64 lim, .int .i64 pos, .int .i64 most, .int .i64 sum, .slice AH hs.length cH, .int .i64 sp, .int .i64 hd, .slice AC cs.length cC, .slice AS ss.length cS, .slice AL sl.length cL] := by rw [hW]; exact bk.new w _ _
  have HBW : Hid (Below w.heap.size w W) := Lib.hid (by rw [hW]; exact (Below.refl _ _).alloc (Nat.le_refl _) _)
  have x0 : w.heap.size + 1 ≤ W.heap.size := by rw [hW]; simp
  rw [← hW]
  clear hW
  obtain ⟨⟨p0, p1, p2, p3, p4, p5, p6, p7, p8, p9, p10⟩, -⟩ := bb.eleven
  have B0 := Lib.hid bb
  clear bb
  go_wp2_with fail
  refine (HI0.out W).mono ?_
  rintro e W3 ⟨rfl, hb3⟩
  have x3 := hb3.size
  have HB3 : Hid (Below w.heap.size w W3) := Lib.hid (HBW.out.trans (hb3.mono (by omega)))
  have B3 := Lib.hid (B0.out.below hb3 (by omega))
  clear hb3 HBW p0 p1 p2 p3 p4 p5 p6 p7 p8 p9 p10 B0
  obtain ⟨⟨p0, p1, p2, p3, p4, p5, p6, p7, p8, p9, p10⟩, -⟩ := B3.out.eleven
  cases b0
  · have HN := Lib.hid (HE.out.trans (show _ = false by simp))
    go_wp2
    go_ret
    exact ⟨by rw [HN.out]; rfl, HB3.out⟩
  go_wp2_with fail
  refine (HI1.out _).mono ?_
  rintro e w1 ⟨rfl, rfl⟩
  cases b1
  · have HN := Lib.hid (HE.out.trans (show _ = false by simp))
    go_wp2
    go_ret
    exact ⟨by rw [HN.out]; rfl, HB3.out⟩
  go_wp2_with fail
  refine (HI2.out _).mono ?_
  rintro e w1 ⟨rfl, rfl⟩
  cases b2
  · have HN := Lib.hid (HE.out.trans (show _ = false by simp))
    go_wp2
    go_ret
    exact ⟨by rw [HN.out]; rfl, HB3.out⟩
  go_wp2_with fail
  refine (HI3.out _).mono ?_
  rintro e w1 ⟨rfl, rfl⟩
  cases b3
  · have HN := Lib.hid (HE.out.trans (show _ = false by simp))
    go_wp2
    go_ret
    exact ⟨by rw [HN.out]; rfl, HB3.out⟩
  go_wp2_with fail
  refine (HI4.out _).mono ?_
  rintro e w1 ⟨rfl, rfl⟩
  cases b4
  · have HN := Lib.hid (HE.out.trans (show _ = false by simp))
    go_wp2
    go_ret
    exact ⟨by rw [HN.out]; rfl, HB3.out⟩
  have HE3 : Hid (acctOk (id, lim, pos, most, sum, hs, (sp, hd, cs, ss), sl) = (t1 && (t2 && (t3 && decide (sv ≤ lim))))) := Lib.hid (by rw [HE.out]; rfl)
  clear HE HI0 HI1 HI2 HI3 HI4
  go_upto_region 3 with fail
  have HX : Hid (Ext W3 W3.drew) := Lib.hid (Ext.refl W3).drew
  have HBX : Hid (∀ W, Ext W3 W → Below w.heap.size w W) := Lib.hid fun W hW => HB3.out.trans (hW.below.mono (by omega))
  have P0 := Lib.hid p0
  have P1 := Lib.hid p1
  have P2 := Lib.hid p2
  have P3 := Lib.hid p3
  have P4 := Lib.hid p4
  have P5 := Lib.hid p5
  have P6 := Lib.hid p6
  have P7 := Lib.hid p7
  have P8 := Lib.hid p8
  have P9 := Lib.hid p9
  have P10 := Lib.hid p10
  clear p0 p1 p2 p3 p4 p5 p6 p7 p8 p9 p10
  cases t1
  · refine quiet_region (C := Ext W3) (by kernel_rfl) (by kernel_rfl) HX.out ?_
    repeat (first
      | go_big_quiet_skip
      | (go_big_quiet_want; go_big_quiet_op; go_big_quiet_on)
      | (go_big_quiet_want; go_big_quiet_op; apply Exists.intro; refine ⟨fun _ _ => rfl, ?_⟩; go_big_quiet_on)
      | (go_big_quiet_want
         apply Exists.intro
         refine ⟨fun W hW => ?_, ?_⟩
         (have q1 := hW.cell P1.out (by omega)
          have q2 := hW.cell P2.out (by omega)
          have q5 := hW.cell P5.out (by omega)
          have q6 := hW.cell P6.out (by omega)
          have q7 := hW.cell P7.out (by omega)
          have q8 := hW.cell P8.out (by omega)
          have q9 := hW.cell P9.out (by omega)
          have q10 := hW.cell P10.out (by omega)
          unfold Oper.quietAt
          go_simp
          rfl)
         simp only [Act.put, List.setIfInBounds_toArray, List.set_cons_zero, List.set_cons_succ]
         go_big_quiet_on)
      | (go_big_quiet_want
         apply Exists.intro
         refine ⟨fun W hW => ?_, ?_⟩
         (unfold Oper.quietAt
          go_simp
          go_at_call 31
          refine (HQ1.out W (HBX.out W hW)).mono ?_
          rintro e w4 ⟨rfl, hb4⟩
          exact ⟨rfl, hW.step hb4⟩)
         simp only [Act.put, List.setIfInBounds_toArray, List.set_cons_zero, List.set_cons_succ]
         go_big_quiet_on)
      | (go_big_quiet_want
         apply Exists.intro
         refine ⟨fun W hW => ?_, ?_⟩
         (unfold Oper.quietAt
          go_simp
          go_at_call 32
          refine (HQ2.out W (HBX.out W hW)).mono ?_
          rintro e w4 ⟨rfl, hb4⟩
          exact ⟨rfl, hW.step hb4⟩)
         simp only [Act.put, List.setIfInBounds_toArray, List.set_cons_zero, List.set_cons_succ]
         go_big_quiet_on)
      | (go_big_quiet_want
         apply Exists.intro
         refine ⟨fun W hW => ?_, ?_⟩
         (unfold Oper.quietAt
          go_simp
          go_at_call 33
          refine (HQ3.out W (HBX.out W hW)).mono ?_
          rintro e w4 ⟨rfl, hb4⟩
          exact ⟨rfl, hW.step hb4⟩)
         simp only [Act.put, List.setIfInBounds_toArray, List.set_cons_zero, List.set_cons_succ]
         go_big_quiet_on)
      | (go_big_quiet_want
         apply Exists.intro
         refine ⟨fun W hW => ?_, ?_⟩
         (unfold Oper.quietAt
          go_simp
          go_at_call 35
          refine (HQ4.out W (HBX.out W hW)).mono ?_
          rintro e w4 ⟨rfl, hb4⟩
          exact ⟨rfl, hW.step hb4⟩)
         simp only [Act.put, List.setIfInBounds_toArray, List.set_cons_zero, List.set_cons_succ]
         go_big_quiet_on)
      | (go_big_quiet_want
         apply Exists.intro
         refine ⟨fun W hW => ?_, ?_⟩
         (unfold Oper.quietAt
          go_simp
          go_at_call 34
          refine (HQ5.out W).mono ?_
          rintro e w4 ⟨rfl, rfl⟩
          exact ⟨rfl, hW⟩)
         simp only [Act.put, List.setIfInBounds_toArray, List.set_cons_zero, List.set_cons_succ]
         go_big_quiet_on))
    refine wpQuiet_nil ?_
    intro W4 hW4
    go_wp2
    go_ret
    exact ⟨by rw [HE3.out]; rfl, HBX.out W4 hW4⟩
  cases t2
  · refine quiet_region (C := Ext W3) (by kernel_rfl) (by kernel_rfl) HX.out ?_
    repeat (first
      | go_big_quiet_skip
      | (go_big_quiet_want; go_big_quiet_op; go_big_quiet_on)
      | (go_big_quiet_want; go_big_quiet_op; apply Exists.intro; refine ⟨fun _ _ => rfl, ?_⟩; go_big_quiet_on)
      | (go_big_quiet_want
         apply Exists.intro
         refine ⟨fun W hW => ?_, ?_⟩
         (have q1 := hW.cell P1.out (by omega)
          have q2 := hW.cell P2.out (by omega)
          have q5 := hW.cell P5.out (by omega)
          have q6 := hW.cell P6.out (by omega)
          have q7 := hW.cell P7.out (by omega)
          have q8 := hW.cell P8.out (by omega)
          have q9 := hW.cell P9.out (by omega)
          have q10 := hW.cell P10.out (by omega)
          unfold Oper.quietAt
          go_simp
          rfl)
         simp only [Act.put, List.setIfInBounds_toArray, List.set_cons_zero, List.set_cons_succ]
         go_big_quiet_on)
      | (go_big_quiet_want
         apply Exists.intro
         refine ⟨fun W hW => ?_, ?_⟩
         (unfold Oper.quietAt
          go_simp
          go_at_call 31
          refine (HQ1.out W (HBX.out W hW)).mono ?_
          rintro e w4 ⟨rfl, hb4⟩
          exact ⟨rfl, hW.step hb4⟩)
         simp only [Act.put, List.setIfInBounds_toArray, List.set_cons_zero, List.set_cons_succ]
         go_big_quiet_on)
      | (go_big_quiet_want
         apply Exists.intro
         refine ⟨fun W hW => ?_, ?_⟩
         (unfold Oper.quietAt
          go_simp
          go_at_call 32
          refine (HQ2.out W (HBX.out W hW)).mono ?_
          rintro e w4 ⟨rfl, hb4⟩
          exact ⟨rfl, hW.step hb4⟩)
         simp only [Act.put, List.setIfInBounds_toArray, List.set_cons_zero, List.set_cons_succ]
         go_big_quiet_on)
      | (go_big_quiet_want
         apply Exists.intro
         refine ⟨fun W hW => ?_, ?_⟩
         (unfold Oper.quietAt
          go_simp
          go_at_call 33
          refine (HQ3.out W (HBX.out W hW)).mono ?_
          rintro e w4 ⟨rfl, hb4⟩
          exact ⟨rfl, hW.step hb4⟩)
         simp only [Act.put, List.setIfInBounds_toArray, List.set_cons_zero, List.set_cons_succ]
         go_big_quiet_on)
      | (go_big_quiet_want
         apply Exists.intro
         refine ⟨fun W hW => ?_, ?_⟩
         (unfold Oper.quietAt
          go_simp
          go_at_call 35
          refine (HQ4.out W (HBX.out W hW)).mono ?_
          rintro e w4 ⟨rfl, hb4⟩
          exact ⟨rfl, hW.step hb4⟩)
         simp only [Act.put, List.setIfInBounds_toArray, List.set_cons_zero, List.set_cons_succ]
         go_big_quiet_on)
      | (go_big_quiet_want
         apply Exists.intro
         refine ⟨fun W hW => ?_, ?_⟩
         (unfold Oper.quietAt
          go_simp
          go_at_call 34
          refine (HQ5.out W).mono ?_
          rintro e w4 ⟨rfl, rfl⟩
          exact ⟨rfl, hW⟩)
         simp only [Act.put, List.setIfInBounds_toArray, List.set_cons_zero, List.set_cons_succ]
         go_big_quiet_on))
    refine wpQuiet_nil ?_
    intro W4 hW4
    go_wp2
    go_ret
    exact ⟨by rw [HE3.out]; rfl, HBX.out W4 hW4⟩
  cases t3
  · refine quiet_region (C := Ext W3) (by kernel_rfl) (by kernel_rfl) HX.out ?_
    repeat (first
      | go_big_quiet_skip
      | (go_big_quiet_want; go_big_quiet_op; go_big_quiet_on)
      | (go_big_quiet_want; go_big_quiet_op; apply Exists.intro; refine ⟨fun _ _ => rfl, ?_⟩; go_big_quiet_on)
      | (go_big_quiet_want
         apply Exists.intro
         refine ⟨fun W hW => ?_, ?_⟩
         (have q1 := hW.cell P1.out (by omega)
          have q2 := hW.cell P2.out (by omega)
          have q5 := hW.cell P5.out (by omega)
          have q6 := hW.cell P6.out (by omega)
          have q7 := hW.cell P7.out (by omega)
          have q8 := hW.cell P8.out (by omega)
          have q9 := hW.cell P9.out (by omega)
          have q10 := hW.cell P10.out (by omega)
          unfold Oper.quietAt
          go_simp
          rfl)
         simp only [Act.put, List.setIfInBounds_toArray, List.set_cons_zero, List.set_cons_succ]
         go_big_quiet_on)
      | (go_big_quiet_want
         apply Exists.intro
         refine ⟨fun W hW => ?_, ?_⟩
         (unfold Oper.quietAt
          go_simp
          go_at_call 31
          refine (HQ1.out W (HBX.out W hW)).mono ?_
          rintro e w4 ⟨rfl, hb4⟩
          exact ⟨rfl, hW.step hb4⟩)
         simp only [Act.put, List.setIfInBounds_toArray, List.set_cons_zero, List.set_cons_succ]
         go_big_quiet_on)
      | (go_big_quiet_want
         apply Exists.intro
         refine ⟨fun W hW => ?_, ?_⟩
         (unfold Oper.quietAt
          go_simp
          go_at_call 32
          refine (HQ2.out W (HBX.out W hW)).mono ?_
          rintro e w4 ⟨rfl, hb4⟩
          exact ⟨rfl, hW.step hb4⟩)
         simp only [Act.put, List.setIfInBounds_toArray, List.set_cons_zero, List.set_cons_succ]
         go_big_quiet_on)
      | (go_big_quiet_want
         apply Exists.intro
         refine ⟨fun W hW => ?_, ?_⟩
         (unfold Oper.quietAt
          go_simp
          go_at_call 33
          refine (HQ3.out W (HBX.out W hW)).mono ?_
          rintro e w4 ⟨rfl, hb4⟩
          exact ⟨rfl, hW.step hb4⟩)
         simp only [Act.put, List.setIfInBounds_toArray, List.set_cons_zero, List.set_cons_succ]
         go_big_quiet_on)
      | (go_big_quiet_want
         apply Exists.intro
         refine ⟨fun W hW => ?_, ?_⟩
         (unfold Oper.quietAt
          go_simp
          go_at_call 35
          refine (HQ4.out W (HBX.out W hW)).mono ?_
          rintro e w4 ⟨rfl, hb4⟩
          exact ⟨rfl, hW.step hb4⟩)
         simp only [Act.put, List.setIfInBounds_toArray, List.set_cons_zero, List.set_cons_succ]
         go_big_quiet_on)
      | (go_big_quiet_want
         apply Exists.intro
         refine ⟨fun W hW => ?_, ?_⟩
         (unfold Oper.quietAt
          go_simp
          go_at_call 34
          refine (HQ5.out W).mono ?_
          rintro e w4 ⟨rfl, rfl⟩
          exact ⟨rfl, hW⟩)
         simp only [Act.put, List.setIfInBounds_toArray, List.set_cons_zero, List.set_cons_succ]
         go_big_quiet_on))
    refine wpQuiet_nil ?_
    intro W4 hW4
    go_wp2
    go_ret
    exact ⟨by rw [HE3.out]; rfl, HBX.out W4 hW4⟩
  by_cases hle : sv ≤ lim
  · refine quiet_region (C := Ext W3) (by kernel_rfl) (by kernel_rfl) HX.out ?_
    repeat (first
      | go_big_quiet_skip
      | (go_big_quiet_want; go_big_quiet_op; go_big_quiet_on)
      | (go_big_quiet_want; go_big_quiet_op; apply Exists.intro; refine ⟨fun _ _ => rfl, ?_⟩; go_big_quiet_on)
      | (go_big_quiet_want
         apply Exists.intro
         refine ⟨fun W hW => ?_, ?_⟩
         (have q1 := hW.cell P1.out (by omega)
          have q2 := hW.cell P2.out (by omega)
          have q5 := hW.cell P5.out (by omega)
          have q6 := hW.cell P6.out (by omega)
          have q7 := hW.cell P7.out (by omega)
          have q8 := hW.cell P8.out (by omega)
          have q9 := hW.cell P9.out (by omega)
          have q10 := hW.cell P10.out (by omega)
          unfold Oper.quietAt
          go_simp
          rfl)
         simp only [Act.put, List.setIfInBounds_toArray, List.set_cons_zero, List.set_cons_succ]
         go_big_quiet_on)
      | (go_big_quiet_want
         apply Exists.intro
         refine ⟨fun W hW => ?_, ?_⟩
         (unfold Oper.quietAt
          go_simp
          go_at_call 31
          refine (HQ1.out W (HBX.out W hW)).mono ?_
          rintro e w4 ⟨rfl, hb4⟩
          exact ⟨rfl, hW.step hb4⟩)
         simp only [Act.put, List.setIfInBounds_toArray, List.set_cons_zero, List.set_cons_succ]
         go_big_quiet_on)
      | (go_big_quiet_want
         apply Exists.intro
         refine ⟨fun W hW => ?_, ?_⟩
         (unfold Oper.quietAt
          go_simp
          go_at_call 32
          refine (HQ2.out W (HBX.out W hW)).mono ?_
          rintro e w4 ⟨rfl, hb4⟩
          exact ⟨rfl, hW.step hb4⟩)
         simp only [Act.put, List.setIfInBounds_toArray, List.set_cons_zero, List.set_cons_succ]
         go_big_quiet_on)
      | (go_big_quiet_want
         apply Exists.intro
         refine ⟨fun W hW => ?_, ?_⟩
         (unfold Oper.quietAt
          go_simp
          go_at_call 33
          refine (HQ3.out W (HBX.out W hW)).mono ?_
          rintro e w4 ⟨rfl, hb4⟩
          exact ⟨rfl, hW.step hb4⟩)
         simp only [Act.put, List.setIfInBounds_toArray, List.set_cons_zero, List.set_cons_succ]
         go_big_quiet_on)
      | (go_big_quiet_want
         apply Exists.intro
         refine ⟨fun W hW => ?_, ?_⟩
         (unfold Oper.quietAt
          go_simp
          go_at_call 35
          refine (HQ4.out W (HBX.out W hW)).mono ?_
          rintro e w4 ⟨rfl, hb4⟩
          exact ⟨rfl, hW.step hb4⟩)
         simp only [Act.put, List.setIfInBounds_toArray, List.set_cons_zero, List.set_cons_succ]
         go_big_quiet_on)
      | (go_big_quiet_want
         apply Exists.intro
         refine ⟨fun W hW => ?_, ?_⟩
         (unfold Oper.quietAt
          go_simp
          go_at_call 34
          refine (HQ5.out W).mono ?_
          rintro e w4 ⟨rfl, rfl⟩
          exact ⟨rfl, hW⟩)
         simp only [Act.put, List.setIfInBounds_toArray, List.set_cons_zero, List.set_cons_succ]
         go_big_quiet_on))
    refine wpQuiet_nil ?_
    intro W4 hW4
    go_wp2
    go_ret
    exact ⟨by rw [HE3.out]; simp [hle], HBX.out W4 hW4⟩
  · refine quiet_region (C := Ext W3) (by kernel_rfl) (by kernel_rfl) HX.out ?_
    repeat (first
      | go_big_quiet_skip
      | (go_big_quiet_want; go_big_quiet_op; go_big_quiet_on)
      | (go_big_quiet_want; go_big_quiet_op; apply Exists.intro; refine ⟨fun _ _ => rfl, ?_⟩; go_big_quiet_on)
      | (go_big_quiet_want
         apply Exists.intro
         refine ⟨fun W hW => ?_, ?_⟩
         (have q1 := hW.cell P1.out (by omega)
          have q2 := hW.cell P2.out (by omega)
          have q5 := hW.cell P5.out (by omega)
          have q6 := hW.cell P6.out (by omega)
          have q7 := hW.cell P7.out (by omega)
          have q8 := hW.cell P8.out (by omega)
          have q9 := hW.cell P9.out (by omega)
          have q10 := hW.cell P10.out (by omega)
          unfold Oper.quietAt
          go_simp
          rfl)
         simp only [Act.put, List.setIfInBounds_toArray, List.set_cons_zero, List.set_cons_succ]
         go_big_quiet_on)
      | (go_big_quiet_want
         apply Exists.intro
         refine ⟨fun W hW => ?_, ?_⟩
         (unfold Oper.quietAt
          go_simp
          go_at_call 31
          refine (HQ1.out W (HBX.out W hW)).mono ?_
          rintro e w4 ⟨rfl, hb4⟩
          exact ⟨rfl, hW.step hb4⟩)
         simp only [Act.put, List.setIfInBounds_toArray, List.set_cons_zero, List.set_cons_succ]
         go_big_quiet_on)
      | (go_big_quiet_want
         apply Exists.intro
         refine ⟨fun W hW => ?_, ?_⟩
         (unfold Oper.quietAt
          go_simp
          go_at_call 32
          refine (HQ2.out W (HBX.out W hW)).mono ?_
          rintro e w4 ⟨rfl, hb4⟩
          exact ⟨rfl, hW.step hb4⟩)
         simp only [Act.put, List.setIfInBounds_toArray, List.set_cons_zero, List.set_cons_succ]
         go_big_quiet_on)
      | (go_big_quiet_want
         apply Exists.intro
         refine ⟨fun W hW => ?_, ?_⟩
         (unfold Oper.quietAt
          go_simp
          go_at_call 33
          refine (HQ3.out W (HBX.out W hW)).mono ?_
          rintro e w4 ⟨rfl, hb4⟩
          exact ⟨rfl, hW.step hb4⟩)
         simp only [Act.put, List.setIfInBounds_toArray, List.set_cons_zero, List.set_cons_succ]
         go_big_quiet_on)
      | (go_big_quiet_want
         apply Exists.intro
         refine ⟨fun W hW => ?_, ?_⟩
         (unfold Oper.quietAt
          go_simp
          go_at_call 35
          refine (HQ4.out W (HBX.out W hW)).mono ?_
          rintro e w4 ⟨rfl, hb4⟩
          exact ⟨rfl, hW.step hb4⟩)
         simp only [Act.put, List.setIfInBounds_toArray, List.set_cons_zero, List.set_cons_succ]
         go_big_quiet_on)
      | (go_big_quiet_want
         apply Exists.intro
         refine ⟨fun W hW => ?_, ?_⟩
         (unfold Oper.quietAt
          go_simp
          go_at_call 34
          refine (HQ5.out W).mono ?_
          rintro e w4 ⟨rfl, rfl⟩
          exact ⟨rfl, hW⟩)
         simp only [Act.put, List.setIfInBounds_toArray, List.set_cons_zero, List.set_cons_succ]
         go_big_quiet_on))
    refine wpQuiet_nil ?_
    intro W4 hW4
    go_wp2
    go_ret
    exact ⟨by rw [HE3.out]; simp [hle], HBX.out W4 hW4⟩
end Go.Proofs.YtpeeagkfhdeagaaDoor
/- RingNew of the reference; no conditions. -/
set_option linter.unusedVariables false
namespace Go.Proofs.YtpeeagkfhdeagaaDoor
open Go.ChangeShapes Go.WideShapes Go.ChangeAt Go.RowKit

set_option maxRecDepth 100000 in
theorem infoIntN : (Tryd.prog.info? 3).map (fun i => (i.zero.map (·.cells), i.size, i.bytes)) = some (some #[.int .i64 0], 1, 8) := by kernel_rfl
def ringNew (n sp : Int) : RingD × Bool := if (inB n 1 8 && inB sp 1 1000) = true then ((sp, 0, List.replicate n.toNat 0, List.replicate n.toNat 0), true) else ((0, 0, [], []), false)
def ringRes (r : RingD) (ok : Bool) (w : World) (e : Ending) (w' : World) : Prop := ∃ vc vs, e = .returned (.tuple #[.agg #[.int .i64 r.1, .int .i64 r.2.1, vc, vs], .bool ok]) ∧ RingR.mine w.heap.size w'.heap.size w' [.int .i64 r.1, .int .i64 r.2.1, vc, vs] r ∧ Below w.heap.size w w'

set_option maxRecDepth 100000 in
theorem ringNew_len (n sp : Int) : (ringNew n sp).1.2.2.1.length ≤ 8 ∧ (ringNew n sp).1.2.2.2.length ≤ 8 := by
  unfold ringNew
  split
  · rename_i h
    simp only [Bool.and_eq_true, inB, decide_eq_true_eq] at h
    simp only [List.length_replicate]; omega
  · exact ⟨Nat.zero_le _, Nat.zero_le _⟩

set_option maxRecDepth 100000 in
/-- zeros that have just been made -/
theorem made_nums {w : World} {g k lo hi : Nat} {T : TypeId} (u : World) (hu : u.heap.size = g) (h : w.heap[g]? = (u.alloc (.cells (madeCells #[.int .i64 0] k) T)).heap[g]?) (h1 : lo ≤ g) (h2 : g < hi) : nums .i64 lo hi w (.slice (some ⟨g, 0, none⟩) k k) (List.replicate k 0) := by
  subst hu
  have hr := World.rowIs_made u (.int .i64 0) k T
  refine ⟨_, k, by simp, by simp, fun j hj => ⟨u.heap.size, 0, rfl, h1, h2, ?_, ?_⟩⟩
  · rw [List.length_replicate] at hj
    rw [Nat.zero_add, cell_keep h, World.rowIs.cell hr hj, List.getD_eq_getElem?_getD, List.getElem?_replicate, if_pos hj]
    rfl
  · rw [frozen_keep h]; exact World.rowIs.frozen hr _

set_option maxRecDepth 100000 in
set_option maxHeartbeats 4000000 in
theorem specRingNew_any (n sp : Int) (w : World) :
    Calls Tryd.prog 14 #[.int .i64 n, .int .i64 sp] w (ringRes (ringNew n sp).1 (ringNew n sp).2 w) := by
  have HD : Hid (ringNew n sp = if (inB n 1 8 && inB sp 1 1000) = true then ((sp, 0, List.replicate n.toNat 0, List.replicate n.toNat 0), true) else ((0, 0, [], []), false)) := Lib.hid rfl
  have HI1 := Lib.hid (fun w => inB_any n 1 8 w)
  have HI2 := Lib.hid (fun w => inB_any sp 1 1000 w)
  have hn8 : inB n 1 8 = true → 1 ≤ n ∧ n ≤ 8 := fun h => by simpa [inB] using h
  generalize inB n 1 8 = b1 at HI1 HD hn8
  generalize inB sp 1 1000 = b2 at HI2 HD
  have hrow := heap_alloc_new w (.cells #[.int .i64 0, .int .i64 0, .slice none 0 0, .slice none 0 0] 25)
  have HB0 : Hid (Below w.heap.size w (w.alloc (.cells #[.int .i64 0, .int .i64 0, .slice none 0 0, .slice none 0 0] 25))) := Lib.hid ((Below.refl _ _).alloc (Nat.le_refl _) _)
  cases b1
  · clear hn8
    go_enter Tryd.func14, Tryd.ntmps14
    go_wp2_with fail
    refine (HI1.out _).mono ?_
    rintro e w1 ⟨rfl, rfl⟩
    go_wp2
    refine bodyPost_ret (v := .tuple #[.agg #[.int .i64 0, .int .i64 0, .slice none 0 0, .slice none 0 0], .bool false]) (by simp [results, Tryd.results14, go_sem]) rfl ?_
    rw [HD.out]
    exact ⟨_, _, rfl, ring_mine_of (nums_none _ _ _ _) (nums_none _ _ _ _) (by intro b h; cases h), HB0.out⟩
  cases b2
  · clear hn8
    go_enter Tryd.func14, Tryd.ntmps14
    go_wp2_with fail
    refine (HI1.out _).mono ?_
    rintro e w1 ⟨rfl, rfl⟩
    go_wp2_with fail
    refine (HI2.out _).mono ?_
    rintro e w1 ⟨rfl, rfl⟩
    go_wp2
    refine bodyPost_ret (v := .tuple #[.agg #[.int .i64 0, .int .i64 0, .slice none 0 0, .slice none 0 0], .bool false]) (by simp [results, Tryd.results14, go_sem]) rfl ?_
    rw [HD.out]
    exact ⟨_, _, rfl, ring_mine_of (nums_none _ _ _ _) (nums_none _ _ _ _) (by intro b h; cases h), HB0.out⟩
  obtain ⟨h1, h2⟩ := hn8 rfl
  obtain ⟨k, rfl⟩ := Int.eq_ofNat_of_zero_le (show 0 ≤ n by omega)
  have hmk := fun W => make_run (P := Tryd.prog) 23 3 #[.int .i64 0] 1 8 Tryd.underlying23 infoIntN k (by omega) (by omega) W
  clear hn8
  go_enter Tryd.func14, Tryd.ntmps14
  go_wp2_with fail
  refine (HI1.out _).mono ?_
  rintro e w1 ⟨rfl, rfl⟩
  go_wp2_with fail
  refine (HI2.out _).mono ?_
  rintro e w1 ⟨rfl, rfl⟩
  go_wp2
  go_region
  · go_wp2
    refine bodyPost_ret (v := .tuple #[.agg #[.int .i64 sp, .int .i64 0, .slice (some ⟨w.heap.size + 1, 0, none⟩) k k, .slice (some ⟨w.heap.size + 1 + 1, 0, none⟩) k k], .bool true]) (by simp [results, Tryd.results14, go_sem]) rfl ?_
    rw [HD.out]
    refine ⟨_, _, rfl, ring_mine_of (?_) (?_) (by intro b h h'; cases k <;> simp [Proofs.YtpeeagkfhdeagaaDoor.blk] at h h'; omega), ((((Below.refl _ _).alloc (Nat.le_refl _) _).alloc (by simp) _).alloc (by simp <;> omega) _).drew⟩
    · show nums .i64 _ _ _ _ (List.replicate k 0)
      exact made_nums (w.alloc _) (by simp) (show (((w.alloc _).alloc _).alloc _).heap[_]? = _ from Below.heap_alloc _ _ _ (by simp)) (by omega) (by show _ < (((w.alloc _).alloc _).alloc _).heap.size; simp)
    · show nums .i64 _ _ _ _ (List.replicate k 0)
      exact made_nums ((w.alloc _).alloc _) (by simp) (show (((w.alloc _).alloc _).alloc _).heap[_]? = _ from rfl) (by omega) (by show _ < (((w.alloc _).alloc _).alloc _).heap.size; simp)
  · go_wp2
    refine bodyPost_ret (v := .tuple #[.agg #[.int .i64 sp, .int .i64 0, .slice (some ⟨w.heap.size + 1 + 1, 0, none⟩) k k, .slice (some ⟨w.heap.size + 1, 0, none⟩) k k], .bool true]) (by simp [results, Tryd.results14, go_sem]) rfl ?_
    rw [HD.out]
    refine ⟨_, _, rfl, ring_mine_of (?_) (?_) (by intro b h h'; cases k <;> simp [Proofs.YtpeeagkfhdeagaaDoor.blk] at h h'; omega), ((((Below.refl _ _).alloc (Nat.le_refl _) _).alloc (by simp) _).alloc (by simp <;> omega) _).drew⟩
    · show nums .i64 _ _ _ _ (List.replicate k 0)
      exact made_nums ((w.alloc _).alloc _) (by simp) (show (((w.alloc _).alloc _).alloc _).heap[_]? = _ from rfl) (by omega) (by show _ < (((w.alloc _).alloc _).alloc _).heap.size; simp)
    · show nums .i64 _ _ _ _ (List.replicate k 0)
      exact made_nums (w.alloc _) (by simp) (show (((w.alloc _).alloc _).alloc _).heap[_]? = _ from Below.heap_alloc _ _ _ (by simp)) (by omega) (by show _ < (((w.alloc _).alloc _).alloc _).heap.size; simp)
end Go.Proofs.YtpeeagkfhdeagaaDoor
/- AcctNew of the reference; no conditions. -/
set_option linter.unusedVariables false
namespace Go.Proofs.YtpeeagkfhdeagaaDoor
open Go.ChangeShapes Go.WideShapes Go.ChangeAt Go.RowKit

set_option maxRecDepth 100000 in
theorem slots_none (lo hi : Nat) (w : World) : SlotsR.mine lo hi w [.slice none 0 0] [] := ⟨[], ⟨none, 0, rfl, Nat.le_refl _, .inl ⟨rfl, rfl⟩⟩, List.nodup_nil, by simp⟩
abbrev acctNil : AcctD := (⟨#[]⟩, 0, 0, 0, 0, [], (0, 0, [], []), [])
abbrev acctFresh (id : ByteArray) (lim most sum : Int) (r : RingD) : AcctD := (id, lim, 0, most, sum, [], r, [])
def acctNew (id : ByteArray) (lim most sum n sp : Int) : AcctD × Bool := if ((ringNew n sp).2 && acctOk (acctFresh id lim most sum (ringNew n sp).1)) = true then (acctFresh id lim most sum (ringNew n sp).1, true) else (acctNil, false)
/-- an account and a truth as they are given back -/
def acctRes (a : AcctD) (ok : Bool) (w : World) (e : Ending) (w' : World) : Prop := ∃ vh vc vs vl, e = .returned (.tuple #[.agg #[.string (aId a), .int .i64 (aLim a), .int .i64 (aPos a), .int .i64 (aMost a), .int .i64 (aSum a), vh, .int .i64 (aR a).1, .int .i64 (aR a).2.1, vc, vs, vl], .bool ok]) ∧ AcctR.mine w.heap.size w'.heap.size w' (aCells a vh vc vs vl) a ∧ Below w.heap.size w w'
set_option maxRecDepth 100000 in
set_option maxHeartbeats 4000000 in
theorem specAcctNew_any (id : ByteArray) (lim most sum n sp : Int) (w : World) (hid : id.size ≤ maxLen) :
    Calls Tryd.prog 5 #[.string id, .int .i64 lim, .int .i64 most, .int .i64 sum, .int .i64 n, .int .i64 sp] w (acctRes (acctNew id lim most sum n sp).1 (acctNew id lim most sum n sp).2 w) := by
  have HRN := Lib.hid (fun W => specRingNew_any n sp W)
  have hl := ringNew_len n sp
  have HOK := Lib.hid (fun (hi : Nat) (vc vs : Value) (W : World) (h1 : rd .i64 hi W vc (ringNew n sp).1.2.2.1) (h2 : rd .i64 hi W vs (ringNew n sp).1.2.2.2) (hW : hi ≤ W.heap.size) => specAcctOk_any hi (.slice none 0 0) vc vs (.slice none 0 0) (acctFresh id lim most sum (ringNew n sp).1) W ⟨Nat.zero_le _, Nat.le_trans hl.1 (by decide), Nat.le_trans hl.2 (by decide), Nat.zero_le _, fun x hx => (by cases hx)⟩ ⟨hid, Nat.zero_le _, fun x hx => (by cases hx), Nat.le_trans hl.1 (by decide), Nat.le_trans hl.2 (by decide), Nat.zero_le _, fun x hx => (by cases hx)⟩ (acct_rd_of (holds_none 0 hi W).rd h1 h2 (slots_none 0 hi W).rd) hW)
  clear hl hid
  have HD : Hid (acctNew id lim most sum n sp = if ((ringNew n sp).2 && acctOk (acctFresh id lim most sum (ringNew n sp).1)) = true then (acctFresh id lim most sum (ringNew n sp).1, true) else (acctNil, false)) := Lib.hid rfl
  generalize acctOk (acctFresh id lim most sum (ringNew n sp).1) = ao at HD HOK
  generalize acctNew id lim most sum n sp = an at HD ⊢
  obtain ⟨⟨r, ok⟩, hr⟩ : ∃ r, r = ringNew n sp := ⟨_, rfl⟩
  rw [← hr] at HD HOK HRN
  clear hr
  obtain ⟨sp2, hd, cs, ss⟩ := r
  simp only [aId, aLim, aPos, aMost, aSum] at HRN HOK
  go_enter Tryd.func5, Tryd.ntmps5
  go_upto_region 1 with fail
  obtain ⟨W, hW⟩ : ∃ W, W = w.alloc (.cells #[.string ⟨#[]⟩, .int .i64 0, .int .i64 0, .int .i64 0, .int .i64 0, .slice none 0 0, .int .i64 0, .int .i64 0, .slice none 0 0, .slice none 0 0, .slice none 0 0] 28) := ⟨_, rfl⟩
  have b0 : bk W w.heap.size 28 [.string ⟨#[]⟩, .int .i64 0, .int .i64 0, .int .i64 0, .int .i64 0, .slice none 0 0, .int .i64 0, .int .i64 0, .slice none 0 0, .slice none 0 0, .slice none 0 0] := by rw [hW]; exact bk.new w _ _
  have HB0 : Hid (Below w.heap.size w W) := Lib.hid (by rw [hW]; exact (Below.refl _ _).alloc (Nat.le_refl _) _)
  rw [← hW]
  clear hW
  have y0 := b0.lt
  have B0 := Lib.hid b0
  clear b0
  go_wp2_with fail
  refine (HRN.out W).mono ?_
  rintro e w1 ⟨vc, vs, rfl, hm1, hb1⟩
  obtain ⟨xc, xs, hcs, q2, q3⟩ := ring_rd hm1.rd
  simp only [List.cons.injEq, and_true, true_and] at hcs
  obtain ⟨rfl, rfl⟩ := hcs
  obtain ⟨A3, c3, rfl, -⟩ := q2.form
  obtain ⟨A4, c4, rfl, -⟩ := q3.form
  simp only at hm1 q2 q3 ⊢
  have z1 := hb1.size
  have HM1 := Lib.hid hm1
  have HQ := Lib.hid (And.intro q2 q3)
  have HB1 : Hid (Below w.heap.size w w1) := Lib.hid (HB0.out.trans (hb1.mono (by omega)))
  have C0 := Lib.hid (B0.out.below hb1 (by omega))
  clear hm1 hb1 HB0 HRN B0 q2 q3
  go_upto_region 3 with fail
  obtain ⟨W3, hW3⟩ : ∃ W3, W3 = (w1.alloc (.cells #[.int .i64 sp2, .int .i64 hd, .slice A3 cs.length c3, .slice A4 ss.length c4] 25)).alloc (.cells #[.string id, .int .i64 lim, .int .i64 0, .int .i64 most, .int .i64 sum, .slice none 0 0, .int .i64 sp2, .int .i64 hd, .slice A3 cs.length c3, .slice A4 ss.length c4, .slice none 0 0] 28) := ⟨_, rfl⟩
  have b2 : bk W3 (w1.heap.size + 1) 28 [.string id, .int .i64 lim, .int .i64 0, .int .i64 most, .int .i64 sum, .slice none 0 0, .int .i64 sp2, .int .i64 hd, .slice A3 cs.length c3, .slice A4 ss.length c4, .slice none 0 0] := by rw [hW3]; simpa using bk.new (w1.alloc _) 28 [.string id, .int .i64 lim, .int .i64 0, .int .i64 most, .int .i64 sum, .slice none 0 0, .int .i64 sp2, .int .i64 hd, .slice A3 cs.length c3, .slice A4 ss.length c4, .slice none 0 0]
  have hb3 : Below w1.heap.size w1 W3 := by rw [hW3]; exact ((Below.refl _ _).alloc (Nat.le_refl _) _).alloc (by simp) _
  rw [← hW3]
  clear hW3
  have z3 := b2.lt
  have B0 := Lib.hid (C0.out.below hb3 (by omega))
  have B2 := Lib.hid b2
  have HM3 := Lib.hid (HM1.out.below hb3 (Nat.le_refl _))
  have HQ3 := Lib.hid (And.intro (HQ.out.1.below hb3 (Nat.le_refl _)) (HQ.out.2.below hb3 (Nat.le_refl _)))
  have HB3 : Hid (Below w.heap.size w W3) := Lib.hid (HB1.out.trans (hb3.mono (by omega)))
  clear hb3 b2 C0 HM1 HB1 HQ
  cases ok
  · have b1 := B0.out
    replace HD : Hid (an = (acctNil, false)) := Lib.hid (by rw [HD.out]; rfl)
    clear HOK B0 B2 HQ3
    obtain ⟨⟨r0, r1, r2, r3, r4, r5, r6, r7, r8, r9, r10⟩, g0, g1, g2, g3, g4, g5, g6, g7, g8, g9, g10⟩ := b1.eleven
    clear b1
    go_wp2
    refine bodyPost_ret (v := .tuple #[.agg #[.string ⟨#[]⟩, .int .i64 0, .int .i64 0, .int .i64 0, .int .i64 0, .slice none 0 0, .int .i64 0, .int .i64 0, .slice none 0 0, .slice none 0 0, .slice none 0 0], .bool false]) (by simp [results, Tryd.results5, go_sem, r0, r1, r2, r3, r4, r5, r6, r7, r8, r9, r10]) rfl ?_
    have ht := (((((((((((Turned.refl w.heap.size (w.heap.size + 1) W3).set (b := w.heap.size) 0 (.string ⟨#[]⟩) (by omega) (by omega)).set (b := w.heap.size) 1 (.int .i64 0) (by omega) (by omega)).set (b := w.heap.size) 2 (.int .i64 0) (by omega) (by omega)).set (b := w.heap.size) 3 (.int .i64 0) (by omega) (by omega)).set (b := w.heap.size) 4 (.int .i64 0) (by omega) (by omega)).set (b := w.heap.size) 5 (.slice none 0 0) (by omega) (by omega)).set (b := w.heap.size) 6 (.int .i64 0) (by omega) (by omega)).set (b := w.heap.size) 7 (.int .i64 0) (by omega) (by omega)).set (b := w.heap.size) 8 (.slice none 0 0) (by omega) (by omega)).set (b := w.heap.size) 9 (.slice none 0 0) (by omega) (by omega)).set (b := w.heap.size) 10 (.slice none 0 0) (by omega) (by omega)
    have hsz := ht.size
    rw [HD.out]
    exact ⟨_, _, _, _, rfl, acct_mine_ivl (p1 := w.heap.size) (p2 := w.heap.size) (holds_none _ _ _) (ring_mine_of (nums_none _ _ _ _) (nums_none _ _ _ _) (by intro b h; cases h)) (slots_none _ _ _) (by omega) (by omega) (by omega), HB3.out.trans (ht.below (by omega) (by omega))⟩
  obtain ⟨⟨p0, p1, p2, p3, p4, p5, p6, p7, p8, p9, p10⟩, -⟩ := B2.out.eleven
  go_wp2_with fail
  refine (HOK.out w1.heap.size _ _ W3 HQ3.out.1 HQ3.out.2 (by omega)).mono ?_
  rintro e w4 ⟨rfl, hb4⟩
  have z4 := hb4.size
  have b1 := B0.out.below hb4 (by omega)
  have b2 := B2.out.below hb4 (by omega)
  have HM4 := Lib.hid (HM3.out.below hb4 (by omega))
  have HB4 : Hid (Below w.heap.size w w4) := Lib.hid (HB3.out.trans (hb4.mono (by omega)))
  clear hb4 HOK B0 B2 HQ3 HM3 HB3 p0 p1 p2 p3 p4 p5 p6 p7 p8 p9 p10
  cases ao
  · replace HD : Hid (an = (acctNil, false)) := Lib.hid (by rw [HD.out]; rfl)
    clear b2
    obtain ⟨⟨r0, r1, r2, r3, r4, r5, r6, r7, r8, r9, r10⟩, g0, g1, g2, g3, g4, g5, g6, g7, g8, g9, g10⟩ := b1.eleven
    clear b1
    go_wp2
    refine bodyPost_ret (v := .tuple #[.agg #[.string ⟨#[]⟩, .int .i64 0, .int .i64 0, .int .i64 0, .int .i64 0, .slice none 0 0, .int .i64 0, .int .i64 0, .slice none 0 0, .slice none 0 0, .slice none 0 0], .bool false]) (by simp [results, Tryd.results5, go_sem, r0, r1, r2, r3, r4, r5, r6, r7, r8, r9, r10]) rfl ?_
    have ht := (((((((((((Turned.refl w.heap.size (w.heap.size + 1) w4).set (b := w.heap.size) 0 (.string ⟨#[]⟩) (by omega) (by omega)).set (b := w.heap.size) 1 (.int .i64 0) (by omega) (by omega)).set (b := w.heap.size) 2 (.int .i64 0) (by omega) (by omega)).set (b := w.heap.size) 3 (.int .i64 0) (by omega) (by omega)).set (b := w.heap.size) 4 (.int .i64 0) (by omega) (by omega)).set (b := w.heap.size) 5 (.slice none 0 0) (by omega) (by omega)).set (b := w.heap.size) 6 (.int .i64 0) (by omega) (by omega)).set (b := w.heap.size) 7 (.int .i64 0) (by omega) (by omega)).set (b := w.heap.size) 8 (.slice none 0 0) (by omega) (by omega)).set (b := w.heap.size) 9 (.slice none 0 0) (by omega) (by omega)).set (b := w.heap.size) 10 (.slice none 0 0) (by omega) (by omega)
    have hsz := ht.size
    rw [HD.out]
    exact ⟨_, _, _, _, rfl, acct_mine_ivl (p1 := w.heap.size) (p2 := w.heap.size) (holds_none _ _ _) (ring_mine_of (nums_none _ _ _ _) (nums_none _ _ _ _) (by intro b h; cases h)) (slots_none _ _ _) (by omega) (by omega) (by omega), HB4.out.trans (ht.below (by omega) (by omega))⟩
  · replace HD : Hid (an = ((id, lim, 0, most, sum, [], (sp2, hd, cs, ss), []), true)) := Lib.hid (by rw [HD.out]; rfl)
    obtain ⟨⟨p0, p1, p2, p3, p4, p5, p6, p7, p8, p9, p10⟩, -⟩ := b2.eleven
    clear b2
    obtain ⟨⟨r0, r1, r2, r3, r4, r5, r6, r7, r8, r9, r10⟩, g0, g1, g2, g3, g4, g5, g6, g7, g8, g9, g10⟩ := b1.eleven
    clear b1
    go_wp2
    refine bodyPost_ret (v := .tuple #[.agg #[.string id, .int .i64 lim, .int .i64 0, .int .i64 most, .int .i64 sum, .slice none 0 0, .int .i64 sp2, .int .i64 hd, .slice A3 cs.length c3, .slice A4 ss.length c4, .slice none 0 0], .bool true]) (by simp [results, Tryd.results5, go_sem, r0, r1, r2, r3, r4, r5, r6, r7, r8, r9, r10]) rfl ?_
    have ht := (((((((((((Turned.refl w.heap.size (w.heap.size + 1) w4).set (b := w.heap.size) 0 (.string id) (by omega) (by omega)).set (b := w.heap.size) 1 (.int .i64 lim) (by omega) (by omega)).set (b := w.heap.size) 2 (.int .i64 0) (by omega) (by omega)).set (b := w.heap.size) 3 (.int .i64 most) (by omega) (by omega)).set (b := w.heap.size) 4 (.int .i64 sum) (by omega) (by omega)).set (b := w.heap.size) 5 (.slice none 0 0) (by omega) (by omega)).set (b := w.heap.size) 6 (.int .i64 sp2) (by omega) (by omega)).set (b := w.heap.size) 7 (.int .i64 hd) (by omega) (by omega)).set (b := w.heap.size) 8 (.slice A3 cs.length c3) (by omega) (by omega)).set (b := w.heap.size) 9 (.slice A4 ss.length c4) (by omega) (by omega)).set (b := w.heap.size) 10 (.slice none 0 0) (by omega) (by omega)
    have hsz := ht.size
    rw [HD.out]
    exact ⟨_, _, _, _, rfl, acct_mine_ivl (p1 := w.heap.size) (p2 := w1.heap.size) (holds_none _ _ _) ((HM4.out.turned ht (.inr (by omega)) (by omega)).mono (by omega) (by omega)) (slots_none _ _ _) (by omega) (by omega) (by omega), HB4.out.trans (ht.below (by omega) (by omega))⟩
end Go.Proofs.YtpeeagkfhdeagaaDoor
/- AcctIdOk of the program; no conditions. -/
set_option linter.unusedVariables false
namespace Go.Proofs.YtpeeagkfhdeagaaDoor
open Go.ChangeShapes Go.WideShapes Go.ChangeAt Go.RowKit

set_option maxRecDepth 100000 in
theorem implAcctIdOk_any (s : ByteArray) (w : World) (hs : s.size ≤ maxLen) :
    Calls Tryd.prog 63 #[.string s] w fun e w' => e = .returned (.bool (acctIdB s)) ∧ Below w.heap.size w w' := by
  by_cases h : s.size ≤ 19
  · have HI : Hid (acctIdB s = luOk s) := Lib.hid (by unfold acctIdB; rw [decide_eq_true h]; rfl)
    have HL := Lib.hid (fun w => implLuhnOk_any s w (by omega))
    have h' : (s.size : Int) ≤ 19 := by omega
    rw [HI.out]
    generalize luOk s = b at HL
    go_enter Tryd.func63, Tryd.ntmps63
    go_wp2_with fail
    refine (HL.out _).mono ?_
    rintro e w1 ⟨rfl, hb⟩
    go_wp2
    go_ret
    exact ⟨rfl, hb⟩
  · have HI : Hid (acctIdB s = false) := Lib.hid (by unfold acctIdB; rw [decide_eq_false h]; rfl)
    have h' : ¬ (s.size : Int) ≤ 19 := by omega
    rw [HI.out]
    go_enter Tryd.func63, Tryd.ntmps63
    go_wp2
    go_ret
    exact ⟨rfl, Below.refl _ _⟩
end Go.Proofs.YtpeeagkfhdeagaaDoor
/- RingOk of the program and what it calls; no conditions. -/
set_option linter.unusedVariables false
namespace Go.Proofs.YtpeeagkfhdeagaaDoor
open Go.ChangeShapes Go.WideShapes Go.ChangeAt Go.RowKit

set_option maxRecDepth 100000 in
theorem implTime_any (n : Int) (w : World) : Calls Tryd.prog 80 #[.int .i64 n] w fun e w' => e = .returned (.bool (timeB n)) ∧ w = w' := by
  by_cases h0 : 0 ≤ n
  all_goals
    go_enter Tryd.func80, Tryd.ntmps80
    go_wp2
    go_ret
    exact ⟨by simp [timeB, inB]; omega, rfl⟩
set_option maxRecDepth 100000 in
theorem implSpan_any (n : Int) (w : World) : Calls Tryd.prog 42 #[.int .i64 n] w fun e w' => e = .returned (.bool (inB n 1 1000)) ∧ w = w' := by
  by_cases h0 : 1 ≤ n
  all_goals
    go_enter Tryd.func42, Tryd.ntmps42
    go_wp2
    go_ret
    exact ⟨by simp [inB]; omega, rfl⟩
set_option maxRecDepth 100000 in
theorem implBuckets_any (n : Int) (w : World) : Calls Tryd.prog 41 #[.int .i64 n] w fun e w' => e = .returned (.bool (inB n 1 8)) ∧ w = w' := by
  by_cases h0 : 1 ≤ n
  all_goals
    go_enter Tryd.func41, Tryd.ntmps41
    go_wp2
    go_ret
    exact ⟨by simp [inB]; omega, rfl⟩
set_option maxRecDepth 100000 in
theorem implIsMon_any (n : Int) (w : World) : Calls Tryd.prog 78 #[.int .i64 n] w fun e w' => e = .returned (.bool (isMon n)) ∧ w = w' := by
  by_cases h0 : 0 ≤ n
  all_goals
    go_enter Tryd.func78, Tryd.ntmps78
    go_wp2
    go_ret
    exact ⟨by simp [isMon]; omega, rfl⟩
set_option maxRecDepth 100000 in
set_option maxHeartbeats 1600000 in
theorem implAll_any (hi : Nat) (v : Value) (l : List Int) (w : World) (h : rd .i64 hi w v l) (hl : l.length ≤ 1048576) :
    Calls Tryd.prog 81 #[v] w fun e w' => e = .returned (.bool (l.all isMon)) ∧ w = w' := by
  obtain ⟨A, c, rfl, -⟩ := h.form
  have HC := Lib.hid h
  clear h
  go_enter Tryd.func81, Tryd.ntmps81
  go_wp2
  go_loop [7] (fun iv => ∃ i : Nat, i ≤ l.length ∧ iv = .int .i64 i ∧ Hid ((l.take i).all isMon = true)) (fun iv => l.length - (intOf iv).toNat)
  case atStart => exact ⟨0, Nat.zero_le _, rfl, Lib.hid rfl⟩
  case round =>
    obtain ⟨i, hi', rfl, HA⟩ := hrel
    by_cases hin : i < l.length
    · obtain ⟨x, hx⟩ : ∃ x, l[i]? = some x := ⟨_, List.getElem?_eq_getElem hin⟩
      obtain ⟨p, o, rfl, hp, d0⟩ := ring_at HC.out hx
      have HX := Lib.hid (all_snoc hx HA.out)
      have HMX := Lib.hid (fun w => implIsMon_any x w)
      have HLX := Lib.hid (all_fail hx)
      have g1 : (i : Int) < (l.length : Int) := by omega
      have g2 : 0 ≤ (i : Int) := by omega
      clear hx
      generalize isMon x = mx at HX HMX HLX
      cases mx
      · have HF := Lib.hid (HLX.out rfl)
        go_wp2_with fail
        refine (HMX.out _).mono ?_
        rintro e w2 ⟨rfl, rfl⟩
        go_wp2
        go_ret
        exact ⟨by rw [HF.out]; rfl, rfl⟩
      · go_wp2_with fail
        refine (HMX.out _).mono ?_
        rintro e w2 ⟨rfl, rfl⟩
        go_wp2
        go_round
        case rel => exact ⟨i + 1, by omega, by go_num, Lib.hid (HX.out trivial)⟩
        case measure => simp [intOf] <;> omega
    · obtain rfl : i = l.length := by omega
      have HF : Hid (l.all isMon = true) := Lib.hid (by have h1 := HA.out; rwa [List.take_length] at h1)
      go_wp2
      go_ret
      exact ⟨by rw [HF.out]; rfl, rfl⟩
set_option maxRecDepth 100000 in
set_option maxHeartbeats 4000000 in
theorem implRingOk_any (hi : Nat) (vc vs : Value) (r : RingD) (w : World) (hc : rd .i64 hi w vc r.2.2.1) (hs : rd .i64 hi w vs r.2.2.2) (hh : hi ≤ w.heap.size) (hlc : r.2.2.1.length ≤ 1048576) (hls : r.2.2.2.length ≤ 1048576) :
    Calls Tryd.prog 66 #[.agg #[.int .i64 r.1, .int .i64 r.2.1, vc, vs]] w fun e w' => e = .returned (.bool (ringOk r)) ∧ Below w.heap.size w w' := by
  obtain ⟨sp, hd, cs, ss⟩ := r
  simp only at hc hs hlc hls ⊢
  obtain ⟨AC, cC, rfl, hcC⟩ := hc.form
  obtain ⟨AS, cS, rfl, hcS⟩ := hs.form
  have HB0 : Hid (Below w.heap.size w (w.alloc (.cells #[.int .i64 sp, .int .i64 hd, .slice AC cs.length cC, .slice AS ss.length cS] 25))) := Lib.hid ((Below.refl _ _).alloc (Nat.le_refl _) _)
  have HE : Hid (ringOk (sp, hd, cs, ss) = ((inB sp 1 1000 && (inB (cs.length : Int) 1 8 && (((cs.length : Int) == (ss.length : Int)) && timeB hd))) && (cs.all isMon && ss.all isMon))) := Lib.hid (by
    have e : decide (ss.length = cs.length) = ((cs.length : Int) == (ss.length : Int)) := by
      by_cases h : ss.length = cs.length
      · rw [h]; simp
      · rw [decide_eq_false h]; symm; simp; omega
    rw [← e]; rfl)
  have HI1 := Lib.hid (fun w => implSpan_any sp w)
  have HI2 := Lib.hid (fun w => implBuckets_any (cs.length : Int) w)
  have HT := Lib.hid (fun w => implTime_any hd w)
  have HA1 := Lib.hid (implAll_any hi _ cs _ (hc.below HB0.out hh) hlc)
  have HA2 := Lib.hid (implAll_any hi _ ss _ (hs.below HB0.out hh) hls)
  clear hc hs
  generalize inB sp 1 1000 = b1 at HI1 HE
  generalize inB (cs.length : Int) 1 8 = b2 at HI2 HE
  generalize timeB hd = b4 at HT HE
  generalize cs.all isMon = m1 at HA1 HE
  generalize ss.all isMon = m2 at HA2 HE
  obtain ⟨d, hd5⟩ : ∃ d, d = ((cs.length : Int) == (ss.length : Int)) := ⟨_, rfl⟩
  rw [← hd5] at HE
  go_enter Tryd.func66, Tryd.ntmps66
  go_wp2_with fail
  refine (HI1.out _).mono ?_
  rintro e w1 ⟨rfl, rfl⟩
  cases b1
  · go_wp2
    go_ret
    exact ⟨by rw [HE.out]; simp, HB0.out⟩
  go_wp2_with fail
  refine (HT.out _).mono ?_
  rintro e w1 ⟨rfl, rfl⟩
  cases b4
  · go_wp2
    go_ret
    exact ⟨by rw [HE.out]; simp, HB0.out⟩
  go_wp2_with fail
  refine (HI2.out _).mono ?_
  rintro e w1 ⟨rfl, rfl⟩
  cases b2
  · go_wp2
    go_ret
    exact ⟨by rw [HE.out]; simp, HB0.out⟩
  cases d
  · replace hd5 := hd5.symm
    go_wp2
    go_ret
    exact ⟨by rw [HE.out]; simp, HB0.out⟩
  replace hd5 := hd5.symm
  go_wp2_with fail
  refine (HA1.out).mono ?_
  rintro e w1 ⟨rfl, rfl⟩
  cases m1
  · go_wp2
    go_ret
    exact ⟨by rw [HE.out]; simp, HB0.out⟩
  go_wp2_with fail
  refine (HA2.out).mono ?_
  rintro e w1 ⟨rfl, rfl⟩
  cases m2
  · go_wp2
    go_ret
    exact ⟨by rw [HE.out]; simp, HB0.out⟩
  go_wp2
  go_ret
  exact ⟨by rw [HE.out]; simp, HB0.out⟩
end Go.Proofs.YtpeeagkfhdeagaaDoor
/- The library's table of type handles holds what its text lays: a condition of the program's saturating sums. -/
set_option linter.unusedVariables false
namespace Go.Proofs.YtpeeagkfhdeagaaDoor
open Go.ChangeShapes Go.WideShapes Go.ChangeAt Go.RowKit

/-- the library's handle of the type error -/
def Handle (w : World) : Prop := w.cell? ⟨1, 0, none⟩ = some (.iface RT (.agg #[.pointer (some ⟨2, ER, none⟩)]))
set_option maxRecDepth 100000 in
theorem Handle.lt {w : World} (h : Handle w) : 1 < w.heap.size := by
  unfold Handle at h
  rcases Nat.lt_or_ge 1 w.heap.size with h' | h'
  · exact h'
  · simp [World.cell?, Array.getElem?_eq_none h'] at h
set_option maxRecDepth 100000 in
theorem Handle.below {w w' : World} {B : Nat} (h : Handle w) (hb : Below B w w') (hB : w.heap.size ≤ B) : Handle w' := (hb.cell (p := ⟨_, _, none⟩) (show 1 < B by have := h.lt; omega)).trans h
set_option maxRecDepth 100000 in
theorem Handle.turned {w w' : World} {lo hi : Nat} (h : Handle w) (ht : Turned lo hi w w') (hb : 1 < lo ∨ hi ≤ 1) : Handle w' := (cell_keep (ht.block _ h.lt hb)).trans h
set_option maxRecDepth 100000 in
theorem Handle.ne {w : World} {b : Nat} {T : TypeId} {CS : List Value} {x : Int} (h : Handle w) (hb : bk w b T CS) (h0 : CS[0]? = some (.int .i64 x)) : b ≠ 1 := fun e => by
  subst e
  have h1 := hb.cell 0
  unfold Handle at h
  rw [h, h0] at h1
  cases h1
end Go.Proofs.YtpeeagkfhdeagaaDoor
/- Parts of an account in the program: its amounts, and the account that holds them as one part; no conditions but the library's handle. -/
set_option linter.unusedVariables false
namespace Go.Proofs.YtpeeagkfhdeagaaDoor
open Go.ChangeShapes Go.WideShapes Go.ChangeAt Go.RowKit

set_option maxRecDepth 100000 in
theorem implLimit_any (n : Int) (w : World) : Calls Tryd.prog 77 #[.int .i64 n] w fun e w' => e = .returned (.bool (inB n 0 9007199254740992)) ∧ w = w' := by
  by_cases h0 : 0 ≤ n
  all_goals
    go_enter Tryd.func77, Tryd.ntmps77
    go_wp2
    go_ret
    exact ⟨by simp [inB]; omega, rfl⟩
/-- are the four numbers in their ranges -/
def amtsB (l p m s : Int) : Bool := inB l 0 9007199254740992 && (isMon p && (inB m 0 1000 && inB s 0 9007199254740992))
set_option maxRecDepth 100000 in
set_option maxHeartbeats 1600000 in
theorem implInRange_any (l p m s : Int) (w : World) :
    Calls Tryd.prog 64 #[.agg #[.int .i64 l, .int .i64 p, .int .i64 m, .int .i64 s]] w fun e w' => e = .returned (.bool (amtsB l p m s)) ∧ Below w.heap.size w w' := by
  have HE : Hid (amtsB l p m s = (inB l 0 9007199254740992 && (isMon p && (inB m 0 1000 && inB s 0 9007199254740992)))) := Lib.hid rfl
  have H1 := Lib.hid (fun w => implLimit_any l w)
  have H2 := Lib.hid (fun w => implIsMon_any p w)
  have H3 := Lib.hid (fun w => implLimit_any s w)
  have HM : Hid (inB m 0 1000 = (decide (0 ≤ m) && decide (m ≤ 1000))) := Lib.hid (by unfold inB; rw [Bool.decide_and])
  have HB0 : Hid (∀ o, Below w.heap.size w (w.alloc o)) := Lib.hid fun o => (Below.refl _ _).alloc (Nat.le_refl _) _
  generalize inB l 0 9007199254740992 = b1 at HE H1
  generalize isMon p = b2 at HE H2
  generalize inB s 0 9007199254740992 = b4 at HE H3
  rw [HM.out] at HE
  generalize amtsB l p m s = res at HE ⊢
  go_enter Tryd.func64, Tryd.ntmps64
  go_wp2_with fail
  refine (H1.out _).mono ?_
  rintro e w1 ⟨rfl, rfl⟩
  cases b1
  · go_wp2
    go_ret
    exact ⟨by rw [HE.out]; rfl, HB0.out _⟩
  go_wp2_with fail
  refine (H2.out _).mono ?_
  rintro e w1 ⟨rfl, rfl⟩
  cases b2
  · go_wp2
    go_ret
    exact ⟨by rw [HE.out]; rfl, HB0.out _⟩
  by_cases m0 : 0 ≤ m
  rotate_left
  · have HN := Lib.hid (HE.out.trans (show _ = false by rw [decide_eq_false m0]; rfl))
    go_wp2
    go_ret
    exact ⟨by rw [HN.out]; rfl, HB0.out _⟩
  by_cases m1 : m ≤ 1000
  rotate_left
  · have HN := Lib.hid (HE.out.trans (show _ = false by rw [decide_eq_false m1]; simp))
    go_wp2
    go_ret
    exact ⟨by rw [HN.out]; rfl, HB0.out _⟩
  have HN := Lib.hid (HE.out.trans (show _ = b4 by rw [decide_eq_true m1, decide_eq_true m0]; rfl))
  go_wp2_with fail
  refine (H3.out _).mono ?_
  rintro e w1 ⟨rfl, rfl⟩
  go_wp2
  go_ret
  exact ⟨by rw [HN.out]; rfl, HB0.out _⟩
set_option maxRecDepth 100000 in
theorem implCovers_any (l p m s h : Int) (w : World) (hg : Handle w) :
    Calls Tryd.prog 68 #[.agg #[.int .i64 l, .int .i64 p, .int .i64 m, .int .i64 s], .int .i64 h] w fun e w' => e = .returned (.bool (decide (satVal p h ≤ l))) ∧ Below w.heap.size w w' := by
  have HB0 : Hid (Below w.heap.size w (w.alloc (.cells #[.int .i64 l, .int .i64 p, .int .i64 m, .int .i64 s] 66))) := Lib.hid ((Below.refl _ _).alloc (Nat.le_refl _) _)
  have b0 := bk.new w 66 [.int .i64 l, .int .i64 p, .int .i64 m, .int .i64 s]
  have b0 : bk (w.alloc (.cells #[.int .i64 l, .int .i64 p, .int .i64 m, .int .i64 s] 66)) w.heap.size 66 [.int .i64 l, .int .i64 p, .int .i64 m, .int .i64 s] := b0
  have HSA := Lib.hid (fun W (hW : Below w.heap.size w W) => implSat_any p h W (hg.below hW (Nat.le_refl _)))
  generalize satVal p h = sv at HSA ⊢
  go_enter Tryd.func68, Tryd.ntmps68
  go_upto_region 1 with fail
  obtain ⟨W, hW⟩ : ∃ W, W = w.alloc (.cells #[.int .i64 l, .int .i64 p, .int .i64 m, .int .i64 s] 66) := ⟨_, rfl⟩
  rw [← hW] at HB0 b0 ⊢
  clear hW hg
  obtain ⟨⟨p0, p1, p2, p3⟩, -⟩ := b0.cells
  have z0 := b0.lt
  have P0 := Lib.hid p0
  have P1 := Lib.hid p1
  clear p0 p1 p2 p3 b0
  have HBX : Hid (∀ V, Ext W V → Below w.heap.size w V) := Lib.hid fun V hV => HB0.out.trans (hV.below.mono (by omega))
  have HX : Hid (Ext W W.drew) := Lib.hid (Ext.refl W).drew
  by_cases hle : sv ≤ l
  all_goals
    refine quiet_region (C := Ext W) (by kernel_rfl) (by kernel_rfl) HX.out ?_
    repeat (first
      | go_big_quiet_skip
      | (go_big_quiet_want; go_big_quiet_op; go_big_quiet_on)
      | (go_big_quiet_want; go_big_quiet_op; apply Exists.intro; refine ⟨fun _ _ => rfl, ?_⟩; go_big_quiet_on)
      | (go_big_quiet_want
         apply Exists.intro
         refine ⟨fun V hV => ?_, ?_⟩
         (have q0 := hV.cell P0.out (by omega)
          have q1 := hV.cell P1.out (by omega)
          unfold Oper.quietAt
          go_simp
          rfl)
         simp only [Act.put, List.setIfInBounds_toArray, List.set_cons_zero, List.set_cons_succ]
         go_big_quiet_on)
      | (go_big_quiet_want
         apply Exists.intro
         refine ⟨fun V hV => ?_, ?_⟩
         (unfold Oper.quietAt
          go_simp
          go_at_call 84
          refine (HSA.out V (HBX.out V hV)).mono ?_
          rintro e w4 ⟨rfl, hb4⟩
          exact ⟨rfl, hV.step hb4⟩)
         simp only [Act.put, List.setIfInBounds_toArray, List.set_cons_zero, List.set_cons_succ]
         go_big_quiet_on)
      | fail)
    refine wpQuiet_nil ?_
    intro W4 hW4
    go_wp2
    go_ret
    exact ⟨by simp [hle], HBX.out W4 hW4⟩
end Go.Proofs.YtpeeagkfhdeagaaDoor
/- accountOf of the program: an account whose amounts are one part; no conditions. -/
set_option linter.unusedVariables false
namespace Go.Proofs.YtpeeagkfhdeagaaDoor
open Go.ChangeShapes Go.WideShapes Go.ChangeAt Go.RowKit

set_option maxRecDepth 100000 in
set_option maxHeartbeats 1600000 in
/-- an account's cells as the program's own account holds them -/
theorem implAccountOf_any (id : ByteArray) (l p m s : Int) (A1 : Option Addr) (n1 c1 : Nat) (rs rh : Int) (A2 : Option Addr) (n2 c2 : Nat) (A3 : Option Addr) (n3 c3 : Nat) (A4 : Option Addr) (n4 c4 : Nat) (w : World) :
    Calls Tryd.prog 39 #[.agg #[.string id, .int .i64 l, .int .i64 p, .int .i64 m, .int .i64 s, .slice A1 n1 c1, .int .i64 rs, .int .i64 rh, .slice A2 n2 c2, .slice A3 n3 c3, .slice A4 n4 c4]] w fun e w' => e = .returned (.agg #[.int .i64 l, .int .i64 p, .int .i64 m, .int .i64 s, .string id, .slice A1 n1 c1, .int .i64 rs, .int .i64 rh, .slice A2 n2 c2, .slice A3 n3 c3, .slice A4 n4 c4]) ∧ Below w.heap.size w w' := by
  go_enter Tryd.func39, Tryd.ntmps39
  go_upto_region 1 with fail
  obtain ⟨W, hW⟩ : ∃ W, W = (w.alloc (.cells #[.string id, .int .i64 l, .int .i64 p, .int .i64 m, .int .i64 s, .slice A1 n1 c1, .int .i64 rs, .int .i64 rh, .slice A2 n2 c2, .slice A3 n3 c3, .slice A4 n4 c4] 28)).alloc (.cells #[.int .i64 0, .int .i64 0, .int .i64 0, .int .i64 0, .string ⟨#[]⟩, .slice none 0 0, .int .i64 0, .int .i64 0, .slice none 0 0, .slice none 0 0, .slice none 0 0] 68) := ⟨_, rfl⟩
  have b0 : bk W w.heap.size 28 [.string id, .int .i64 l, .int .i64 p, .int .i64 m, .int .i64 s, .slice A1 n1 c1, .int .i64 rs, .int .i64 rh, .slice A2 n2 c2, .slice A3 n3 c3, .slice A4 n4 c4] := by rw [hW]; exact (bk.new w _ _).alloc _
  have b1 : bk W (w.heap.size + 1) 68 [.int .i64 0, .int .i64 0, .int .i64 0, .int .i64 0, .string ⟨#[]⟩, .slice none 0 0, .int .i64 0, .int .i64 0, .slice none 0 0, .slice none 0 0, .slice none 0 0] := by rw [hW]; simpa using bk.new (w.alloc _) 68 [.int .i64 0, .int .i64 0, .int .i64 0, .int .i64 0, .string ⟨#[]⟩, .slice none 0 0, .int .i64 0, .int .i64 0, .slice none 0 0, .slice none 0 0, .slice none 0 0]
  have HB : Hid (Below w.heap.size w W) := Lib.hid (by rw [hW]; exact ((Below.refl _ _).alloc (Nat.le_refl _) _).alloc (by simp) _)
  have z : w.heap.size + 2 ≤ W.heap.size := by rw [hW]; simp
  rw [← hW]
  clear hW
  obtain ⟨⟨p0, p1, p2, p3, p4, p5, p6, p7, p8, p9, p10⟩, -⟩ := b0.eleven
  obtain ⟨⟨r0, r1, r2, r3, r4, r5, r6, r7, r8, r9, r10⟩, g0, g1, g2, g3, g4, g5, g6, g7, g8, g9, g10⟩ := b1.eleven
  clear b0 b1
  go_wp2
  refine bodyPost_ret (v := .agg #[.int .i64 l, .int .i64 p, .int .i64 m, .int .i64 s, .string id, .slice A1 n1 c1, .int .i64 rs, .int .i64 rh, .slice A2 n2 c2, .slice A3 n3 c3, .slice A4 n4 c4]) (by simp [results, Tryd.results39, go_sem, r0, r1, r2, r3, r4, r5, r6, r7, r8, r9, r10]) rfl ?_
  refine ⟨rfl, ?_⟩
  repeat (refine Below.setCell ?_ (by simp <;> omega) _)
  exact HB.out
end Go.Proofs.YtpeeagkfhdeagaaDoor
/- Putting a hold in its place: by the first element with its id, or by the place of the id; the order of strings; no conditions. -/
set_option linter.unusedVariables false
namespace Go.Proofs.YtpeeagkfhdeagaaDoor
open Go.ChangeShapes Go.WideShapes Go.ChangeAt Go.RowKit

set_option maxRecDepth 100000 in
theorem bl_irrefl : ∀ a : List UInt8, Op.bytesLess a a = false
  | [] => rfl
  | x :: a => by
    have h := bl_irrefl a
    simp [Op.bytesLess, h]
set_option maxRecDepth 100000 in
theorem bl_trans : ∀ a b c : List UInt8, Op.bytesLess a b = true → Op.bytesLess b c = true → Op.bytesLess a c = true
  | [], _, [] => by intro _ h; cases ‹List UInt8› <;> simp [Op.bytesLess] at h
  | [], _, _ :: _ => by intros; rfl
  | _ :: _, [], _ => by intro h; simp [Op.bytesLess] at h
  | _ :: _, _ :: _, [] => by intro _ h; simp [Op.bytesLess] at h
  | x :: a, y :: b, z :: c => by
    have ih := bl_trans a b c
    simp only [Op.bytesLess, Bool.or_eq_true, Bool.and_eq_true, decide_eq_true_eq, beq_iff_eq]
    rintro (h1 | ⟨rfl, h1⟩) (h2 | ⟨rfl, h2⟩)
    · exact .inl (UInt8.lt_trans h1 h2)
    · exact .inl h1
    · exact .inl h2
    · exact .inr ⟨rfl, ih h1 h2⟩
set_option maxRecDepth 100000 in
/-- the three ways in which two strings lie -/
theorem bl_cmp : ∀ a b : List UInt8, (Lib.compareBytes a b = -1 ∧ Op.bytesLess a b = true ∧ Op.bytesLess b a = false ∧ a ≠ b) ∨ (Lib.compareBytes a b = 0 ∧ a = b) ∨ (Lib.compareBytes a b = 1 ∧ Op.bytesLess b a = true ∧ Op.bytesLess a b = false ∧ a ≠ b)
  | [], [] => .inr (.inl ⟨rfl, rfl⟩)
  | [], _ :: _ => .inl ⟨rfl, rfl, rfl, by simp⟩
  | _ :: _, [] => .inr (.inr ⟨rfl, rfl, rfl, by simp⟩)
  | x :: a, y :: b => by
    unfold Lib.compareBytes
    by_cases h1 : x < y
    · have h2 : ¬ y < x := UInt8.lt_asymm h1
      have h3 : x ≠ y := UInt8.ne_of_lt h1
      exact .inl ⟨by simp [h1], by simp [Op.bytesLess, h1], by simp [Op.bytesLess, h2, h3.symm], by simp [h3]⟩
    · by_cases h2 : y < x
      · have h3 : y ≠ x := UInt8.ne_of_lt h2
        exact .inr (.inr ⟨by simp [h1, h2], by simp [Op.bytesLess, h2], by simp [Op.bytesLess, h1, h3.symm], by simp [h3.symm]⟩)
      · obtain rfl : x = y := UInt8.le_antisymm (UInt8.not_lt.1 h2) (UInt8.not_lt.1 h1)
        have ih := bl_cmp a b
        simpa [Op.bytesLess, h1] using ih
set_option maxRecDepth 100000 in
theorem str_cmp (a b : ByteArray) : (Lib.compareBytes a.data.toList b.data.toList = -1 ∧ strLt a b = true ∧ strLt b a = false ∧ a ≠ b) ∨ (Lib.compareBytes a.data.toList b.data.toList = 0 ∧ a = b) ∨ (Lib.compareBytes a.data.toList b.data.toList = 1 ∧ strLt b a = true ∧ strLt a b = false ∧ a ≠ b) := by
  have h := bl_cmp a.toList b.toList
  unfold strLt
  have e1 : a.data.toList = a.toList := (Lib.toList_data a).symm
  have e2 : b.data.toList = b.toList := (Lib.toList_data b).symm
  rw [e1, e2]
  rcases h with ⟨h1, h2, h3, h4⟩ | ⟨h1, h2⟩ | ⟨h1, h2, h3, h4⟩
  · exact .inl ⟨h1, h2, h3, fun e => h4 (by rw [e])⟩
  · exact .inr (.inl ⟨h1, str_eq_list.1 h2⟩)
  · exact .inr (.inr ⟨h1, h2, h3, fun e => h4 (by rw [e])⟩)
set_option maxRecDepth 100000 in
theorem strLt_irrefl (a : ByteArray) : strLt a a = false := bl_irrefl _
set_option maxRecDepth 100000 in
theorem strLt_trans {a b c : ByteArray} (h1 : strLt a b = true) (h2 : strLt b c = true) : strLt a c = true := bl_trans _ _ _ h1 h2
set_option maxRecDepth 100000 in
theorem strLt_ne {a b : ByteArray} (h : strLt a b = true) : a ≠ b := fun e => by rw [e, strLt_irrefl] at h; exact Bool.false_ne_true h
set_option maxRecDepth 100000 in
theorem strLt_other {a b : ByteArray} (hne : a ≠ b) (h : strLt a b = false) : strLt b a = true := by
  rcases str_cmp a b with ⟨_, h2, _⟩ | ⟨_, h2⟩ | ⟨_, h2, _⟩
  · rw [h2] at h; exact absurd h (by simp)
  · exact absurd h2 hne
  · exact h2
set_option maxRecDepth 100000 in
/-- not (a <= b) is b < a -/
theorem str_leq (a b : ByteArray) : (Op.bytesLess a.toList b.toList || a.toList == b.toList) = !strLt b a := by
  rcases str_cmp a b with ⟨_, h2, h3, h4⟩ | ⟨_, rfl⟩ | ⟨_, h2, h3, h4⟩
  · rw [h3, show Op.bytesLess a.toList b.toList = true from h2]; rfl
  · rw [strLt_irrefl]; simp
  · have h5 : (a.toList == b.toList) = false := by simpa using fun e => h4 (str_eq_list.1 e)
    rw [h2, show Op.bytesLess a.toList b.toList = false from h3, h5]; rfl
/-- ascending by id -/
def ascH (l : List HoldD) : Prop := l.Pairwise fun x y => strLt x.1 y.1 = true
set_option maxRecDepth 100000 in
theorem holdsOk_asc {l : List HoldD} (h : holdsOk l = true) : ascH l := by
  unfold holdsOk at h
  simp only [Bool.and_eq_true, List.all_eq_true, List.mem_range] at h
  have h1 := h.1
  unfold ascH
  rw [List.pairwise_iff_getElem]
  intro i j hi hj hij
  obtain ⟨d, rfl⟩ : ∃ d, j = i + 1 + d := ⟨j - (i + 1), by omega⟩
  clear hij
  induction d with
  | zero =>
    have := h1 (i + 1) (by omega)
    unfold holdAtOk at this
    simp only [Bool.and_eq_true] at this
    have h2 := this.2
    simpa [List.getD_eq_getElem?_getD, List.getElem?_eq_getElem hi, List.getElem?_eq_getElem hj] using h2
  | succ d ih =>
    have h3 := ih (by omega)
    have := h1 (i + 1 + (d + 1)) (by omega)
    unfold holdAtOk at this
    simp only [Bool.and_eq_true] at this
    have h2 := this.2
    have hj' : i + 1 + d < l.length := by omega
    have e : i + 1 + (d + 1) - 1 = i + 1 + d := by omega
    rw [e] at h2
    have h4 : strLt l[i + 1 + d].1 l[i + 1 + (d + 1)].1 = true := by
      simpa [List.getD_eq_getElem?_getD, List.getElem?_eq_getElem hj', List.getElem?_eq_getElem hj] using h2
    exact strLt_trans h3 h4
/-- what is put in, from the front -/
def insR (h : HoldD) : List HoldD → List HoldD
  | [] => [h]
  | x :: l => if strLt x.1 h.1 = true then x :: insR h l else h :: (x :: l).filter fun y => decide (y.1 ≠ h.1)
set_option maxRecDepth 100000 in
theorem ins_done (h : HoldD) : ∀ (l acc : List HoldD), l.foldl (insOne h) (acc, true) = (acc ++ l.filter fun y => decide (y.1 ≠ h.1), true)
  | [], acc => by simp
  | x :: l, acc => by
    rw [List.foldl_cons]
    have e : insOne h (acc, true) x = (acc ++ (if x.1 = h.1 then [] else [x]), true) := by simp [insOne]
    rw [e, ins_done h l]
    by_cases hx : x.1 = h.1 <;> simp [hx]
set_option maxRecDepth 100000 in
theorem ins_from (h : HoldD) : ∀ (l acc : List HoldD), (if (l.foldl (insOne h) (acc, false)).2 = true then (l.foldl (insOne h) (acc, false)).1 else (l.foldl (insOne h) (acc, false)).1 ++ [h]) = acc ++ insR h l
  | [], acc => by simp [insR]
  | x :: l, acc => by
    rw [List.foldl_cons]
    cases hlt : strLt x.1 h.1
    · have e : insOne h (acc, false) x = (acc ++ [h] ++ (if x.1 = h.1 then [] else [x]), true) := by simp [insOne, hlt]
      rw [e, ins_done]
      by_cases hx : x.1 = h.1 <;> simp [insR, hlt, hx, strLt_irrefl]
    · have e : insOne h (acc, false) x = (acc ++ [x], false) := by simp [insOne, hlt, strLt_ne hlt]
      rw [e, ins_from h l]
      simp [insR, hlt]
set_option maxRecDepth 100000 in
theorem insL_eq (l : List HoldD) (h : HoldD) : insL l h = insR h l := by
  have := ins_from h l []
  rw [List.nil_append] at this
  exact this
/-- the place of an id, where no element has it -/
def placeH (l : List HoldD) (id : ByteArray) : Nat := (l.findIdx? fun x => strLt id x.1).getD l.length
/-- the element with this id and true, or the place of the id and false -/
def searchH (l : List HoldD) (id : ByteArray) : Nat × Bool := match l.findIdx? (fun x => decide (x.1 = id)) with | some i => (i, true) | none => (placeH l id, false)
set_option maxRecDepth 100000 in
theorem placeH_le (l : List HoldD) (id : ByteArray) : placeH l id ≤ l.length := by
  unfold placeH
  cases h : l.findIdx? fun x => strLt id x.1 with
  | none => exact Nat.le_refl _
  | some i => exact Nat.le_of_lt (List.findIdx?_eq_some_iff_getElem.1 h).1
set_option maxRecDepth 100000 in
theorem searchH_le (l : List HoldD) (id : ByteArray) : (searchH l id).1 ≤ l.length := by
  unfold searchH
  cases h : l.findIdx? fun x => decide (x.1 = id) with
  | none => exact placeH_le l id
  | some i => exact Nat.le_of_lt (List.findIdx?_eq_some_iff_getElem.1 h).1
set_option maxRecDepth 100000 in
theorem searchH_lt (l : List HoldD) (id : ByteArray) (hs : (searchH l id).2 = true) : (searchH l id).1 < l.length := by
  revert hs
  unfold searchH
  cases h : l.findIdx? fun x => decide (x.1 = id) with
  | none => intro hs; exact absurd hs (by simp)
  | some i => intro _; exact (List.findIdx?_eq_some_iff_getElem.1 h).1
set_option maxRecDepth 100000 in
theorem findH_search (l : List HoldD) (id : ByteArray) : findH l id = if (searchH l id).2 = true then ((searchH l id).1 : Int) else -1 := by
  unfold findH searchH
  cases l.findIdx? fun x => decide (x.1 = id) <;> simp
set_option maxRecDepth 100000 in
theorem filter_ne {h : HoldD} {l : List HoldD} (hl : ∀ y ∈ l, y.1 ≠ h.1) : (l.filter fun y => decide (y.1 ≠ h.1)) = l := List.filter_eq_self.2 fun y hy => decide_eq_true (hl y hy)
set_option maxRecDepth 100000 in
theorem insR_found (h : HoldD) : ∀ (l : List HoldD) (i : Nat), ascH l → (l.findIdx? fun x => decide (x.1 = h.1)) = some i → insR h l = l.take i ++ h :: l.drop (i + 1)
  | [], i, _, hf => by simp at hf
  | x :: l, i, ha, hf => by
    obtain ⟨ha1, ha2⟩ := List.pairwise_cons.1 ha
    rw [List.findIdx?_cons] at hf
    by_cases hx : x.1 = h.1
    · rw [if_pos (decide_eq_true hx)] at hf
      cases hf
      have hlt : strLt x.1 h.1 = false := by rw [hx, strLt_irrefl]
      have hne : ∀ y ∈ l, y.1 ≠ h.1 := fun y hy => by have := strLt_ne (ha1 y hy); rw [hx] at this; exact this.symm
      simp only [insR, hlt, Bool.false_eq_true, if_false, List.take_zero, List.nil_append, List.drop_succ_cons, List.drop_zero]
      rw [List.filter_cons_of_neg (by simp [hx]), filter_ne hne]
    · rw [if_neg (by simp [hx])] at hf
      obtain ⟨k, hk, rfl⟩ : ∃ k, (l.findIdx? fun x => decide (x.1 = h.1)) = some k ∧ k + 1 = i := by
        cases hk : l.findIdx? fun x => decide (x.1 = h.1) with
        | none => rw [hk] at hf; simp at hf
        | some k => rw [hk] at hf; exact ⟨k, rfl, by simpa using hf⟩
      obtain ⟨hkl, hke, -⟩ := List.findIdx?_eq_some_iff_getElem.1 hk
      have hlt : strLt x.1 h.1 = true := by
        have h1 := ha1 l[k] (List.getElem_mem hkl)
        rw [of_decide_eq_true hke] at h1
        exact h1
      simp only [insR, hlt, if_true, List.take_succ_cons, List.drop_succ_cons, List.cons_append]
      rw [insR_found h l k ha2 hk]
set_option maxRecDepth 100000 in
theorem insR_place (h : HoldD) : ∀ (l : List HoldD), (l.findIdx? fun x => decide (x.1 = h.1)) = none → insR h l = l.take (placeH l h.1) ++ h :: l.drop (placeH l h.1)
  | [], _ => by simp [insR]
  | x :: l, hf => by
    have hall := List.findIdx?_eq_none_iff.1 hf
    have hne : ∀ y ∈ x :: l, y.1 ≠ h.1 := fun y hy => of_decide_eq_false (hall y hy)
    have hx := hne x (List.mem_cons_self ..)
    cases hlt : strLt x.1 h.1
    · have hg := strLt_other hx hlt
      have hp : placeH (x :: l) h.1 = 0 := by unfold placeH; rw [List.findIdx?_cons, if_pos hg]; rfl
      rw [hp]
      simp only [insR, hlt, Bool.false_eq_true, if_false, List.take_zero, List.nil_append, List.drop_zero]
      rw [filter_ne hne]
    · have hg : strLt h.1 x.1 = false := by
        cases hc : strLt h.1 x.1 with
        | false => rfl
        | true => have := strLt_trans hlt hc; rw [strLt_irrefl] at this; exact absurd this (by simp)
      have hp : placeH (x :: l) h.1 = placeH l h.1 + 1 := by
        unfold placeH
        rw [List.findIdx?_cons, if_neg (by simp [hg])]
        cases l.findIdx? fun x => strLt h.1 x.1 <;> simp
      have hf2 : (l.findIdx? fun x => decide (x.1 = h.1)) = none := List.findIdx?_eq_none_iff.2 fun y hy => hall y (List.mem_cons_of_mem _ hy)
      rw [hp]
      simp only [insR, hlt, if_true, List.take_succ_cons, List.drop_succ_cons, List.cons_append]
      rw [insR_place h l hf2]
set_option maxRecDepth 100000 in
theorem insL_search {l : List HoldD} {h : HoldD} (hk : holdsOk l = true) : insL l h = l.take (searchH l h.1).1 ++ h :: l.drop ((searchH l h.1).1 + if (searchH l h.1).2 = true then 1 else 0) := by
  rw [insL_eq]
  unfold searchH
  cases hf : l.findIdx? fun x => decide (x.1 = h.1) with
  | none => simpa using insR_place h l hf
  | some i => simpa using insR_found h l i (holdsOk_asc hk) hf
/-- the id before element i -/
def befH (l : List HoldD) (i : Nat) : ByteArray := if i = 0 then ⟨#[]⟩ else (l.getD (i - 1) noH).1
set_option maxRecDepth 100000 in
theorem idOk_ne {s : ByteArray} (h : idOk s = true) : strLt ⟨#[]⟩ s = true := by
  unfold idOk inB at h
  simp only [Bool.and_eq_true, decide_eq_true_eq] at h
  have h1 : s ≠ ⟨#[]⟩ := fun e => by rw [e] at h; have h2 : (1 : Int) ≤ ((⟨#[]⟩ : ByteArray).size : Int) := h.2.1; have e2 : (⟨#[]⟩ : ByteArray).size = 0 := rfl; omega
  rcases str_cmp ⟨#[]⟩ s with ⟨_, h2, _⟩ | ⟨_, h2⟩ | ⟨_, h2, _⟩
  · exact h2
  · exact absurd h2.symm h1
  · unfold strLt at h2
    have e : (⟨#[]⟩ : ByteArray).toList = [] := by rw [Lib.toList_data]
    rw [e] at h2
    cases s.toList <;> simp [Op.bytesLess] at h2
set_option maxRecDepth 100000 in
theorem holdAt_bef {l : List HoldD} {i : Nat} {x : HoldD} (hx : l[i]? = some x) : holdAtOk l i = (holdOk x && strLt (befH l i) x.1) := by
  unfold holdAtOk befH
  have e : l.getD i noH = x := by rw [List.getD_eq_getElem?_getD, hx]; rfl
  rw [e]
  cases hk : holdOk x
  · rfl
  · have hid : idOk x.1 = true := by unfold holdOk at hk; simp only [Bool.and_eq_true] at hk; exact hk.1
    by_cases h0 : i = 0
    · subst h0; simp [idOk_ne hid]
    · simp [h0]
set_option maxRecDepth 100000 in
theorem befH_next {l : List HoldD} {i : Nat} {x : HoldD} (hx : l[i]? = some x) : befH l (i + 1) = x.1 := by
  unfold befH
  rw [if_neg (by omega), Nat.add_sub_cancel, List.getD_eq_getElem?_getD, hx]; rfl
end Go.Proofs.YtpeeagkfhdeagaaDoor
/- The number that a text of digits denotes; no conditions. -/
set_option linter.unusedVariables false
namespace Go.Proofs.YtpeeagkfhdeagaaDoor
open Go.ChangeShapes Go.WideShapes Go.ChangeAt Go.RowKit

def decStep (n : Int) (c : UInt8) : Int := 10 * n + ((c.toNat : Int) - 48)
/-- the number that the digits denote -/
def decOf (l : List UInt8) : Int := l.foldl decStep 0
/-- do the digits denote money? -/
def scanOk (s : ByteArray) : Bool := digs s && decide (decOf s.data.toList ≤ 4611686018427387904)

set_option maxRecDepth 100000 in
theorem dec_snoc (s : ByteArray) (k : Nat) (h : k < s.size) : decOf (s.data.toList.take (k + 1)) = 10 * decOf (s.data.toList.take k) + ((s[k].toNat : Int) - 48) := by
  rw [take_one s k h]; simp [decOf, List.foldl_append, decStep]
set_option maxRecDepth 100000 in
theorem dec_nonneg : ∀ (l : List UInt8) (n : Int), 0 ≤ n → l.all isDig = true → n ≤ l.foldl decStep n
  | [], n, _, _ => Int.le_refl _
  | c :: l, n, h0, hd => by
    simp only [List.all_cons, Bool.and_eq_true] at hd
    have h1 := (isDig_iff c).1 hd.1
    have h2 : n ≤ decStep n c := by unfold decStep; omega
    exact Int.le_trans h2 (dec_nonneg l (decStep n c) (by omega) hd.2)
set_option maxRecDepth 100000 in
theorem dec_split (l : List UInt8) (k : Nat) : decOf l = (l.drop k).foldl decStep (decOf (l.take k)) := by
  unfold decOf
  rw [← List.foldl_append, List.take_append_drop]
set_option maxRecDepth 100000 in
theorem all_drop (l : List UInt8) (k : Nat) (h : l.all isDig = true) : (l.drop k).all isDig = true := by
  rw [List.all_eq_true] at h ⊢
  exact fun x hx => h x (List.mem_of_mem_drop hx)
set_option maxRecDepth 100000 in
theorem all_take (l : List UInt8) (k : Nat) (h : l.all isDig = true) : (l.take k).all isDig = true := by
  rw [List.all_eq_true] at h ⊢
  exact fun x hx => h x (List.mem_of_mem_take hx)
set_option maxRecDepth 100000 in
theorem dec_pos (l : List UInt8) (h : l.all isDig = true) : 0 ≤ decOf l := dec_nonneg l 0 (Int.le_refl _) h
set_option maxRecDepth 100000 in
theorem digs_all {s : ByteArray} (h : digs s = true) : s.data.toList.all isDig = true := by
  simp only [digs, Bool.and_eq_true] at h; exact h.2
set_option maxRecDepth 100000 in
/-- a first part denotes no more than the whole -/
theorem dec_mono (s : ByteArray) (k : Nat) (h : digs s = true) : decOf (s.data.toList.take k) ≤ decOf s.data.toList := by
  have hd := digs_all h
  rw [dec_split s.data.toList k]
  exact dec_nonneg _ _ (dec_pos _ (all_take _ k hd)) (all_drop _ k hd)
set_option maxRecDepth 100000 in
/-- what passes the limit in the midst is no money -/
theorem scan_over (s : ByteArray) (k : Nat) (h : k < s.size) (ho : 4611686018427387904 < decOf (s.data.toList.take (k + 1))) : scanOk s = false := by
  cases hd : digs s
  · simp [scanOk, hd]
  · have := dec_mono s (k + 1) hd
    simp only [scanOk, hd, Bool.true_and]
    exact decide_eq_false (by omega)
set_option maxRecDepth 100000 in
theorem scan_bad (s : ByteArray) (h : digs s = false) : scanOk s = false := by simp [scanOk, h]
set_option maxRecDepth 100000 in
theorem scan_good (s : ByteArray) (k : Nat) (hk : ¬ k < s.size) (h0 : 0 < s.size) (ha : (s.data.toList.take k).all isDig = true) (hm : decOf (s.data.toList.take k) ≤ 4611686018427387904) : scanOk s = true := by
  simp only [scanOk, digs_yes s k hk h0 ha, Bool.true_and]
  rw [take_end s k hk] at hm
  exact decide_eq_true hm
set_option maxRecDepth 100000 in
theorem scan_digs {s : ByteArray} (h : scanOk s = true) : digs s = true ∧ decOf s.data.toList ≤ 4611686018427387904 := by
  simp only [scanOk, Bool.and_eq_true, decide_eq_true_eq] at h; exact h
set_option maxRecDepth 100000 in
theorem empty_yes (s : ByteArray) (h : ¬ 0 < s.size) : s.toList.isEmpty = true := by
  have := not_empty s
  rw [decide_eq_false h] at this
  simpa using this
set_option maxRecDepth 100000 in
theorem empty_no (s : ByteArray) (h : 0 < s.size) : s.toList.isEmpty = false := by
  have := not_empty s
  rw [decide_eq_true h] at this
  simpa using this
end Go.Proofs.YtpeeagkfhdeagaaDoor
/- HoldIdOk, HoldOk, Live of the program; no conditions. -/
set_option linter.unusedVariables false
namespace Go.Proofs.YtpeeagkfhdeagaaDoor
open Go.ChangeShapes Go.WideShapes Go.ChangeAt Go.RowKit

set_option maxRecDepth 100000 in
theorem idCh_dig {c : UInt8} (h : isDig c = true) : idCh c = true := by
  have := (isDig_iff _).1 h
  exact decide_eq_true (.inl ⟨by omega, by omega⟩)
set_option maxRecDepth 100000 in
/-- a small letter, at a place: its character -/
theorem rune_low (s : ByteArray) (pos : Nat) (h : pos < s.size) (hd : isDig s[pos] = false) (hc : idCh s[pos] = true) : Utf8.decode s pos = (s[pos].toNat, 1) ∧ runeDig (s[pos].toNat : Int) = false ∧ (97 : Int) ≤ (s[pos].toNat : Int) ∧ (s[pos].toNat : Int) ≤ 122 := by
  have h1 := (isDig_no _).1 hd
  have h2 : 48 ≤ s[pos].toNat ∧ s[pos].toNat ≤ 57 ∨ 97 ≤ s[pos].toNat ∧ s[pos].toNat ≤ 122 := of_decide_eq_true hc
  have h3 : 97 ≤ s[pos].toNat ∧ s[pos].toNat ≤ 122 := by omega
  exact ⟨decode_ascii s pos h (by omega), by simp [runeDig]; omega, by omega, by omega⟩
set_option maxRecDepth 100000 in
/-- no sign of an id, at a place: its character -/
theorem rune_none (s : ByteArray) (pos : Nat) (h : pos < s.size) (hc : idCh s[pos] = false) : runeDig ((Utf8.decode s pos).1 : Int) = false ∧ (((Utf8.decode s pos).1 : Int) < 97 ∨ 122 < ((Utf8.decode s pos).1 : Int)) := by
  have h2 : ¬ (48 ≤ s[pos].toNat ∧ s[pos].toNat ≤ 57 ∨ 97 ≤ s[pos].toNat ∧ s[pos].toNat ≤ 122) := of_decide_eq_false hc
  rcases Nat.lt_or_ge s[pos].toNat 128 with h1 | h1
  · rw [decode_ascii s pos h h1]
    exact ⟨by simp [runeDig]; omega, by show (s[pos].toNat : Int) < 97 ∨ 122 < (s[pos].toNat : Int); omega⟩
  · have := (decode_high s pos h h1).1
    exact ⟨by simp [runeDig]; omega, .inr (by omega)⟩
set_option maxRecDepth 100000 in
theorem idOk_end {s : ByteArray} {k : Nat} (hk : ¬ k < s.size) (h : (s.data.toList.take k).all idCh = true) : idOk s = decide (0 < s.size ∧ s.size ≤ 6) := by
  rw [take_end s k hk] at h
  rw [idOk_yes h]
  unfold inB
  exact decide_eq_decide.2 ⟨fun ⟨_, _⟩ => ⟨by omega, by omega⟩, fun ⟨_, _⟩ => ⟨by omega, by omega⟩⟩
set_option maxRecDepth 100000 in
set_option maxHeartbeats 1600000 in
theorem implHoldIdOk_any (s : ByteArray) (w : World) (hs : s.size ≤ maxLen) :
    Calls Tryd.prog 87 #[.string s] w fun e w' => e = .returned (.bool (idOk s)) ∧ Below w.heap.size w w' := by
  unfold maxLen at hs
  go_enter Tryd.func87, Tryd.ntmps87
  go_wp2
  go_loopw [2] (fun _ wr => ∃ k : Nat, k ≤ s.size ∧ wr = w.iter s k ∧ (s.data.toList.take k).all idCh = true) (fun _ wr => s.size - wr.iterPos w.heap.size)
  case atStart => exact ⟨0, Nat.zero_le _, rfl, rfl⟩
  case round =>
    obtain ⟨k, hk, rfl, ha0⟩ := hrel
    have ha := Lib.hid ha0
    clear ha0
    by_cases hlt : k < s.size
    · cases hc : idCh s[k]
      · obtain ⟨hr, hr2⟩ := rune_none s k hlt hc
        have HF := Lib.hid (idOk_not (all_not (p := idCh) hlt hc))
        have hnx : ∀ ty, (Instr.next (.pointer (some ⟨w.heap.size, 0, none⟩)) true ty).run Tryd.prog (w.iter s k) = _ := fun ty => run_next_any w s k ty hlt
        generalize hq : Utf8.decode s k = q at hnx hr hr2
        obtain ⟨r, wd⟩ := q
        clear hq
        simp only at hr hr2
        rcases hr2 with hr2 | hr2
        · go_wp2_with (go_at_call 93; refine (isDigit_any _ _).mono ?_; rintro e w' ⟨rfl, rfl⟩)
          go_ret
          exact ⟨ret_bool HF.out.symm, below_iter _ _ _⟩
        · have hr3 : ¬ (r : Int) < 97 := by omega
          go_wp2_with (go_at_call 93; refine (isDigit_any _ _).mono ?_; rintro e w' ⟨rfl, rfl⟩)
          go_ret
          exact ⟨ret_bool HF.out.symm, below_iter _ _ _⟩
      · have hb := Lib.hid (all_step (p := idCh) hlt ha.out hc)
        have hnx : ∀ ty, (Instr.next (.pointer (some ⟨w.heap.size, 0, none⟩)) true ty).run Tryd.prog (w.iter s k) = _ := fun ty => run_next_any w s k ty hlt
        cases hd : isDig s[k]
        · obtain ⟨hdec, hr, hr2, hr3⟩ := rune_low s k hlt hd hc
          rw [hdec] at hnx
          clear hdec hd hc
          go_wp2_with (go_at_call 93; refine (isDigit_any _ _).mono ?_; rintro e w' ⟨rfl, rfl⟩)
          go_roundw
          case rel => exact ⟨k + 1, by omega, rfl, hb.out⟩
          case measure => simp <;> omega
        · obtain ⟨hdec, hr⟩ := rune_dig s k hlt hd
          rw [hdec] at hnx
          clear hdec hd hc
          go_wp2_with (go_at_call 93; refine (isDigit_any _ _).mono ?_; rintro e w' ⟨rfl, rfl⟩)
          go_roundw
          case rel => exact ⟨k + 1, by omega, rfl, hb.out⟩
          case measure => simp <;> omega
    · have HV := Lib.hid (idOk_end hlt ha.out)
      have hnx : ∀ ty, (Instr.next (.pointer (some ⟨w.heap.size, 0, none⟩)) true ty).run Tryd.prog (w.iter s k) = _ := fun ty => run_next_end w s k ty hlt
      by_cases h0 : 0 < s.size
      · have hE := empty_no s h0
        go_wp2
        go_ret
        exact ⟨ret_bool (by rw [HV.out]; exact decide_eq_decide.2 ⟨fun _ => ⟨h0, by omega⟩, fun _ => by omega⟩), below_iter _ _ _⟩
      · have hE := empty_yes s h0
        go_wp2
        go_ret
        exact ⟨ret_bool (by rw [HV.out]; exact (decide_eq_false (fun h => h0 h.1)).symm), below_iter _ _ _⟩
set_option maxRecDepth 100000 in
set_option maxHeartbeats 1600000 in
theorem implHoldOk_any (x : HoldD) (w : World) (hs : x.1.size ≤ maxLen) :
    Calls Tryd.prog 79 #[.agg #[.string x.1, .int .i64 x.2.1, .int .i64 x.2.2]] w fun e w' => e = .returned (.bool (holdOk x)) ∧ Below w.heap.size w w' := by
  obtain ⟨id, am, du⟩ := x
  have HI := Lib.hid (fun w => implHoldIdOk_any id w hs)
  have HT := Lib.hid (fun w => implTime_any du w)
  have HD : Hid (holdOk (id, am, du) = (idOk id && (inB am 1 9007199254740992 && timeB du))) := Lib.hid rfl
  have HA1 : Hid (inB am 1 9007199254740992 = (decide (1 ≤ am) && decide (am ≤ 9007199254740992))) := Lib.hid (Bool.decide_and ..)
  clear hs
  generalize idOk id = b1 at HI HD
  generalize timeB du = b3 at HT HD
  obtain ⟨W, hW⟩ : ∃ W, W = w.alloc (.cells #[.string id, .int .i64 am, .int .i64 du] 73) := ⟨_, rfl⟩
  have b0 : bk W w.heap.size 73 [.string id, .int .i64 am, .int .i64 du] := by rw [hW]; exact bk.new w _ _
  have HB0 : Hid (Below w.heap.size w W) := Lib.hid (by rw [hW]; exact (Below.refl _ _).alloc (Nat.le_refl _) _)
  have z0 := b0.lt
  go_enter Tryd.func79, Tryd.ntmps79
  go_upto_region 1 with fail
  rw [← hW]
  clear hW
  obtain ⟨p0, p1, p2⟩ := b0.cells3
  go_wp2_with fail
  refine (HI.out _).mono ?_
  rintro e w1 ⟨rfl, hb1⟩
  have HB1 : Hid (Below w.heap.size w w1) := Lib.hid (HB0.out.trans (hb1.mono (by omega)))
  replace b0 := b0.below hb1 z0
  clear hb1 p0 p1 p2
  obtain ⟨p0, p1, p2⟩ := b0.cells3
  clear b0
  cases b1
  · have HV : Hid (holdOk (id, am, du) = false) := Lib.hid (by rw [HD.out]; rfl)
    go_wp2
    go_ret
    exact ⟨ret_bool HV.out.symm, HB1.out⟩
  by_cases h1 : 1 ≤ am
  · by_cases h2 : am ≤ 9007199254740992
    · have HV : Hid (holdOk (id, am, du) = b3) := Lib.hid (by rw [HD.out, HA1.out, decide_eq_true h1, decide_eq_true h2]; rfl)
      go_wp2_with fail
      refine (HT.out _).mono ?_
      rintro e w2 ⟨rfl, rfl⟩
      go_wp2
      go_ret
      exact ⟨ret_bool HV.out.symm, HB1.out⟩
    · have HV : Hid (holdOk (id, am, du) = false) := Lib.hid (by rw [HD.out, HA1.out, decide_eq_false h2, Bool.and_false]; rfl)
      go_wp2
      go_ret
      exact ⟨ret_bool HV.out.symm, HB1.out⟩
  · have HV : Hid (holdOk (id, am, du) = false) := Lib.hid (by rw [HD.out, HA1.out, decide_eq_false h1]; rfl)
    go_wp2
    go_ret
    exact ⟨ret_bool HV.out.symm, HB1.out⟩
end Go.Proofs.YtpeeagkfhdeagaaDoor
