/- Luhn, LuhnOk: what the two functions return is the check digit of the sum 'luSum'; no conditions. -/
import Derived.Test.YtpeeagkfhdeagaaDig
set_option linter.unusedVariables false
namespace Go.Proofs.Ytpeeagkfhdeagaa
open Go.ChangeShapes Go.WideShapes Go.ChangeAt Go.RowKit

/-- the digit of a byte -/
def dOf (c : UInt8) : Int := (c.toNat : Int) - 48
/-- a digit doubled, 9 taken off where it is greater than 9 -/
def twiceOf (d : Int) : Int := if 4 < d then 2 * d - 9 else 2 * d
/-- the Luhn sum: the last digit is doubled, and every second one before it -/
def luSum : List UInt8 → Int
  | [] => 0
  | c :: l => (if l.length % 2 = 0 then twiceOf (dOf c) else dOf c) + luSum l
def luVal (s : ByteArray) : Int := if digs s = true then (10 - luSum s.data.toList % 10) % 10 else -1

set_option maxRecDepth 100000 in
theorem twice_bd {d : Int} (h0 : 0 ≤ d) (h1 : d ≤ 9) : 0 ≤ twiceOf d ∧ twiceOf d ≤ 9 := by unfold twiceOf; split <;> omega
set_option maxRecDepth 100000 in
theorem drop_one (s : ByteArray) (k : Nat) (h : k < s.size) : s.data.toList.drop k = s[k] :: s.data.toList.drop (k + 1) :=
  List.drop_eq_getElem_cons (by simpa using h)
set_option maxRecDepth 100000 in
theorem drop_len (s : ByteArray) (k : Nat) : (s.data.toList.drop k).length = s.size - k := by simp
set_option maxRecDepth 100000 in
theorem luSum_bd {s : ByteArray} (hd : digs s = true) (k : Nat) : 0 ≤ luSum (s.data.toList.drop k) ∧ luSum (s.data.toList.drop k) ≤ 9 * ((s.size - k : Nat) : Int) := by
  generalize hn : s.size - k = n
  induction n generalizing k with
  | zero =>
    have : s.data.toList.drop k = [] := List.drop_eq_nil_of_le (by simp; omega)
    rw [this]; exact ⟨Int.le_refl _, Int.le_refl _⟩
  | succ n ih =>
    have hk : k < s.size := by omega
    have h1 := ih (k + 1) (by omega)
    have hg := digs_get hd k hk
    rw [drop_one s k hk]
    simp only [luSum]
    have ht := twice_bd (d := dOf s[k]) (by unfold dOf; omega) (by unfold dOf; omega)
    have hd0 : 0 ≤ dOf s[k] ∧ dOf s[k] ≤ 9 := by unfold dOf; omega
    split <;> omega
set_option maxRecDepth 100000 in
/-- one digit further -/
theorem luSum_even {s : ByteArray} (k : Nat) (hk : k < s.size) (he : (s.size - k) % 2 = 1) : luSum (s.data.toList.drop k) = twiceOf (dOf s[k]) + luSum (s.data.toList.drop (k + 1)) := by
  rw [drop_one s k hk]; simp only [luSum]; rw [if_pos (by rw [drop_len]; omega)]
set_option maxRecDepth 100000 in
theorem luSum_odd {s : ByteArray} (k : Nat) (hk : k < s.size) (he : (s.size - k) % 2 = 0) : luSum (s.data.toList.drop k) = dOf s[k] + luSum (s.data.toList.drop (k + 1)) := by
  rw [drop_one s k hk]; simp only [luSum]; rw [if_neg (by rw [drop_len]; omega)]

set_option maxRecDepth 100000 in
theorem luhnDouble_any (d : Int) (w : World) (h0 : 0 ≤ d) (h1 : d ≤ 9) : Calls Try.prog 44 #[.int .i64 d] w fun e w' => e = .returned (.int .i64 (twiceOf d)) ∧ w = w' := by
  by_cases h4 : 4 < d
  all_goals
    go_enter Try.func44, Try.ntmps44
    go_wp2
    go_ret
    exact ⟨ret_int (by unfold twiceOf; split <;> omega), rfl⟩

def parOf (s : ByteArray) (k : Nat) : Bool := decide ((s.size - k) % 2 = 1)
set_option maxRecDepth 100000 in
theorem par_next (s : ByteArray) (k : Nat) (h : k < s.size) : (!parOf s k) = parOf s (k + 1) := by
  unfold parOf
  rcases Nat.mod_two_eq_zero_or_one (s.size - k) with h1 | h1
  · rw [h1, show (s.size - (k + 1)) % 2 = 1 by omega]; rfl
  · rw [h1, show (s.size - (k + 1)) % 2 = 0 by omega]; rfl
set_option maxRecDepth 100000 in
theorem val_bool {a b : Bool} (h : a = b) : Value.bool a = Value.bool b := by rw [h]

set_option maxRecDepth 100000 in
set_option maxHeartbeats 800000 in
theorem implLuhn_any (s : ByteArray) (w : World) (hs : s.size ≤ 1048576) :
    Calls Try.prog 30 #[.string s] w fun e w' => e = .returned (.int .i64 (luVal s)) ∧ Below w.heap.size w w' := by
  cases hd : digs s
  · have hv : luVal s = -1 := by simp [luVal, hd]
    rw [hv]
    go_enter Try.func30, Try.ntmps30
    go_wp2_with (go_at_call 29; refine (implDigits_any _ _ (by unfold maxLen; omega)).mono ?_; rintro e w1 ⟨rfl, hb⟩)
    go_ret
    exact ⟨rfl, hb⟩
  · have hv : luVal s = (10 - luSum s.data.toList % 10) % 10 := by simp [luVal, hd]
    rw [hv]
    have hD := Lib.hid hd
    have hall := luSum_bd hd 0
    simp only [List.drop_zero, Nat.sub_zero] at hall
    have hall0 := hall.1
    have hall1 : luSum s.data.toList ≤ 9437184 := by omega
    clear hall hv
    go_enter Try.func30, Try.ntmps30
    go_wp2_with (go_at_call 29; refine (implDigits_any _ _ (by unfold maxLen; omega)).mono ?_; rintro e w1 ⟨rfl, hb⟩)
    clear hd
    go_loopw [3, 4] (fun dv sv wr => ∃ k : Nat, k ≤ s.size ∧ wr = w1.iter s k ∧ dv = .bool (parOf s k) ∧ sv = .int .i64 (luSum s.data.toList - luSum (s.data.toList.drop k))) (fun _ _ wr => s.size - wr.iterPos w1.heap.size)
    case atStart => exact ⟨0, Nat.zero_le _, rfl, val_bool (by unfold parOf; rw [Bool.eq_iff_iff]; simp; omega), val_int (by simp)⟩
    case round =>
      obtain ⟨k, hk, rfl, rfl, rfl⟩ := hrel
      by_cases hlt : k < s.size
      · have hg := digs_get hD.out k hlt
        have hg1 : (48 : Int) ≤ (s[k].toNat : Int) := by omega
        have hg2 : (s[k].toNat : Int) ≤ 57 := by omega
        have hnx : ∀ ty, (Instr.next (.pointer (some ⟨w1.heap.size, 0, none⟩)) true ty).run Try.prog (w1.iter s k) = _ := fun ty => run_next_any w1 s k ty hlt
        rw [decode_ascii s k hlt (by omega)] at hnx
        have hbk := luSum_bd hD.out k
        have hbk0 := hbk.1
        have hbk1 : luSum (s.data.toList.drop k) ≤ 9437184 := by omega
        clear hbk
        have hpn := Lib.hid (par_next s k hlt)
        have hpk := Lib.hid (show parOf s k = decide ((s.size - k) % 2 = 1) from rfl)
        cases hp : parOf s k
        · have hstep := Lib.hid (luSum_odd k hlt (by have := of_decide_eq_false (hpk.out.symm.trans hp); omega))
          rw [hp] at hpn
          go_wp2
          go_roundw
          case rel => exact ⟨k + 1, by omega, rfl, val_bool hpn.out, val_int (by have := hstep.out; unfold dOf at this; omega)⟩
          case measure => simp <;> omega
        · have hstep := Lib.hid (luSum_even k hlt (of_decide_eq_true (hpk.out.symm.trans hp)))
          have htw := twice_bd (d := (s[k].toNat : Int) - 48) (by omega) (by omega)
          rw [hp] at hpn
          go_wp2_with (go_at_call 44; refine (luhnDouble_any _ _ (by omega) (by omega)).mono ?_; rintro e w' ⟨rfl, rfl⟩)
          go_roundw
          case rel => exact ⟨k + 1, by omega, rfl, val_bool hpn.out, val_int (by have := hstep.out; unfold dOf at this; omega)⟩
          case measure => simp <;> omega
      · have hnx : ∀ ty, (Instr.next (.pointer (some ⟨w1.heap.size, 0, none⟩)) true ty).run Try.prog (w1.iter s k) = _ := fun ty => run_next_end w1 s k ty hlt
        have he : luSum (s.data.toList.drop k) = 0 := by rw [List.drop_eq_nil_of_le (by simp; omega)]; rfl
        have he0 : 0 ≤ luSum (s.data.toList.drop k) := by omega
        have he1 : luSum (s.data.toList.drop k) ≤ 0 := by omega
        clear he
        go_wp2
        go_ret
        exact ⟨ret_int (by omega), hb.trans ((below_iter _ _ _).mono hb.size)⟩

set_option maxRecDepth 100000 in
set_option maxHeartbeats 800000 in
theorem specLuhn_any (s : ByteArray) (w : World) (hs : s.size ≤ 1048576) :
    Calls Try.prog 28 #[.string s] w fun e w' => e = .returned (.int .i64 (luVal s)) ∧ w = w' := by
  cases hd : digs s
  · have hv : luVal s = -1 := by simp [luVal, hd]
    rw [hv]
    go_enter Try.func28, Try.ntmps28
    go_wp2_with (go_at_call 27; refine (specDigits_any _ _ (by unfold maxLen; omega)).mono ?_; rintro e w1 ⟨rfl, rfl⟩)
    go_ret
    exact ⟨rfl, rfl⟩
  · have hv : luVal s = (10 - luSum s.data.toList % 10) % 10 := by simp [luVal, hd]
    rw [hv]
    have hD := Lib.hid hd
    clear hv
    have hpos := digs_pos hd
    go_enter Try.func28, Try.ntmps28
    go_wp2_with (go_at_call 27; refine (specDigits_any _ _ (by unfold maxLen; omega)).mono ?_; rintro e w1 ⟨rfl, rfl⟩)
    clear hd
    go_loop [3, 4, 5] (fun nv tv iv => ∃ k : Nat, k ≤ s.size ∧ iv = .int .i64 ((k : Int) - 1) ∧ tv = .bool (!parOf s k) ∧ nv = .int .i64 (luSum (s.data.toList.drop k) % 10)) (fun _ _ iv => (intOf iv + 1).toNat)
    case atStart => exact ⟨s.size, Nat.le_refl _, rfl, val_bool (by unfold parOf; simp), val_int (by rw [List.drop_eq_nil_of_le (by simp)]; rfl)⟩
    case round =>
      obtain ⟨j, hk, rfl, rfl, rfl⟩ := hrel
      cases j with
      | zero =>
        go_wp2
        go_ret
        exact ⟨ret_int (by omega), rfl⟩
      | succ k =>
        have hlt : k < s.size := by omega
        have hg := digs_get hD.out k hlt
        have hg1 : (48 : Int) ≤ (s[k].toNat : Int) := by omega
        have hg2 : (s[k].toNat : Int) ≤ 57 := by omega
        have hpn := Lib.hid (par_next s k hlt)
        have hpk := Lib.hid (show parOf s k = decide ((s.size - k) % 2 = 1) from rfl)
        rw [← par_next s k hlt]
        cases hp : parOf s k
        · have hstep := Lib.hid (luSum_odd k hlt (by have := of_decide_eq_false (hpk.out.symm.trans hp); omega))
          go_wp2
          go_round
          case rel => exact ⟨k, by omega, rfl, val_bool (by rw [hp]; rfl), val_int (by have := hstep.out; unfold dOf at this; omega)⟩
          case measure => simp [intOf] <;> omega
        · have hstep := Lib.hid (luSum_even k hlt (of_decide_eq_true (hpk.out.symm.trans hp)))
          by_cases h4 : (s[k].toNat : Int) ≤ 52
          · go_wp2
            go_round
            case rel => exact ⟨k, by omega, rfl, val_bool (by rw [hp]; rfl), val_int (by have := hstep.out; unfold dOf twiceOf at this; split at this <;> omega)⟩
            case measure => simp [intOf] <;> omega
          · go_wp2
            go_round
            case rel => exact ⟨k, by omega, rfl, val_bool (by rw [hp]; rfl), val_int (by have := hstep.out; unfold dOf twiceOf at this; split at this <;> omega)⟩
            case measure => simp [intOf] <;> omega
end Go.Proofs.Ytpeeagkfhdeagaa
