/- Luhn, LuhnOk: what the two functions return is the check digit of the sum 'luSum'; no conditions. -/
import Derived.Test.YtmojpiofdfmdgabGreatDoorMrg2
import Derived.Deep.RegionWith
import Derived.Deep.QuietTactic
import Derived.BigQuiet
import Derived.Test.YtmojpiofdfmdgabGreatDoorMrg1
import Derived.Deep.Cut
import Derived.Deep.DeepCutAuto
import Derived.Lib.ItoaNum
import Derived.Lib.ItoaLen
import Derived.Laws.AppendOwn
import Derived.OwnWalk
import Derived.Deep.Onto
import Derived.Maps.AppendAt
import Derived.WalkLawsBesides
import Derived.Laws.EntriesVeiled
import Derived.Laws.Rows
set_option linter.unusedVariables false
namespace Go.Proofs.YtmojpiofdfmdgabGreatDoor
open Go.ChangeShapes Go.WideShapes Go.ChangeAt Go.RowKit

/-- the digit of a byte -/
def dOf (c : UInt8) : Int := (c.toNat : Int) - 48
/-- a digit doubled, 9 taken off where it is greater than 9 -/
def twiceOf (d : Int) : Int := if 4 < d then 2 * d - 9 else 2 * d
/-- the Luhn sum: the last digit is doubled, and every second one before it -/
def luSum : List UInt8 → Int
  | [] => 0
  | c :: l => (if l.length % 2 = 0 then twiceOf (dOf c) else dOf c) + luSum l
def luVal (s : ByteArray) : Int := if digs s = true then (10 - luSum s.data.toList % 10) % 10 else -1

set_option maxRecDepth 100000 in
theorem twice_bd {d : Int} (h0 : 0 ≤ d) (h1 : d ≤ 9) : 0 ≤ twiceOf d ∧ twiceOf d ≤ 9 := by unfold twiceOf; split <;> omega
set_option maxRecDepth 100000 in
theorem drop_one (s : ByteArray) (k : Nat) (h : k < s.size) : s.data.toList.drop k = s[k] :: s.data.toList.drop (k + 1) :=
  List.drop_eq_getElem_cons (by simpa using h)
set_option maxRecDepth 100000 in
theorem drop_len (s : ByteArray) (k : Nat) : (s.data.toList.drop k).length = s.size - k := by simp
set_option maxRecDepth 100000 in
theorem luSum_bd {s : ByteArray} (hd : digs s = true) (k : Nat) : 0 ≤ luSum (s.data.toList.drop k) ∧ luSum (s.data.toList.drop k) ≤ 9 * ((s.size - k : Nat) : Int) := by
  generalize hn : s.size - k = n
  induction n generalizing k with
  | zero =>
    have : s.data.toList.drop k = [] := List.drop_eq_nil_of_le (by simp; omega)
    rw [this]; exact ⟨Int.le_refl _, Int.le_refl _⟩
  | succ n ih =>
    have hk : k < s.size := by omega
    have h1 := ih (k + 1) (by omega)
    have hg := digs_get hd k hk
    rw [drop_one s k hk]
    simp only [luSum]
    have ht := twice_bd (d := dOf s[k]) (by unfold dOf; omega) (by unfold dOf; omega)
    have hd0 : 0 ≤ dOf s[k] ∧ dOf s[k] ≤ 9 := by unfold dOf; omega
    split <;> omega
set_option maxRecDepth 100000 in
/-- one digit further -/
theorem luSum_even {s : ByteArray} (k : Nat) (hk : k < s.size) (he : (s.size - k) % 2 = 1) : luSum (s.data.toList.drop k) = twiceOf (dOf s[k]) + luSum (s.data.toList.drop (k + 1)) := by
  rw [drop_one s k hk]; simp only [luSum]; rw [if_pos (by rw [drop_len]; omega)]
set_option maxRecDepth 100000 in
theorem luSum_odd {s : ByteArray} (k : Nat) (hk : k < s.size) (he : (s.size - k) % 2 = 0) : luSum (s.data.toList.drop k) = dOf s[k] + luSum (s.data.toList.drop (k + 1)) := by
  rw [drop_one s k hk]; simp only [luSum]; rw [if_neg (by rw [drop_len]; omega)]

set_option maxRecDepth 100000 in
theorem luhnDouble_any (d : Int) (w : World) (h0 : 0 ≤ d) (h1 : d ≤ 9) : Calls Tryz.prog 188 #[.int .i64 d] w fun e w' => e = .returned (.int .i64 (twiceOf d)) ∧ w = w' := by
  by_cases h4 : 4 < d
  all_goals
    go_enter Tryz.func188, Tryz.ntmps188
    go_wp2
    go_ret
    exact ⟨ret_int (by unfold twiceOf; split <;> omega), rfl⟩

def parOf (s : ByteArray) (k : Nat) : Bool := decide ((s.size - k) % 2 = 1)
set_option maxRecDepth 100000 in
theorem par_next (s : ByteArray) (k : Nat) (h : k < s.size) : (!parOf s k) = parOf s (k + 1) := by
  unfold parOf
  rcases Nat.mod_two_eq_zero_or_one (s.size - k) with h1 | h1
  · rw [h1, show (s.size - (k + 1)) % 2 = 1 by omega]; rfl
  · rw [h1, show (s.size - (k + 1)) % 2 = 0 by omega]; rfl
set_option maxRecDepth 100000 in
theorem val_bool {a b : Bool} (h : a = b) : Value.bool a = Value.bool b := by rw [h]

set_option maxRecDepth 100000 in
set_option maxHeartbeats 800000 in
theorem implLuhn_any (s : ByteArray) (w : World) (hs : s.size ≤ 1048576) :
    Calls Tryz.prog 187 #[.string s] w fun e w' => e = .returned (.int .i64 (luVal s)) ∧ Below w.heap.size w w' := by
  cases hd : digs s
  · have hv : luVal s = -1 := by simp [luVal, hd]
    rw [hv]
    go_enter Tryz.func187, Tryz.ntmps187
    go_wp2_with (go_at_call 68; refine (implDigits_any _ _ (by unfold maxLen; omega)).mono ?_; rintro e w1 ⟨rfl, hb⟩)
    go_ret
    exact ⟨rfl, hb⟩
  · have hv : luVal s = (10 - luSum s.data.toList % 10) % 10 := by simp [luVal, hd]
    rw [hv]
    have hD := Lib.hid hd
    have hall := luSum_bd hd 0
    simp only [List.drop_zero, Nat.sub_zero] at hall
    have hall0 := hall.1
    have hall1 : luSum s.data.toList ≤ 9437184 := by omega
    clear hall hv
    go_enter Tryz.func187, Tryz.ntmps187
    go_wp2_with (go_at_call 68; refine (implDigits_any _ _ (by unfold maxLen; omega)).mono ?_; rintro e w1 ⟨rfl, hb⟩)
    clear hd
    go_loopw [3, 4] (fun dv sv wr => ∃ k : Nat, k ≤ s.size ∧ wr = w1.iter s k ∧ dv = .bool (parOf s k) ∧ sv = .int .i64 (luSum s.data.toList - luSum (s.data.toList.drop k))) (fun _ _ wr => s.size - wr.iterPos w1.heap.size)
    case atStart => exact ⟨0, Nat.zero_le _, rfl, val_bool (by unfold parOf; rw [Bool.eq_iff_iff]; simp; omega), val_int (by simp)⟩
    case round =>
      obtain ⟨k, hk, rfl, rfl, rfl⟩ := hrel
      by_cases hlt : k < s.size
      · have hg := digs_get hD.out k hlt
        have hg1 : (48 : Int) ≤ (s[k].toNat : Int) := by omega
        have hg2 : (s[k].toNat : Int) ≤ 57 := by omega
        have hnx : ∀ ty, (Instr.next (.pointer (some ⟨w1.heap.size, 0, none⟩)) true ty).run Tryz.prog (w1.iter s k) = _ := fun ty => run_next_any w1 s k ty hlt
        rw [decode_ascii s k hlt (by omega)] at hnx
        have hbk := luSum_bd hD.out k
        have hbk0 := hbk.1
        have hbk1 : luSum (s.data.toList.drop k) ≤ 9437184 := by omega
        clear hbk
        have hpn := Lib.hid (par_next s k hlt)
        have hpk := Lib.hid (show parOf s k = decide ((s.size - k) % 2 = 1) from rfl)
        cases hp : parOf s k
        · have hstep := Lib.hid (luSum_odd k hlt (by have := of_decide_eq_false (hpk.out.symm.trans hp); omega))
          rw [hp] at hpn
          go_wp2
          go_roundw
          case rel => exact ⟨k + 1, by omega, rfl, val_bool hpn.out, val_int (by have := hstep.out; unfold dOf at this; omega)⟩
          case measure => simp <;> omega
        · have hstep := Lib.hid (luSum_even k hlt (of_decide_eq_true (hpk.out.symm.trans hp)))
          have htw := twice_bd (d := (s[k].toNat : Int) - 48) (by omega) (by omega)
          rw [hp] at hpn
          go_wp2_with (go_at_call 188; refine (luhnDouble_any _ _ (by omega) (by omega)).mono ?_; rintro e w' ⟨rfl, rfl⟩)
          go_roundw
          case rel => exact ⟨k + 1, by omega, rfl, val_bool hpn.out, val_int (by have := hstep.out; unfold dOf at this; omega)⟩
          case measure => simp <;> omega
      · have hnx : ∀ ty, (Instr.next (.pointer (some ⟨w1.heap.size, 0, none⟩)) true ty).run Tryz.prog (w1.iter s k) = _ := fun ty => run_next_end w1 s k ty hlt
        have he : luSum (s.data.toList.drop k) = 0 := by rw [List.drop_eq_nil_of_le (by simp; omega)]; rfl
        have he0 : 0 ≤ luSum (s.data.toList.drop k) := by omega
        have he1 : luSum (s.data.toList.drop k) ≤ 0 := by omega
        clear he
        go_wp2
        go_ret
        exact ⟨ret_int (by omega), hb.trans ((below_iter _ _ _).mono hb.size)⟩

set_option maxRecDepth 100000 in
set_option maxHeartbeats 800000 in
theorem specLuhn_any (s : ByteArray) (w : World) (hs : s.size ≤ 1048576) :
    Calls Tryz.prog 78 #[.string s] w fun e w' => e = .returned (.int .i64 (luVal s)) ∧ w = w' := by
  cases hd : digs s
  · have hv : luVal s = -1 := by simp [luVal, hd]
    rw [hv]
    go_enter Tryz.func78, Tryz.ntmps78
    go_wp2_with (go_at_call 43; refine (specDigits_any _ _ (by unfold maxLen; omega)).mono ?_; rintro e w1 ⟨rfl, rfl⟩)
    go_ret
    exact ⟨rfl, rfl⟩
  · have hv : luVal s = (10 - luSum s.data.toList % 10) % 10 := by simp [luVal, hd]
    rw [hv]
    have hD := Lib.hid hd
    clear hv
    have hpos := digs_pos hd
    go_enter Tryz.func78, Tryz.ntmps78
    go_wp2_with (go_at_call 43; refine (specDigits_any _ _ (by unfold maxLen; omega)).mono ?_; rintro e w1 ⟨rfl, rfl⟩)
    clear hd
    go_loop [3, 4, 5] (fun nv tv iv => ∃ k : Nat, k ≤ s.size ∧ iv = .int .i64 ((k : Int) - 1) ∧ tv = .bool (!parOf s k) ∧ nv = .int .i64 (luSum (s.data.toList.drop k) % 10)) (fun _ _ iv => (intOf iv + 1).toNat)
    case atStart => exact ⟨s.size, Nat.le_refl _, rfl, val_bool (by unfold parOf; simp), val_int (by rw [List.drop_eq_nil_of_le (by simp)]; rfl)⟩
    case round =>
      obtain ⟨j, hk, rfl, rfl, rfl⟩ := hrel
      cases j with
      | zero =>
        go_wp2
        go_ret
        exact ⟨ret_int (by omega), rfl⟩
      | succ k =>
        have hlt : k < s.size := by omega
        have hg := digs_get hD.out k hlt
        have hg1 : (48 : Int) ≤ (s[k].toNat : Int) := by omega
        have hg2 : (s[k].toNat : Int) ≤ 57 := by omega
        have hpn := Lib.hid (par_next s k hlt)
        have hpk := Lib.hid (show parOf s k = decide ((s.size - k) % 2 = 1) from rfl)
        rw [← par_next s k hlt]
        cases hp : parOf s k
        · have hstep := Lib.hid (luSum_odd k hlt (by have := of_decide_eq_false (hpk.out.symm.trans hp); omega))
          go_wp2
          go_round
          case rel => exact ⟨k, by omega, rfl, val_bool (by rw [hp]; rfl), val_int (by have := hstep.out; unfold dOf at this; omega)⟩
          case measure => simp [intOf] <;> omega
        · have hstep := Lib.hid (luSum_even k hlt (of_decide_eq_true (hpk.out.symm.trans hp)))
          by_cases h4 : (s[k].toNat : Int) ≤ 52
          · go_wp2
            go_round
            case rel => exact ⟨k, by omega, rfl, val_bool (by rw [hp]; rfl), val_int (by have := hstep.out; unfold dOf twiceOf at this; split at this <;> omega)⟩
            case measure => simp [intOf] <;> omega
          · go_wp2
            go_round
            case rel => exact ⟨k, by omega, rfl, val_bool (by rw [hp]; rfl), val_int (by have := hstep.out; unfold dOf twiceOf at this; split at this <;> omega)⟩
            case measure => simp [intOf] <;> omega
end Go.Proofs.YtmojpiofdfmdgabGreatDoor
set_option linter.unusedVariables false
namespace Go.Proofs.YtmojpiofdfmdgabGreatDoor
open Go.ChangeShapes Go.WideShapes Go.ChangeAt Go.RowKit

def initOf (s : ByteArray) : ByteArray := s.extract 0 (s.size - 1)
def luOk (s : ByteArray) : Bool := decide (2 ≤ s.size) && digs s && (luVal (initOf s) == dOf (s.data.toList.getLastD 0))

set_option maxRecDepth 100000 in
theorem luOk_eq (s : ByteArray) (hd : digs s = true) (h2 : ¬ s.size < 2) : luOk s = (luVal (s.extract 0 (s.size - 1)) == ((s[s.size - 1].toNat : Int) - 48)) := by
  have hl : s.data.toList.getLastD 0 = s[s.size - 1] := by
    have hne : s.data.toList ≠ [] := by
      intro h
      have h4 : s.data.toList.length = s.size := by simp
      rw [h] at h4
      simp only [List.length_nil] at h4
      omega
    rw [List.getLastD_eq_getLast?, List.getLast?_eq_some_getLast hne, Option.getD_some, List.getLast_eq_getElem]
    rfl
  have h3 : decide (2 ≤ s.size) = true := decide_eq_true (by omega)
  unfold luOk dOf initOf
  rw [hd, h3, hl]
  rfl
set_option maxRecDepth 100000 in
theorem bool_beq_comm (a b : Int) : (a == b) = (b == a) := by rw [Bool.eq_iff_iff]; simp only [beq_iff_eq]; exact eq_comm
set_option maxRecDepth 100000 in
set_option maxHeartbeats 800000 in
theorem specLuhnOk_any (s : ByteArray) (w : World) (hs : s.size ≤ 1048576) :
    Calls Tryz.prog 67 #[.string s] w fun e w' => e = .returned (.bool (luOk s)) ∧ Below w.heap.size w w' := by
  cases hd : digs s
  · go_enter Tryz.func67, Tryz.ntmps67
    go_wp2_with (go_at_call 43; refine (specDigits_any _ _ (by unfold maxLen; omega)).mono ?_; rintro e w1 ⟨rfl, rfl⟩)
    go_ret
    exact ⟨ret_bool (by simp [luOk, hd]), Below.refl _ _⟩
  · by_cases h2 : s.size < 2
    · go_enter Tryz.func67, Tryz.ntmps67
      go_wp2_with (go_at_call 43; refine (specDigits_any _ _ (by unfold maxLen; omega)).mono ?_; rintro e w1 ⟨rfl, rfl⟩)
      go_ret
      exact ⟨ret_bool (by simp [luOk]; omega), Below.refl _ _⟩
    · have hg := digs_get hd (s.size - 1) (by omega)
      go_enter Tryz.func67, Tryz.ntmps67
      go_wp2_with (go_at_call 43; refine (specDigits_any _ _ (by unfold maxLen; omega)).mono ?_; rintro e w1 ⟨rfl, rfl⟩)
      have e1 : IntKind.i64.wrap ((s.size : Int) - 1) = (s.size : Int) - 1 := IntWalk.i64_in _ (by omega)
      have e2 : ((s.size : Int) - 1).toNat = s.size - 1 := by omega
      have e3 : 0 ≤ (s.size : Int) - 1 := by omega
      have e4 : 1 ≤ (s.size : Int) := by omega
      have e5 : IntKind.i64.wrap (s[s.size - 1].toNat : Int) = (s[s.size - 1].toNat : Int) := IntWalk.i64_in _ (by omega)
      have e6 : IntKind.i64.wrap ((s[s.size - 1].toNat : Int) - 48) = (s[s.size - 1].toNat : Int) - 48 := IntWalk.i64_in _ (by omega)
      have e7 : IntKind.u8.wrap ((s[s.size - 1].toNat : Int) - 48) = (s[s.size - 1].toNat : Int) - 48 := IntWalk.u8_in _ (by omega)
      go_region_with ((go_at_call 78; refine (specLuhn_any _ _ (by simp <;> omega)).mono ?_; rintro e w' ⟨rfl, rfl⟩))
      all_goals
        go_wp2
        go_ret
        exact ⟨ret_bool (luOk_eq s hd h2).symm, (Below.refl _ _).drew⟩

set_option maxRecDepth 100000 in
set_option maxHeartbeats 800000 in
theorem implLuhnOk_any (s : ByteArray) (w : World) (hs : s.size ≤ 1048576) :
    Calls Tryz.prog 186 #[.string s] w fun e w' => e = .returned (.bool (luOk s)) ∧ Below w.heap.size w w' := by
  by_cases h2 : s.size < 2
  · go_enter Tryz.func186, Tryz.ntmps186
    go_wp2_with (go_at_call 68; refine (implDigits_any _ _ (by unfold maxLen; omega)).mono ?_; rintro e w1 ⟨rfl, hb⟩)
    go_ret
    exact ⟨ret_bool (by simp [luOk]; omega), Below.refl _ _⟩
  · cases hd : digs s
    · go_enter Tryz.func186, Tryz.ntmps186
      go_wp2_with (go_at_call 68; refine (implDigits_any _ _ (by unfold maxLen; omega)).mono ?_; rintro e w1 ⟨rfl, hb⟩)
      go_ret
      exact ⟨ret_bool (by simp [luOk, hd]), hb⟩
    · have hg := digs_get hd (s.size - 1) (by omega)
      go_enter Tryz.func186, Tryz.ntmps186
      go_wp2_with (go_at_call 68; refine (implDigits_any _ _ (by unfold maxLen; omega)).mono ?_; rintro e w1 ⟨rfl, hb⟩)
      have e1 : IntKind.i64.wrap ((s.size : Int) - 1) = (s.size : Int) - 1 := IntWalk.i64_in _ (by omega)
      have e2 : ((s.size : Int) - 1).toNat = s.size - 1 := by omega
      have e3 : 0 ≤ (s.size : Int) - 1 := by omega
      have e4 : 1 ≤ (s.size : Int) := by omega
      have e5 : IntKind.i64.wrap (s[s.size - 1].toNat : Int) = (s[s.size - 1].toNat : Int) := IntWalk.i64_in _ (by omega)
      have e6 : IntKind.i64.wrap ((s[s.size - 1].toNat : Int) - 48) = (s[s.size - 1].toNat : Int) - 48 := IntWalk.i64_in _ (by omega)
      have e7 : IntKind.u8.wrap ((s[s.size - 1].toNat : Int) - 48) = (s[s.size - 1].toNat : Int) - 48 := IntWalk.u8_in _ (by omega)
      go_region_with ((go_at_call 187; refine (implLuhn_any _ _ (by simp <;> omega)).mono ?_; rintro e w' ⟨rfl, hb2⟩))
      all_goals
        go_wp2
        go_ret
        exact ⟨ret_bool (((luOk_eq s hd h2).trans (bool_beq_comm _ _)).symm), hb.drew.trans (hb2.mono (by simp; exact hb.size))⟩
end Go.Proofs.YtmojpiofdfmdgabGreatDoor
set_option linter.unusedVariables false
namespace Go.Proofs.YtmojpiofdfmdgabGreatDoor
open Go.ChangeShapes Go.WideShapes Go.ChangeAt Go.RowKit

def acctIdB (s : ByteArray) : Bool := decide (s.size ≤ 19) && luOk s
set_option maxRecDepth 100000 in
theorem specAcctIdOk_any (s : ByteArray) (w : World) (hs : s.size ≤ maxLen) :
    Calls Tryz.prog 48 #[.string s] w fun e w' => e = .returned (.bool (acctIdB s)) ∧ Below w.heap.size w w' := by
  by_cases h : s.size ≤ 19
  · have HI : Hid (acctIdB s = luOk s) := Lib.hid (by unfold acctIdB; rw [decide_eq_true h]; rfl)
    have HL := Lib.hid (fun w => specLuhnOk_any s w (by omega))
    have h' : (s.size : Int) ≤ 19 := by omega
    rw [HI.out]
    generalize luOk s = b at HL
    go_enter Tryz.func48, Tryz.ntmps48
    go_wp2_with fail
    refine (HL.out _).mono ?_
    rintro e w1 ⟨rfl, hb⟩
    go_wp2
    go_ret
    exact ⟨rfl, hb⟩
  · have HI : Hid (acctIdB s = false) := Lib.hid (by unfold acctIdB; rw [decide_eq_false h]; rfl)
    have h' : ¬ (s.size : Int) ≤ 19 := by omega
    rw [HI.out]
    go_enter Tryz.func48, Tryz.ntmps48
    go_wp2
    go_ret
    exact ⟨rfl, Below.refl _ _⟩
end Go.Proofs.YtmojpiofdfmdgabGreatDoor
set_option linter.unusedVariables false
namespace Go.Proofs.YtmojpiofdfmdgabGreatDoor
open Go.ChangeShapes Go.WideShapes Go.ChangeAt Go.RowKit

/-- block b holds the strings of a list -/
def strRow (w : World) (b : Nat) (l : List (List UInt8)) : Prop := ∀ (j : Nat) (x : List UInt8), l[j]? = some x → w.cell? ⟨b, j, none⟩ = some (.string ⟨x.toArray⟩)
/-- .. and may be written -/
def strFree (w : World) (b n : Nat) : Prop := ∀ j : Nat, j < n → w.frozen? ⟨b, j, none⟩ = false
set_option maxRecDepth 100000 in
theorem strRow.below {w w' : World} {b B : Nat} {l : List (List UInt8)} (h : strRow w b l) (hb : Below B w w') (hlt : b < B) : strRow w' b l := fun j x hx => (hb.cell (p := ⟨b, j, none⟩) hlt).trans (h j x hx)
set_option maxRecDepth 100000 in
theorem strFree.below {w w' : World} {b B n : Nat} (h : strFree w b n) (hb : Below B w w') (hlt : b < B) : strFree w' b n := fun j hj => (hb.frozen (p := ⟨b, j, none⟩) hlt).trans (h j hj)

/-- the text of a mark -/
def markOf (k : Int) : List UInt8 := 109 :: Lib.decDigits k.toNat
/-- of what was there block b alone may have turned -/
structure wrote (b : Nat) (w w' : World) : Prop where
  os : w'.os = w.os
  tape : w'.tape = w.tape
  output : w'.output = w.output
  size : w.heap.size ≤ w'.heap.size
  block : ∀ k, k < w.heap.size → k ≠ b → w'.heap[k]? = w.heap[k]?
set_option maxRecDepth 100000 in
theorem wrote.refl (b : Nat) (w : World) : wrote b w w := ⟨rfl, rfl, rfl, Nat.le_refl _, fun _ _ _ => rfl⟩
set_option maxRecDepth 100000 in
theorem wrote.then {b : Nat} {u v w : World} (h : wrote b u v) (g : Below v.heap.size v w) : wrote b u w :=
  ⟨g.os.trans h.os, g.tape.trans h.tape, g.output.trans h.output, Nat.le_trans h.size g.size, fun k hk hne => (g.block k (Nat.lt_of_lt_of_le hk h.size)).trans (h.block k hk hne)⟩
set_option maxRecDepth 100000 in
theorem wrote.set {b : Nat} {u v : World} (h : wrote b u v) (o : Nat) (x : Value) : wrote b u (v.setCell ⟨b, o, none⟩ x) :=
  ⟨h.os, h.tape, h.output, by simpa [World.setCell] using h.size, fun k hk hne => (Below.heap_setCell _ _ _ _ hne).trans (h.block k hk hne)⟩
set_option maxRecDepth 100000 in
theorem wrote.below {b B : Nat} {u v : World} (h : wrote b u v) (hB : B ≤ b) (hs : B ≤ u.heap.size) : Below B u v := ⟨h.os, h.tape, h.output, h.size, fun k hk => h.block k (by omega) (by omega)⟩
set_option maxRecDepth 100000 in
theorem wrote.row {b c : Nat} {u v : World} {l : List (List UInt8)} (h : wrote b u v) (hc : c < u.heap.size) (hne : c ≠ b) (hr : strRow u c l) : strRow v c l := fun j x hx =>
  (World.cell?_of_block (h.block c hc hne)).trans (hr j x hx)

/-- the first i places hold marks, all places can be written -/
def marked (w : World) (b : Nat) (k : Int) (i n : Nat) : Prop := ∀ j : Nat, j < n → w.frozen? ⟨b, j, none⟩ = false ∧ (∃ v, w.cell? ⟨b, j, none⟩ = some v) ∧ (j < i → w.cell? ⟨b, j, none⟩ = some (.string ⟨(markOf (k + j)).toArray⟩))
set_option maxRecDepth 100000 in
theorem marked.below {w w' : World} {b : Nat} {k : Int} {i n : Nat} (h : marked w b k i n) (hb : Below w.heap.size w w') (hlt : b < w.heap.size) : marked w' b k i n := fun j hj =>
  ⟨(hb.frozen (p := ⟨b, j, none⟩) hlt).trans (h j hj).1, by obtain ⟨v, hv⟩ := (h j hj).2.1; exact ⟨v, (hb.cell (p := ⟨b, j, none⟩) hlt).trans hv⟩, fun hi => (hb.cell (p := ⟨b, j, none⟩) hlt).trans ((h j hj).2.2 hi)⟩
set_option maxRecDepth 100000 in
theorem marked.set {w : World} {b : Nat} {k : Int} {i n : Nat} (h : marked w b k i n) (hi : i < n) : marked (w.setCell ⟨b, i, none⟩ (.string ⟨(markOf (k + i)).toArray⟩)) b k (i + 1) n := by
  intro j hj
  have hf : ∀ a, (w.setCell ⟨b, i, none⟩ (.string ⟨(markOf (k + i)).toArray⟩)).frozen? a = w.frozen? a := fun a => by simp
  refine ⟨(hf _).trans (h j hj).1, ?_⟩
  by_cases e : i = j
  · subst e
    obtain ⟨v, hv⟩ := (h i hj).2.1
    have := World.cell?_setCell_same w ⟨b, i, none⟩ (.string ⟨(markOf (k + i)).toArray⟩) hv
    exact ⟨⟨_, this⟩, fun _ => this⟩
  · have hne : ∀ x, (w.setCell ⟨b, i, none⟩ x).cell? ⟨b, j, none⟩ = w.cell? ⟨b, j, none⟩ := fun x => World.cell?_setCell_other _ _ _ _ (fun he => e (by simpa using congrArg Addr.off he))
    obtain ⟨v, hv⟩ := (h j hj).2.1
    exact ⟨⟨v, (hne _).trans hv⟩, fun hlt => (hne _).trans ((h j hj).2.2 (by omega))⟩

end Go.Proofs.YtmojpiofdfmdgabGreatDoor
set_option linter.unusedVariables false
namespace Go.Proofs.YtmojpiofdfmdgabGreatDoor
open Go.ChangeShapes Go.WideShapes Go.ChangeAt Go.RowKit

end Go.Proofs.YtmojpiofdfmdgabGreatDoor
set_option linter.unusedVariables false
namespace Go.Proofs.YtmojpiofdfmdgabGreatDoor
open Go.ChangeShapes Go.WideShapes Go.ChangeAt Go.RowKit

end Go.Proofs.YtmojpiofdfmdgabGreatDoor
set_option linter.unusedVariables false
namespace Go.Proofs.YtmojpiofdfmdgabGreatDoor
open Go.ChangeShapes Go.WideShapes Go.ChangeAt Go.RowKit

end Go.Proofs.YtmojpiofdfmdgabGreatDoor
set_option linter.unusedVariables false
namespace Go.Proofs.YtmojpiofdfmdgabGreatDoor
open Go.ChangeShapes Go.WideShapes Go.ChangeAt Go.RowKit

def inB (n lo hi : Int) : Bool := decide (lo ≤ n ∧ n ≤ hi)
set_option maxRecDepth 100000 in
theorem inB_any (n lo hi : Int) (w : World) : Calls Tryz.prog 47 #[.int .i64 n, .int .i64 lo, .int .i64 hi] w fun e w' => e = .returned (.bool (inB n lo hi)) ∧ w = w' := by
  by_cases h0 : lo ≤ n
  all_goals
    go_enter Tryz.func47, Tryz.ntmps47
    go_wp2
    go_ret
    exact ⟨by simp [inB]; omega, rfl⟩
end Go.Proofs.YtmojpiofdfmdgabGreatDoor
set_option linter.unusedVariables false
namespace Go.Proofs.YtmojpiofdfmdgabGreatDoor
open Go.ChangeShapes Go.WideShapes Go.ChangeAt Go.RowKit

end Go.Proofs.YtmojpiofdfmdgabGreatDoor
set_option linter.unusedVariables false
namespace Go.Proofs.YtmojpiofdfmdgabGreatDoor
open Go.ChangeShapes Go.WideShapes Go.ChangeAt Go.RowKit

end Go.Proofs.YtmojpiofdfmdgabGreatDoor
set_option linter.unusedVariables false
namespace Go.Proofs.YtmojpiofdfmdgabGreatDoor
open Go.ChangeShapes Go.WideShapes Go.ChangeAt Go.RowKit

/-- a digit or a small letter -/
def idCh (c : UInt8) : Bool := decide (48 ≤ c.toNat ∧ c.toNat ≤ 57 ∨ 97 ≤ c.toNat ∧ c.toNat ≤ 122)
def idOk (s : ByteArray) : Bool := s.data.toList.all idCh && inB (s.size : Int) 1 6
set_option maxRecDepth 100000 in
theorem all_step {s : ByteArray} {k : Nat} {p : UInt8 → Bool} (hlt : k < s.size) (h : (s.data.toList.take k).all p = true) (hp : p s[k] = true) : (s.data.toList.take (k + 1)).all p = true := by
  have hl : k < s.data.toList.length := by simpa using hlt
  have hp' : p s.data.toList[k] = true := hp
  rw [List.take_succ_eq_append_getElem hl, List.all_append, h]
  simpa using hp'
set_option maxRecDepth 100000 in
theorem all_not {s : ByteArray} {k : Nat} {p : UInt8 → Bool} (hlt : k < s.size) (hp : p s[k] = false) : s.data.toList.all p = false := by
  rw [List.all_eq_false]
  have hl : k < s.data.toList.length := by simpa using hlt
  exact ⟨s.data.toList[k], List.getElem_mem hl, by rw [Bool.not_eq_true]; exact hp⟩
set_option maxRecDepth 100000 in
theorem all_whole {s : ByteArray} {p : UInt8 → Bool} (h : (s.data.toList.take s.size).all p = true) : s.data.toList.all p = true := by
  have e : s.size = s.data.toList.length := by simp
  rw [e, List.take_length] at h
  exact h
set_option maxRecDepth 100000 in
theorem idOk_not {s : ByteArray} (h : s.data.toList.all idCh = false) : idOk s = false := by unfold idOk; rw [h]; rfl
set_option maxRecDepth 100000 in
theorem idOk_yes {s : ByteArray} (h : s.data.toList.all idCh = true) : idOk s = inB (s.size : Int) 1 6 := by unfold idOk; rw [h]; rfl
end Go.Proofs.YtmojpiofdfmdgabGreatDoor
set_option linter.unusedVariables false
namespace Go.Proofs.YtmojpiofdfmdgabGreatDoor
open Go.ChangeShapes Go.WideShapes Go.ChangeAt Go.RowKit

/-- a row of structs of the call's own, from block B on; it may be appended to -/
def owE {α : Type} (T : TypeId) (k : Nat) (enc : α → List Value) (B : Nat) (w : World) (v : Value) (l : List α) : Prop := w.ownsRow B T k v l.length (l.flatMap enc)
section
variable {α : Type} {T : TypeId} {k B B' : Nat} {enc : α → List Value} {w w' : World} {v : Value} {l : List α}
set_option maxRecDepth 100000 in
theorem owE_none (T : TypeId) (k B : Nat) (enc : α → List Value) (w : World) : owE T k enc B w (.slice none 0 0) [] := ⟨by simp, Or.inl ⟨rfl, rfl⟩⟩
set_option maxRecDepth 100000 in
theorem owE.lt (h : owE T k enc B w v l) : ∀ g, v.ownBlock = some g → B ≤ g ∧ g < w.heap.size := World.ownsRow.lt h
set_option maxRecDepth 100000 in
theorem owE.keep (h : owE T k enc B w v l) (hk : ∀ g, v.ownBlock = some g → w'.heap[g]? = w.heap[g]?) : owE T k enc B w' v l := by
  refine ⟨h.1, ?_⟩
  rcases h.2 with hn | ⟨g, cap, cur, rfl, hB, hg, rest⟩
  · exact .inl hn
  · exact .inr ⟨g, cap, cur, rfl, hB, (hk g rfl).trans hg, rest⟩
set_option maxRecDepth 100000 in
theorem owE.below {C : Nat} (h : owE T k enc B w v l) (hb : Below C w w') (hC : w.heap.size ≤ C) : owE T k enc B w' v l := h.keep fun g hg => hb.block g (by have := (h.lt g hg).2; omega)
set_option maxRecDepth 100000 in
theorem owE.alloc (h : owE T k enc B w v l) (o : Obj) : owE T k enc B (w.alloc o) v l := World.ownsRow.alloc h o
set_option maxRecDepth 100000 in
theorem owE.set (h : owE T k enc B w v l) {b : Nat} (hb : v.ownBlock ≠ some b) (o : Nat) (x : Value) : owE T k enc B (w.setCell ⟨b, o, none⟩ x) v l := h.keep fun g hg => Below.heap_setCell _ _ _ _ (show g ≠ b from fun e => hb (by rw [hg, e]))
set_option maxRecDepth 100000 in
theorem owE.mono (h : owE T k enc B w v l) (hB : B' ≤ B) : owE T k enc B' w v l := World.ownsRow.mono h hB
set_option maxRecDepth 100000 in
theorem flat_at (hk : ∀ x, (enc x).length = k) : ∀ (l : List α) (j : Nat) (x : α), l[j]? = some x → ∀ t u, (enc x)[t]? = some u → (l.flatMap enc)[j * k + t]? = some u := by
  intro l
  induction l with
  | nil => intro j x h; simp at h
  | cons y l ih =>
    intro j x h t u hu
    rw [List.flatMap_cons]
    cases j with
    | zero =>
      simp only [List.getElem?_cons_zero, Option.some.injEq] at h
      subst h
      rw [Nat.zero_mul, Nat.zero_add, List.getElem?_append_left (List.getElem?_eq_some_iff.1 hu).1]
      exact hu
    | succ j =>
      have := ih j x (by simpa using h) t u hu
      rw [List.getElem?_append_right (by rw [hk, Nat.add_mul]; omega), hk, Nat.add_mul]
      rwa [show j * k + 1 * k + t - k = j * k + t by omega]
set_option maxRecDepth 100000 in
/-- the row's elements lie in one block that may be written -/
theorem owE.filled (h : owE T k enc B w v l) (hk : ∀ x, (enc x).length = k) (d : α) : (l = [] ∧ ∃ A c, v = .slice A 0 c) ∨ ∃ b c, v = .slice (some ⟨b, 0, none⟩) l.length c ∧ l.length ≤ c ∧ B ≤ b ∧ b < w.heap.size ∧ Proofs.YtmojpiofdfmdgabGreatDoor.filled w b 0 k l.length l.length fun j => enc (l.getD j d) := by
  have hlen := h.1
  rcases h.2 with ⟨rfl, h0⟩ | ⟨g, cap, cur, rfl, hB, hg, h1, h2, h3, h4⟩
  · exact .inl ⟨List.eq_nil_of_length_eq_zero h0, none, 0, rfl⟩
  · refine .inr ⟨g, cap, rfl, h1, hB, (Array.getElem?_eq_some_iff.1 hg).1, ?_⟩
    have hh : w.ownsRow B T k (.slice (some ⟨g, 0, none⟩) l.length cap) l.length (l.flatMap enc) := h
    refine ⟨fun t ht => ?_, fun j hj t u hu => ?_⟩
    · rw [Nat.zero_add]
      refine ⟨?_, hh.frozenAt t⟩
      rw [hh.cellAt t ht]
      exact ⟨_, List.getElem?_eq_getElem (by rw [hlen]; exact ht)⟩
    · have hx : l[j]? = some l[j] := List.getElem?_eq_getElem hj
      have hd : l.getD j d = l[j] := by rw [List.getD_eq_getElem?_getD, hx]; rfl
      simp only [hd] at hu
      have htk : t < k := by rw [← hk l[j]]; exact (List.getElem?_eq_some_iff.1 hu).1
      have hjk := mul_step (k := k) hj
      rw [Nat.zero_add, hh.cellAt (j * k + t) (by omega)]
      exact flat_at hk l j _ hx t u hu
end
set_option maxRecDepth 100000 in
theorem ow.from {T : TypeId} {K : IntKind} {B : Nat} {w : World} {v : Value} {L : List Int} (h : ow T K B w v L) : ∀ g, v.ownBlock = some g → B ≤ g := fun g hg => (World.ownsRow.lt h g hg).1
set_option maxRecDepth 100000 in
theorem rd.at {K : IntKind} {hi : Nat} {w : World} {A : Option Addr} {n c : Nat} {l : List Int} (h : rd K hi w (.slice A n c) l) {j : Nat} {x : Int} (hx : l[j]? = some x) : ∃ b off : Nat, A = some ⟨b, off, none⟩ ∧ b < hi ∧ w.cell? ⟨b, off + j, none⟩ = some (.int K x) := by
  obtain ⟨A', c', hv, hc, hj⟩ := h
  obtain ⟨b, off, e, hb, hcell⟩ := hj j (List.getElem?_eq_some_iff.1 hx).1
  simp only [Value.slice.injEq] at hv
  rw [List.getD_eq_getElem?_getD, hx] at hcell
  exact ⟨b, off, by rw [hv.1]; exact e, hb, hcell⟩
end Go.Proofs.YtmojpiofdfmdgabGreatDoor
set_option linter.unusedVariables false
namespace Go.Proofs.YtmojpiofdfmdgabGreatDoor
open Go.ChangeShapes Go.WideShapes Go.ChangeAt Go.RowKit

set_option maxRecDepth 100000 in
theorem bk.cells3 {w : World} {g : Nat} {t : TypeId} {a b c : Value} (h : bk w g t [a, b, c]) : w.cell? ⟨g, 0, none⟩ = some a ∧ w.cell? ⟨g, 1, none⟩ = some b ∧ w.cell? ⟨g, 2, none⟩ = some c := ⟨h.cell 0, h.cell 1, h.cell 2⟩
end Go.Proofs.YtmojpiofdfmdgabGreatDoor
set_option linter.unusedVariables false
namespace Go.Proofs.YtmojpiofdfmdgabGreatDoor
open Go.ChangeShapes Go.WideShapes Go.ChangeAt Go.RowKit

set_option maxRecDepth 100000 in
set_option maxHeartbeats 1600000 in
theorem specHoldIdOk_any (s : ByteArray) (w : World) (hs : s.size ≤ maxLen) :
    Calls Tryz.prog 49 #[.string s] w fun e w' => e = .returned (.bool (idOk s)) ∧ w = w' := by
  unfold maxLen at hs
  have HI := Lib.hid (fun w => inB_any (s.size : Int) 1 6 w)
  go_enter Tryz.func49, Tryz.ntmps49
  go_wp2
  go_loop [3] (fun i => ∃ k : Nat, k ≤ s.size ∧ i = .int .i64 k ∧ (s.data.toList.take k).all idCh = true) (fun i => s.size - (intOf i).toNat)
  case atStart => exact ⟨0, Nat.zero_le _, rfl, rfl⟩
  case round =>
    obtain ⟨k, hk, rfl, ha0⟩ := hrel
    have ha := Lib.hid ha0
    clear ha0
    by_cases hlt : k < s.size
    · go_wp2
      · go_ret
        exact ⟨ret_bool (idOk_not (all_not (p := idCh) hlt (decide_eq_false (by omega)))).symm, rfl⟩
      · go_round
        case rel => exact ⟨k + 1, by omega, by go_num, all_step hlt ha.out (decide_eq_true (by omega))⟩
        case measure => simp [intOf] <;> omega
      · go_ret
        exact ⟨ret_bool (idOk_not (all_not (p := idCh) hlt (decide_eq_false (by omega)))).symm, rfl⟩
      · go_round
        case rel => exact ⟨k + 1, by omega, by go_num, all_step hlt ha.out (decide_eq_true (by omega))⟩
        case measure => simp [intOf] <;> omega
      · go_ret
        exact ⟨ret_bool (idOk_not (all_not (p := idCh) hlt (decide_eq_false (by omega)))).symm, rfl⟩
    · obtain rfl : k = s.size := by omega
      have HV := Lib.hid (idOk_yes (all_whole ha.out))
      go_wp2_with fail
      refine (HI.out _).mono ?_
      rintro e w1 ⟨rfl, rfl⟩
      go_wp2
      go_ret
      exact ⟨ret_bool HV.out.symm, rfl⟩
end Go.Proofs.YtmojpiofdfmdgabGreatDoor
set_option linter.unusedVariables false
namespace Go.Proofs.YtmojpiofdfmdgabGreatDoor
open Go.ChangeShapes Go.WideShapes Go.ChangeAt Go.RowKit

/-- W is w0 and more: all blocks of w0 hold what they held. -/
def Ext (w0 W : World) : Prop := Below w0.heap.size w0 W
set_option maxRecDepth 100000 in
theorem Ext.refl (w0 : World) : Ext w0 w0 := Below.refl _ _
set_option maxRecDepth 100000 in
theorem Ext.drew {w0 W : World} (h : Ext w0 W) : Ext w0 W.drew := Below.drew h
set_option maxRecDepth 100000 in
theorem Ext.below {w0 W : World} (h : Ext w0 W) : Below w0.heap.size w0 W := h
set_option maxRecDepth 100000 in
theorem Ext.step {w0 W W' : World} (h : Ext w0 W) (hb : Below W.heap.size W W') : Ext w0 W' := Below.trans h (hb.mono (Below.size h))
set_option maxRecDepth 100000 in
theorem Ext.cell {w0 W : World} (h : Ext w0 W) {b off : Nat} {v : Value} (hc : w0.cell? ⟨b, off, none⟩ = some v) (hb : b < w0.heap.size) : W.cell? ⟨b, off, none⟩ = some v := (Below.cell h hb).trans hc
set_option maxRecDepth 100000 in
theorem quiet_region {P : Program} {C : World → Prop} {id : Nat} {Q : Exit → Act → World → Prop} {a : Act} {w : World} {l : List Oper} (hm : P.follows .mixedOrders = true) (hB : Region.lexB .any l.toArray = true) (hC : C w.drew)
    (h : wpQuiet P l.toArray C (fun a' => ∀ w', C w' → Q .normal a' w') l a) : (Code.region id l.toArray true).wp P Q a w :=
  wp_region_quiet (C := C) hm hB hC (by simpa using h)
end Go.Proofs.YtmojpiofdfmdgabGreatDoor
set_option linter.unusedVariables false
namespace Go.Proofs.YtmojpiofdfmdgabGreatDoor
open Go.ChangeShapes Go.WideShapes Go.ChangeAt Go.RowKit

def fKind (no : Int) : Int :=
  if no = 3 ∨ no = 4 ∨ no = 7 ∨ no = 11 ∨ no = 14 ∨ no = 49 then 1 else if no = 37 ∨ no = 38 ∨ no = 39 ∨ no = 41 ∨ no = 95 then 2 else if no = 2 then 3 else if no = 102 ∨ no = 103 then 4 else if no = 48 ∨ no = 54 then 5 else 0
def fSize (no : Int) : Int :=
  if no = 2 then 19 else if no = 3 ∨ no = 11 ∨ no = 38 then 6 else if no = 4 ∨ no = 37 ∨ no = 95 then 12 else if no = 7 then 10 else if no = 14 then 4 else if no = 39 then 2 else if no = 41 then 8 else if no = 49 then 3 else if no = 102 ∨ no = 103 then 20 else if no = 48 ∨ no = 54 then 60 else 0

set_option maxRecDepth 100000 in
theorem specFieldKind_any (no : Int) (w : World) :
    Calls Tryz.prog 61 #[.int .i64 no] w fun e w' => e = .returned (.int .i64 (fKind no)) ∧ w = w' := by
  go_enter Tryz.func61, Tryz.ntmps61
  go_wp2
  all_goals go_ret
  all_goals refine ⟨ret_int ?_, rfl⟩
  all_goals simp only [beq_iff_eq, beq_eq_false_iff_ne, ne_eq] at *
  all_goals first | (subst_vars; rfl) | simp [fKind, *]

set_option maxRecDepth 100000 in
theorem specFieldSize_any (no : Int) (w : World) :
    Calls Tryz.prog 60 #[.int .i64 no] w fun e w' => e = .returned (.int .i64 (fSize no)) ∧ w = w' := by
  go_enter Tryz.func60, Tryz.ntmps60
  go_wp2
  all_goals go_ret
  all_goals refine ⟨ret_int ?_, rfl⟩
  all_goals simp only [beq_iff_eq, beq_eq_false_iff_ne, ne_eq] at *
  all_goals first | (subst_vars; rfl) | simp [fSize, *]
end Go.Proofs.YtmojpiofdfmdgabGreatDoor
set_option linter.unusedVariables false
namespace Go.Proofs.YtmojpiofdfmdgabGreatDoor
open Go.ChangeShapes Go.WideShapes Go.ChangeAt Go.RowKit

def fNos : List Int := [2, 3, 4, 7, 11, 14, 37, 38, 39, 41, 48, 49, 54, 95, 102, 103]
def putId (k : Int) : FuncId := if k = 1 then 98 else if k = 2 then 100 else if k = 3 then 102 else if k = 4 then 104 else 106
def getId (k : Int) : FuncId := if k = 1 then 99 else if k = 2 then 101 else if k = 3 then 103 else if k = 4 then 105 else 107
def rowCells (no : Int) : List Value := [.int .i64 no, .int .i64 (fSize no), .int .i64 (fKind no), .func (.func (putId (fKind no))) #[] #[], .func (.func (getId (fKind no))) #[] #[]]
def fTab : List Value := fNos.flatMap rowCells
/-- a row with its five cells -/
def rowV (no : Int) : Value := if fKind no = 0 then .agg #[.int .i64 0, .int .i64 0, .int .i64 0, .nilFunc, .nilFunc] else .agg (rowCells no).toArray

set_option maxRecDepth 100000 in
theorem last_block (w : World) (o : Obj) (n : Nat) (h : n = w.heap.size) : (w.alloc o).heap[n]? = some o := by subst h; exact heap_alloc_new _ _
def isTab (w : World) (e : Ending) (w' : World) : Prop := ∃ b, e = .returned (.slice (some ⟨b, 0, none⟩) 16 16) ∧ w.heap.size ≤ b ∧ b < w'.heap.size ∧ w'.heap[b]? = some (.cells fTab.toArray 103 (0, 0)) ∧ Below w.heap.size w w'
set_option maxRecDepth 100000 in
set_option maxHeartbeats 4000000 in
theorem fieldTable_any (w : World) :
    Calls Tryz.prog 80 #[] w (isTab w) := by
  go_enter Tryz.func80, Tryz.ntmps80
  go_wp2
  go_ret
  refine ⟨_, rfl, by omega, by simp, ?_, ((((((Below.refl _ _).alloc (Nat.le_refl _) _).alloc (by simp <;> omega) _).alloc (by simp <;> omega) _).alloc (by simp <;> omega) _).alloc (by simp <;> omega) _).alloc (by simp <;> omega) _⟩
  refine (last_block _ _ _ (by simp)).trans ?_
  kernel_rfl
set_option maxRecDepth 100000 in
theorem tab_cells (k : Nat) (hk : k < 16) (j : Nat) (hj : j < 5) : fTab[k * 5 + j]? = (rowCells (fNos.getD k 0))[j]? := by
  have hk' : k = 0 ∨ k = 1 ∨ k = 2 ∨ k = 3 ∨ k = 4 ∨ k = 5 ∨ k = 6 ∨ k = 7 ∨ k = 8 ∨ k = 9 ∨ k = 10 ∨ k = 11 ∨ k = 12 ∨ k = 13 ∨ k = 14 ∨ k = 15 := by omega
  have hj' : j = 0 ∨ j = 1 ∨ j = 2 ∨ j = 3 ∨ j = 4 := by omega
  rcases hk' with rfl | rfl | rfl | rfl | rfl | rfl | rfl | rfl | rfl | rfl | rfl | rfl | rfl | rfl | rfl | rfl <;> rcases hj' with rfl | rfl | rfl | rfl | rfl <;> rfl
end Go.Proofs.YtmojpiofdfmdgabGreatDoor
set_option linter.unusedVariables false
namespace Go.Proofs.YtmojpiofdfmdgabGreatDoor
open Go.ChangeShapes Go.WideShapes Go.ChangeAt Go.RowKit

set_option maxRecDepth 100000 in
theorem known_iff : ∀ k, k < 16 → fKind (fNos.getD k 0) ≠ 0 := by decide +kernel
set_option maxRecDepth 100000 in
theorem not_known (no : Int) (h : ∀ j, j < 16 → fNos.getD j 0 ≠ no) : fKind no = 0 := by
  have h0 := h 0 (by omega); have h1 := h 1 (by omega); have h2 := h 2 (by omega); have h3 := h 3 (by omega); have h4 := h 4 (by omega); have h5 := h 5 (by omega); have h6 := h 6 (by omega); have h7 := h 7 (by omega)
  have h8 := h 8 (by omega); have h9 := h 9 (by omega); have h10 := h 10 (by omega); have h11 := h 11 (by omega); have h12 := h 12 (by omega); have h13 := h 13 (by omega); have h14 := h 14 (by omega); have h15 := h 15 (by omega)
  simp only [fNos, List.getD_cons_zero, List.getD_cons_succ] at *
  unfold fKind
  rw [if_neg (by omega), if_neg (by omega), if_neg (by omega), if_neg (by omega), if_neg (by omega)]

set_option maxRecDepth 100000 in
set_option maxHeartbeats 4000000 in
theorem fieldAt_any (no : Int) (w : World) :
    Calls Tryz.prog 69 #[.int .i64 no] w fun e w' => e = .returned (rowV no) ∧ Below w.heap.size w w' := by
  go_enter Tryz.func69, Tryz.ntmps69
  go_wp2_with fail
  refine (fieldTable_any _).mono ?_
  rintro e w1 ⟨b, rfl, hb0, hb1, hT, hB⟩
  have h1 := bk.new w 103 [.int .i64 0, .int .i64 0, .int .i64 0, .nilFunc, .nilFunc]
  have h2 := h1.below hB h1.lt
  have hz : w.heap.size + 1 ≤ b := by simpa using hb0
  have hBB : Below w.heap.size w w1 := ((Below.refl _ _).alloc (Nat.le_refl _) _).trans (hB.mono (by simp))
  have HT : Hid (bk w1 b 103 fTab) := Lib.hid hT
  have HR := Lib.hid h2
  have HB := Lib.hid hBB
  clear hT hB h1 h2 hBB hb0
  go_wp2
  go_loopw [7] (fun iv wr => ∃ k : Nat, k ≤ 16 ∧ iv = .int .i64 k ∧ Hid (∀ j, j < k → fNos.getD j 0 ≠ no) ∧ Hid (bk wr b 103 fTab) ∧ Hid (bk wr w.heap.size 103 [.int .i64 0, .int .i64 0, .int .i64 0, .nilFunc, .nilFunc]) ∧ Hid (Below w.heap.size w wr)) (fun iv _ => 16 - (intOf iv).toNat)
  case atStart => exact ⟨0, by omega, rfl, Lib.hid (fun j hj => by omega), HT, HR, HB⟩
  case round =>
    obtain ⟨k, hk, rfl, hN, hT, hR, hW⟩ := hrel
    by_cases hlt : k < 16
    · have c0 := (hT.out.cell (k * 5)).trans (tab_cells k hlt 0 (by omega))
      have c1 := (hT.out.cell (k * 5 + 1)).trans (tab_cells k hlt 1 (by omega))
      have c2 := (hT.out.cell (k * 5 + 2)).trans (tab_cells k hlt 2 (by omega))
      have c3 := (hT.out.cell (k * 5 + 3)).trans (tab_cells k hlt 3 (by omega))
      have c4 := (hT.out.cell (k * 5 + 4)).trans (tab_cells k hlt 4 (by omega))
      simp only [rowCells, List.getElem?_cons_zero, List.getElem?_cons_succ] at c0 c1 c2 c3 c4
      have HE : Hid (fKind (fNos.getD k 0) ≠ 0) := Lib.hid (known_iff k hlt)
      generalize hn : fNos.getD k 0 = n at c0 c1 c2 c3 c4 HE
      have HNn := Lib.hid hn
      clear hn
      generalize hs : fSize n = sz at c0 c1 c2 c3 c4
      generalize hkd : fKind n = kd at c0 c1 c2 c3 c4
      generalize hpi : putId kd = pi at c0 c1 c2 c3 c4
      generalize hgi : getId kd = gi at c0 c1 c2 c3 c4
      have HV : Hid (sz = fSize n ∧ kd = fKind n ∧ pi = putId kd ∧ gi = getId kd) := Lib.hid ⟨hs.symm, hkd.symm, hpi.symm, hgi.symm⟩
      clear hs hkd hpi hgi
      have hsz := hR.out.lt
      have r0 := hR.out.cell 0
      have r1 := hR.out.cell 1
      have r2 := hR.out.cell 2
      have r3 := hR.out.cell 3
      have r4 := hR.out.cell 4
      have f0 := hR.out.frozen 0
      have f1 := hR.out.frozen 1
      have f2 := hR.out.frozen 2
      have f3 := hR.out.frozen 3
      have f4 := hR.out.frozen 4
      simp only [List.getElem?_cons_zero, List.getElem?_cons_succ] at r0 r1 r2 r3 r4
      by_cases he : n = no
      · subst he
        go_wp2
        have hb' := ((((((hR.out.set 0 (.int .i64 n)).set 1 (.int .i64 sz)).set 2 (.int .i64 kd)).set 3 (.func (.func pi) #[] #[])).set 4 (.func (.func gi) #[] #[])).alloc (.cells #[.int .i64 n, .int .i64 sz, .int .i64 kd, .func (.func pi) #[] #[], .func (.func gi) #[] #[]] 103))
        have k0 := hb'.cell 0
        have k1 := hb'.cell 1
        have k2 := hb'.cell 2
        have k3 := hb'.cell 3
        have k4 := hb'.cell 4
        simp only [List.set_cons_zero, List.set_cons_succ, List.getElem?_cons_zero, List.getElem?_cons_succ] at k0 k1 k2 k3 k4
        refine bodyPost_ret (v := .agg #[.int .i64 n, .int .i64 sz, .int .i64 kd, .func (.func pi) #[] #[], .func (.func gi) #[] #[]]) (by simp [results, Tryz.results69, go_sem, k0, k1, k2, k3, k4]) rfl ⟨?_, ?_⟩
        · obtain ⟨rfl, rfl, rfl, rfl⟩ := HV.out
          unfold rowV
          rw [if_neg HE.out]
          simp only [rowCells]
        · refine below_new (below_set (below_set (below_set (below_set (below_set hW.out (Nat.le_refl _)) (Nat.le_refl _)) (Nat.le_refl _)) (Nat.le_refl _)) (Nat.le_refl _)) (by simp; omega)
      · have he' : (n == no) = false := beq_eq_false_iff_ne.2 he
        have HNE := Lib.hid he
        go_wp2
        go_roundw
        case rel =>
          refine ⟨k + 1, by omega, by go_num, Lib.hid (fun j hj => ?_), Lib.hid (hT.out.alloc _), Lib.hid (hR.out.alloc _), Lib.hid (hW.out.alloc (by omega) _)⟩
          by_cases e : j = k
          · subst e; rw [HNn.out]; exact HNE.out
          · exact hN.out j (by omega)
        case measure => simp [intOf] <;> omega
    · obtain rfl : k = 16 := by omega
      have HK : Hid (fKind no = 0) := Lib.hid (not_known no hN.out)
      have r0 := hR.out.cell 0
      have r1 := hR.out.cell 1
      have r2 := hR.out.cell 2
      have r3 := hR.out.cell 3
      have r4 := hR.out.cell 4
      have f0 := hR.out.frozen 0
      have f1 := hR.out.frozen 1
      have f2 := hR.out.frozen 2
      have f3 := hR.out.frozen 3
      have f4 := hR.out.frozen 4
      simp only [List.getElem?_cons_zero, List.getElem?_cons_succ] at r0 r1 r2 r3 r4
      go_wp2
      have hb' := (((((hR.out.set 0 (.int .i64 0)).set 1 (.int .i64 0)).set 2 (.int .i64 0)).set 3 .nilFunc).set 4 .nilFunc)
      have k0 := hb'.cell 0
      have k1 := hb'.cell 1
      have k2 := hb'.cell 2
      have k3 := hb'.cell 3
      have k4 := hb'.cell 4
      simp only [List.set_cons_zero, List.set_cons_succ, List.getElem?_cons_zero, List.getElem?_cons_succ] at k0 k1 k2 k3 k4
      refine bodyPost_ret (v := .agg #[.int .i64 0, .int .i64 0, .int .i64 0, .nilFunc, .nilFunc]) (by simp [results, Tryz.results69, go_sem, k0, k1, k2, k3, k4]) rfl ⟨?_, ?_⟩
      · unfold rowV
        rw [if_pos HK.out]
      · refine below_set (below_set (below_set (below_set (below_set hW.out (Nat.le_refl _)) (Nat.le_refl _)) (Nat.le_refl _)) (Nat.le_refl _)) (Nat.le_refl _)
end Go.Proofs.YtmojpiofdfmdgabGreatDoor
set_option linter.unusedVariables false
namespace Go.Proofs.YtmojpiofdfmdgabGreatDoor
open Go.ChangeShapes Go.WideShapes Go.ChangeAt Go.RowKit

set_option maxRecDepth 100000 in
theorem data_get (s : ByteArray) (k : Nat) (h : k < s.size) : s.data.toList[k]'(by simpa using h) = s[k] := rfl
set_option maxRecDepth 100000 in
theorem allP_one (p : UInt8 → Bool) (s : ByteArray) (k : Nat) (h : k < s.size) (ha : (s.data.toList.take k).all p = true) (hb : p s[k] = true) : (s.data.toList.take (k + 1)).all p = true := by
  rw [take_one s k h]; simp [ha, hb]
set_option maxRecDepth 100000 in
theorem allP_end (p : UInt8 → Bool) (s : ByteArray) (k : Nat) (h : ¬ k < s.size) (ha : (s.data.toList.take k).all p = true) : s.data.toList.all p = true := by
  rwa [take_end s k h] at ha
set_option maxRecDepth 100000 in
theorem allP_no (p : UInt8 → Bool) (s : ByteArray) (k : Nat) (h : k < s.size) (ha : p s[k] = false) : s.data.toList.all p = false := by
  rw [List.all_eq_false]
  exact ⟨s[k], by rw [← data_get s k h]; exact List.getElem_mem _, by simp [ha]⟩
end Go.Proofs.YtmojpiofdfmdgabGreatDoor
