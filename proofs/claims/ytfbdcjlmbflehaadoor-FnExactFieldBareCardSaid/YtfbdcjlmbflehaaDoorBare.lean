/- FieldBare of both, and the library's trimRightByte; no conditions. -/
import Derived.Test.YtfbdcjlmbflehaaDoorNums
set_option linter.unusedVariables false
namespace Go.Proofs.YtfbdcjlmbflehaaDoor
open Go.ChangeShapes Go.WideShapes Go.ChangeAt Go.RowKit

/-- how much of the first n bytes is left without trailing bytes c -/
def bareFrom (s : ByteArray) (c : UInt8) : Nat → Nat
  | 0 => 0
  | n + 1 => if s.data.toList.getD n 0 = c then bareFrom s c n else n + 1
set_option maxRecDepth 100000 in
theorem bareFrom_yes {s : ByteArray} {c : UInt8} {n : Nat} (hn : n < s.size) (h : s[n] = c) : bareFrom s c (n + 1) = bareFrom s c n := by
  have : s.data.toList.getD n 0 = s[n] := by
    rw [List.getD_eq_getElem?_getD, List.getElem?_eq_getElem (by simpa using hn)]; rfl
  rw [bareFrom, this, if_pos h]
set_option maxRecDepth 100000 in
theorem bareFrom_no {s : ByteArray} {c : UInt8} {n : Nat} (hn : n < s.size) (h : s[n] ≠ c) : bareFrom s c (n + 1) = n + 1 := by
  have : s.data.toList.getD n 0 = s[n] := by
    rw [List.getD_eq_getElem?_getD, List.getElem?_eq_getElem (by simpa using hn)]; rfl
  rw [bareFrom, this, if_neg h]
def bareS (s : ByteArray) : ByteArray := s.extract 0 (bareFrom s 32 s.size)
set_option maxRecDepth 100000 in
theorem cast_ne {a b : UInt8} (h : a ≠ b) : ¬ ((a.toNat : Int) = (b.toNat : Int)) := fun e => h (UInt8.toNat_inj.1 (by omega))
def sizeE : Value → Nat | .string s => s.size | _ => 0

set_option maxRecDepth 100000 in
set_option maxHeartbeats 800000 in
theorem specFieldBare_any (s : ByteArray) (w : World) (hs : s.size ≤ 1048576) :
    Calls Tryd.prog 35 #[.string s] w fun e w' => e = .returned (.string (bareS s)) ∧ w = w' := by
  go_enter Tryd.func35, Tryd.ntmps35
  go_wp2
  go_loop [3] (fun nv => ∃ n : Nat, n ≤ s.size ∧ nv = .int .i64 n ∧ Hid (bareFrom s 32 n = bareFrom s 32 s.size)) (fun nv => (intOf nv).toNat)
  case atStart => exact ⟨s.size, Nat.le_refl _, rfl, Lib.hid rfl⟩
  case round =>
    obtain ⟨n, hn, rfl, hr⟩ := hrel
    cases n with
    | zero =>
      go_wp2
      go_ret
      refine ⟨congrArg (fun t => Ending.returned (Value.string t)) ?_, rfl⟩
      unfold bareS
      rw [← hr.out]
      show ByteArray.empty = s.extract 0 0
      apply ByteArray.ext
      simp
    | succ k =>
      have hk : k < s.size := by omega
      have q0 : (0 : Int) < ((k + 1 : Nat) : Int) := by omega
      have q1 : ((k + 1 : Nat) : Int) - 1 = (k : Int) := by omega
      have q2 : (k : Int) < (s.size : Int) := by omega
      have q3 : (0 : Int) ≤ (k : Int) := by omega
      have q4 : ((k + 1 : Nat) : Int) = (k : Int) + 1 := by omega
      rw [q4]
      rw [q4] at q0 q1
      clear q4
      by_cases hc : s[k] = 32
      · have hx : ((s[k].toNat : Int) == 32) = true := by rw [hc]; rfl
        have HX : Hid (bareFrom s 32 k = bareFrom s 32 s.size) := Lib.hid ((bareFrom_yes hk hc).symm.trans hr.out)
        clear hc
        go_wp2
        go_round
        case rel => exact ⟨k, by omega, by go_num, HX⟩
        case measure => simp [intOf] <;> omega
      · have hx : ((s[k].toNat : Int) == 32) = false := by
          have := cast_ne hc
          exact beq_eq_false_iff_ne.2 this
        have HX : Hid (k + 1 = bareFrom s 32 s.size) := Lib.hid ((bareFrom_no hk hc).symm.trans hr.out)
        clear hc
        have q6 : (k : Int) + 1 ≤ (s.size : Int) := by omega
        have q7 : ((k : Int) + 1).toNat = k + 1 := by omega
        go_wp2
        go_ret
        exact ⟨by unfold bareS; rw [← HX.out]; rfl, rfl⟩

set_option maxRecDepth 100000 in
theorem ext_zero (s : ByteArray) (a b : Nat) (h : b ≤ a) : (s.extract 0 a).extract 0 b = s.extract 0 b := by
  apply ByteArray.ext
  simp [ByteArray.data_extract, Nat.min_eq_left h]
set_option maxRecDepth 100000 in
theorem ext_all (s : ByteArray) : s.extract 0 s.size = s := by
  apply ByteArray.ext
  simp
set_option maxRecDepth 100000 in
theorem ext_size (s : ByteArray) (n : Nat) (h : n ≤ s.size) : (s.extract 0 n).size = n := by simp [ByteArray.size_extract, Nat.min_eq_left h]
set_option maxRecDepth 100000 in
theorem ext_get (s : ByteArray) (n k : Nat) (h : n ≤ s.size) (hk : k < n) : (s.extract 0 n)[k]'(by rw [ext_size s n h]; exact hk) = s[k]'(by omega) := by
  show (s.extract 0 n).data[k]'_ = s.data[k]'_
  simp [ByteArray.data_extract]

set_option maxRecDepth 100000 in
set_option maxHeartbeats 800000 in
theorem trimByte_any (s : ByteArray) (c : UInt8) (w : World) (hs : s.size ≤ 1048576) :
    Calls Tryd.prog 75 #[.string s, .int .u8 (c.toNat : Int)] w fun e w' => e = .returned (.string (s.extract 0 (bareFrom s c s.size))) ∧ w = w' := by
  go_enter Tryd.func75, Tryd.ntmps75
  go_wp2
  go_loop [0] (fun tv => ∃ n : Nat, n ≤ s.size ∧ tv = .string (s.extract 0 n) ∧ Hid (bareFrom s c n = bareFrom s c s.size)) (fun tv => sizeE tv)
  case atStart => exact ⟨s.size, Nat.le_refl _, by rw [ext_all], Lib.hid rfl⟩
  case round =>
    obtain ⟨n, hn, rfl, hr⟩ := hrel
    cases n with
    | zero =>
      have hsz := ext_size s 0 hn
      generalize ht : s.extract 0 0 = t at hsz ⊢
      have HT := Lib.hid ht
      have HZ := Lib.hid hsz
      have q0 : (t.size : Int) ≤ 0 := by omega
      clear ht hsz
      go_wp2
      go_ret
      exact ⟨by rw [← hr.out, ← HT.out]; rfl, rfl⟩
    | succ k =>
      have hk : k < s.size := by omega
      obtain ⟨t, ht⟩ : ∃ t, t = s.extract 0 (k + 1) := ⟨_, rfl⟩
      have hsz : t.size = k + 1 := by rw [ht]; exact ext_size s _ hn
      have hkt : k < t.size := by omega
      have HG : Hid (t[k]'hkt = s[k]) := Lib.hid (by subst ht; exact ext_get s (k + 1) k hn (by omega))
      have HE : Hid (t.extract 0 k = s.extract 0 k) := Lib.hid (by rw [ht]; exact ext_zero s (k + 1) k (by omega))
      rw [← ht]
      have HT := Lib.hid ht
      have HZ := Lib.hid hsz
      have q0 : (0 : Int) < (t.size : Int) := by omega
      have q1 : (t.size : Int) - 1 = (k : Int) := by omega
      have q2 : (k : Int) < (t.size : Int) := by omega
      have q3 : (0 : Int) ≤ (k : Int) := by omega
      have q5 : (k : Int) ≤ (t.size : Int) := by omega
      have q6 : t.size ≤ 1048576 := by omega
      clear ht hsz
      by_cases hc : s[k] = c
      · have hx : (((t[k]'hkt).toNat : Int) == (c.toNat : Int)) = true := by rw [HG.out, hc]; exact beq_self_eq_true _
        have HX : Hid (bareFrom s c k = bareFrom s c s.size) := Lib.hid ((bareFrom_yes hk hc).symm.trans hr.out)
        clear hc
        go_wp2
        go_round
        case rel => exact ⟨k, by omega, by rw [HE.out], HX⟩
        case measure => simp only [sizeE]; rw [HZ.out, HE.out, ext_size s k (by omega)]; omega
      · have hx : (((t[k]'hkt).toNat : Int) == (c.toNat : Int)) = false := by
          rw [HG.out]
          exact beq_eq_false_iff_ne.2 (cast_ne hc)
        have HX : Hid (k + 1 = bareFrom s c s.size) := Lib.hid ((bareFrom_no hk hc).symm.trans hr.out)
        clear hc
        go_wp2
        go_ret
        refine ⟨congrArg (fun t => Ending.returned (Value.string t)) (show t = s.extract 0 (bareFrom s c s.size) from ?_), rfl⟩
        rw [← HX.out]
        exact HT.out
set_option maxRecDepth 100000 in
theorem implFieldBare_any (s : ByteArray) (w : World) (hs : s.size ≤ 1048576) :
    Calls Tryd.prog 36 #[.string s] w fun e w' => e = .returned (.string (bareS s)) ∧ w = w' := by
  have HT : Hid (Calls Tryd.prog 52 #[.string s, .string ⟨#[32]⟩] w fun e w' => e = .returned (.string (bareS s)) ∧ w = w') := Lib.hid (by
    have HB := Lib.hid (trimByte_any s 32 w hs)
    by_cases h0 : s.toList = []
    · have h0' : s.toList.isEmpty = true := by simp [h0]
      have hz : s = ByteArray.empty := by
        rw [ByteArray.toList_eq] at h0
        apply ByteArray.ext
        exact Array.toList_eq_nil_iff.1 h0
      subst hz
      have hr : bareS ByteArray.empty = ByteArray.empty := by rfl
      rw [hr]
      clear hr HB h0 h0'
      go_enter Tryd.func52, Tryd.ntmps52
      go_wp2
      go_ret
      exact ⟨rfl, rfl⟩
    · have h0' : s.toList.isEmpty = false := by simpa using h0
      clear h0
      go_enter Tryd.func52, Tryd.ntmps52
      go_wp2_with fail
      refine HB.out.mono ?_
      rintro e w1 ⟨rfl, rfl⟩
      go_wp2
      go_ret
      exact ⟨rfl, rfl⟩)
  go_enter Tryd.func36, Tryd.ntmps36
  go_wp2_with fail
  refine HT.out.mono ?_
  rintro e w1 ⟨rfl, rfl⟩
  go_wp2
  go_ret
  exact ⟨rfl, rfl⟩
end Go.Proofs.YtfbdcjlmbflehaaDoor
