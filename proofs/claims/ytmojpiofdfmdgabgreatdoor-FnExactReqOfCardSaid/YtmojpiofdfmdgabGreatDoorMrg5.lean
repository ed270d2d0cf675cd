/- Narrow: both functions return the number that 1 to 18 digits denote; the program's error variable holds an error. -/
import Derived.Test.YtmojpiofdfmdgabGreatDoorMrg4
import Derived.Test.YtmojpiofdfmdgabGreatDoorMrg2
import Derived.Test.YtmojpiofdfmdgabGreatDoorMrg1
import Derived.Laws.AppendOwn
import Derived.Laws.AppendOwnNone
import Derived.OwnWalk
import Derived.RegionTactic
import Derived.Test.YtmojpiofdfmdgabGreatDoorMrg3
import Derived.WalkLawsBesides
import Derived.Deep.Cut
import Derived.Lib.Bytealg
import Derived.Deep.MidRow
set_option linter.unusedVariables false
namespace Go.Proofs.YtmojpiofdfmdgabGreatDoor
open Go.ChangeShapes Go.WideShapes Go.ChangeAt Go.RowKit

def narOk (s : ByteArray) : Bool := digs s && decide (s.size ≤ 18)
def narVal (s : ByteArray) : Int := if narOk s = true then decOf s.data.toList else 0

set_option maxRecDepth 100000 in
theorem dec_lt (l : List UInt8) : ∀ (n : Int), l.all isDig = true → l.foldl decStep n + 1 ≤ (n + 1) * 10 ^ l.length := by
  induction l with
  | nil => intro n _; simp
  | cons c l ih =>
    intro n hd
    simp only [List.all_cons, Bool.and_eq_true] at hd
    have h1 := (isDig_iff c).1 hd.1
    have h2 := ih (decStep n c) hd.2
    have h3 : decStep n c + 1 ≤ (n + 1) * 10 := by unfold decStep; omega
    have h4 : (decStep n c + 1) * 10 ^ l.length ≤ (n + 1) * 10 * 10 ^ l.length := Int.mul_le_mul_of_nonneg_right h3 (Int.pow_nonneg (by decide))
    have h5 : (n + 1) * 10 * 10 ^ l.length = (n + 1) * 10 ^ (c :: l).length := by rw [List.length_cons, Int.pow_succ, Int.mul_assoc, Int.mul_comm 10]
    simp only [List.foldl_cons]
    omega
set_option maxRecDepth 100000 in
theorem dec_18 (s : ByteArray) (h : digs s = true) (h18 : s.size ≤ 18) : decOf s.data.toList ≤ 999999999999999999 := by
  have h1 := dec_lt s.data.toList 0 (digs_all h)
  have h2 : (10 : Int) ^ s.data.toList.length ≤ 10 ^ 18 := by
    have hl : s.data.toList.length ≤ 18 := by simpa using h18
    generalize s.data.toList.length = m at hl
    have : ∀ m ≤ 18, (10 : Int) ^ m ≤ 10 ^ 18 := by decide +kernel
    exact this m hl
  have h3 : (10 : Int) ^ 18 = 1000000000000000000 := by decide +kernel
  unfold decOf
  omega
set_option maxRecDepth 100000 in
theorem nar_scan {s : ByteArray} (h : narOk s = true) : scanOk s = true ∧ decOf s.data.toList ≤ 999999999999999999 ∧ digs s = true ∧ s.size ≤ 18 := by
  simp only [narOk, Bool.and_eq_true, decide_eq_true_eq] at h
  have h1 := dec_18 s h.1 h.2
  refine ⟨?_, h1, h.1, h.2⟩
  simp only [scanOk, h.1, Bool.true_and]
  exact decide_eq_true (by omega)

set_option maxRecDepth 100000 in
theorem specNarrow_any (s : ByteArray) (w : World) (hs : s.size ≤ maxLen) :
    Calls Tryz.prog 25 #[.string s] w fun e w' => e = .returned (.tuple #[.int .i64 (narVal s), .bool (narOk s)]) ∧ w = w' := by
  cases hn : narOk s
  · have hv : narVal s = 0 := by simp [narVal, hn]
    rw [hv]
    cases hd : digs s
    · go_enter Tryz.func25, Tryz.ntmps25
      go_wp2_with (go_at_call 43; refine (specDigits_any _ _ hs).mono ?_; rintro e w1 ⟨rfl, rfl⟩)
      go_ret2
      exact ⟨rfl, rfl⟩
    · have h18 : (18 : Int) < (s.size : Int) := by
        rcases Nat.lt_or_ge 18 s.size with h | h
        · omega
        · simp [narOk, hd, h] at hn
      clear hn hv
      go_enter Tryz.func25, Tryz.ntmps25
      go_wp2_with (go_at_call 43; refine (specDigits_any _ _ hs).mono ?_; rintro e w1 ⟨rfl, rfl⟩)
      go_ret2
      exact ⟨rfl, rfl⟩
  · have hv : narVal s = decOf s.data.toList := by simp [narVal, hn]
    rw [hv]
    obtain ⟨hsc, hle, hd, h18⟩ := nar_scan hn
    have hD := Lib.hid hd
    clear hn hv hsc
    go_enter Tryz.func25, Tryz.ntmps25
    go_wp2_with (go_at_call 43; refine (specDigits_any _ _ hs).mono ?_; rintro e w1 ⟨rfl, rfl⟩)
    clear hd
    go_loop [4, 5] (fun nv iv => ∃ k : Nat, k ≤ s.size ∧ iv = .int .i64 k ∧ nv = .int .i64 (decOf (s.data.toList.take k))) (fun _ iv => s.size - (intOf iv).toNat)
    case atStart => exact ⟨0, Nat.zero_le _, rfl, rfl⟩
    case round =>
      obtain ⟨k, hk, rfl, rfl⟩ := hrel
      by_cases hlt : k < s.size
      · have hg := digs_get hD.out k hlt
        have hg1 : (48 : Int) ≤ (s[k].toNat : Int) := by omega
        have hg2 : (s[k].toNat : Int) ≤ 57 := by omega
        have hsn := dec_snoc s k hlt
        have hmo := dec_mono s (k + 1) hD.out
        have hn0 : 0 ≤ decOf (s.data.toList.take k) := dec_pos _ (all_take _ _ (digs_all hD.out))
        have hn1 : decOf (s.data.toList.take k) ≤ 99999999999999999 := by omega
        have HS := Lib.hid hsn
        clear hsn hmo hg
        go_wp2
        go_round
        case rel => exact ⟨k + 1, by omega, by go_num, val_int (by rw [HS.out]; omega)⟩
        case measure => simp [intOf] <;> omega
      · have hend := Lib.hid (congrArg decOf (take_end s k hlt))
        go_wp2
        go_ret2
        exact ⟨ret_ok hend.out rfl, rfl⟩

set_option maxRecDepth 100000 in
set_option maxHeartbeats 400000 in
theorem implNarrow_any (s : ByteArray) (w : World) (p : Addr) (hg : 1 < w.heap.size) (hc : w.cell? ⟨1, 0, none⟩ = some (.iface 200 (.pointer (some p)))) :
    Calls Tryz.prog 73 #[.string s] w fun e w' => e = .returned (.tuple #[.int .i64 (narVal s), .bool (narOk s)]) ∧ Below w.heap.size w w' := by
  by_cases h18 : (18 : Int) < (s.size : Int)
  · have hn : narOk s = false := by
      have : decide (s.size ≤ 18) = false := decide_eq_false (by omega)
      simp [narOk, this]
    have hv : narVal s = 0 := by simp [narVal, hn]
    rw [hv, hn]
    clear hn hv
    go_enter Tryz.func73, Tryz.ntmps73
    go_wp2
    go_ret2
    exact ⟨rfl, Below.refl _ _⟩
  · cases hd : digs s
    · have hn : narOk s = false := by simp [narOk, hd]
      have hv : narVal s = 0 := by simp [narVal, hn]
      have hsc := scan_bad s hd
      rw [hv, hn]
      clear hn hv
      go_enter Tryz.func73, Tryz.ntmps73
      go_wp2_with fail
      refine (scan_any s _ p hg hc).mono ?_
      rintro e w1 ⟨hse, hb⟩
      unfold scanEnd at hse
      rw [if_neg (by simp [hsc])] at hse
      obtain ⟨t, v, rfl⟩ := hse
      go_wp2
      go_quiet (fail)
      go_wp2
      go_ret2
      exact ⟨rfl, below_drewN hb _⟩
    · have hn : narOk s = true := by
        have : decide (s.size ≤ 18) = true := decide_eq_true (by omega)
        simp [narOk, hd, this]
      have hv : narVal s = decOf s.data.toList := by simp [narVal, hn]
      have hsc := (nar_scan hn).1
      rw [hv, hn]
      clear hn hv
      go_enter Tryz.func73, Tryz.ntmps73
      go_wp2_with fail
      refine (scan_any s _ p hg hc).mono ?_
      rintro e w1 ⟨hse, hb⟩
      unfold scanEnd at hse
      rw [if_pos hsc] at hse
      subst hse
      go_wp2
      go_quiet (fail)
      go_wp2
      go_ret2
      exact ⟨rfl, below_drewN hb _⟩
end Go.Proofs.YtmojpiofdfmdgabGreatDoor
set_option linter.unusedVariables false
namespace Go.Proofs.YtmojpiofdfmdgabGreatDoor
open Go.ChangeShapes Go.WideShapes Go.ChangeAt Go.RowKit

/-- how much of the first n bytes is left without trailing bytes c -/
def bareFrom (s : ByteArray) (c : UInt8) : Nat → Nat
  | 0 => 0
  | n + 1 => if s.data.toList.getD n 0 = c then bareFrom s c n else n + 1
set_option maxRecDepth 100000 in
theorem bareFrom_yes {s : ByteArray} {c : UInt8} {n : Nat} (hn : n < s.size) (h : s[n] = c) : bareFrom s c (n + 1) = bareFrom s c n := by
  have : s.data.toList.getD n 0 = s[n] := by
    rw [List.getD_eq_getElem?_getD, List.getElem?_eq_getElem (by simpa using hn)]; rfl
  rw [bareFrom, this, if_pos h]
set_option maxRecDepth 100000 in
theorem bareFrom_no {s : ByteArray} {c : UInt8} {n : Nat} (hn : n < s.size) (h : s[n] ≠ c) : bareFrom s c (n + 1) = n + 1 := by
  have : s.data.toList.getD n 0 = s[n] := by
    rw [List.getD_eq_getElem?_getD, List.getElem?_eq_getElem (by simpa using hn)]; rfl
  rw [bareFrom, this, if_neg h]
def bareS (s : ByteArray) : ByteArray := s.extract 0 (bareFrom s 32 s.size)
set_option maxRecDepth 100000 in
theorem cast_ne {a b : UInt8} (h : a ≠ b) : ¬ ((a.toNat : Int) = (b.toNat : Int)) := fun e => h (UInt8.toNat_inj.1 (by omega))
def sizeE : Value → Nat | .string s => s.size | _ => 0

set_option maxRecDepth 100000 in
set_option maxHeartbeats 800000 in
theorem specFieldBare_any (s : ByteArray) (w : World) (hs : s.size ≤ 1048576) :
    Calls Tryz.prog 23 #[.string s] w fun e w' => e = .returned (.string (bareS s)) ∧ w = w' := by
  go_enter Tryz.func23, Tryz.ntmps23
  go_wp2
  go_loop [3] (fun nv => ∃ n : Nat, n ≤ s.size ∧ nv = .int .i64 n ∧ Hid (bareFrom s 32 n = bareFrom s 32 s.size)) (fun nv => (intOf nv).toNat)
  case atStart => exact ⟨s.size, Nat.le_refl _, rfl, Lib.hid rfl⟩
  case round =>
    obtain ⟨n, hn, rfl, hr⟩ := hrel
    cases n with
    | zero =>
      go_wp2
      go_ret
      refine ⟨congrArg (fun t => Ending.returned (Value.string t)) ?_, rfl⟩
      unfold bareS
      rw [← hr.out]
      show ByteArray.empty = s.extract 0 0
      apply ByteArray.ext
      simp
    | succ k =>
      have hk : k < s.size := by omega
      have q0 : (0 : Int) < ((k + 1 : Nat) : Int) := by omega
      have q1 : ((k + 1 : Nat) : Int) - 1 = (k : Int) := by omega
      have q2 : (k : Int) < (s.size : Int) := by omega
      have q3 : (0 : Int) ≤ (k : Int) := by omega
      have q4 : ((k + 1 : Nat) : Int) = (k : Int) + 1 := by omega
      rw [q4]
      rw [q4] at q0 q1
      clear q4
      by_cases hc : s[k] = 32
      · have hx : ((s[k].toNat : Int) == 32) = true := by rw [hc]; rfl
        have HX : Hid (bareFrom s 32 k = bareFrom s 32 s.size) := Lib.hid ((bareFrom_yes hk hc).symm.trans hr.out)
        clear hc
        go_wp2
        go_round
        case rel => exact ⟨k, by omega, by go_num, HX⟩
        case measure => simp [intOf] <;> omega
      · have hx : ((s[k].toNat : Int) == 32) = false := by
          have := cast_ne hc
          exact beq_eq_false_iff_ne.2 this
        have HX : Hid (k + 1 = bareFrom s 32 s.size) := Lib.hid ((bareFrom_no hk hc).symm.trans hr.out)
        clear hc
        have q6 : (k : Int) + 1 ≤ (s.size : Int) := by omega
        have q7 : ((k : Int) + 1).toNat = k + 1 := by omega
        go_wp2
        go_ret
        exact ⟨by unfold bareS; rw [← HX.out]; rfl, rfl⟩

set_option maxRecDepth 100000 in
theorem ext_zero (s : ByteArray) (a b : Nat) (h : b ≤ a) : (s.extract 0 a).extract 0 b = s.extract 0 b := by
  apply ByteArray.ext
  simp [ByteArray.data_extract, Nat.min_eq_left h]
set_option maxRecDepth 100000 in
theorem ext_all (s : ByteArray) : s.extract 0 s.size = s := by
  apply ByteArray.ext
  simp
set_option maxRecDepth 100000 in
theorem ext_size (s : ByteArray) (n : Nat) (h : n ≤ s.size) : (s.extract 0 n).size = n := by simp [ByteArray.size_extract, Nat.min_eq_left h]
set_option maxRecDepth 100000 in
theorem ext_get (s : ByteArray) (n k : Nat) (h : n ≤ s.size) (hk : k < n) : (s.extract 0 n)[k]'(by rw [ext_size s n h]; exact hk) = s[k]'(by omega) := by
  show (s.extract 0 n).data[k]'_ = s.data[k]'_
  simp [ByteArray.data_extract]

set_option maxRecDepth 100000 in
set_option maxHeartbeats 800000 in
theorem trimByte_any (s : ByteArray) (c : UInt8) (w : World) (hs : s.size ≤ 1048576) :
    Calls Tryz.prog 82 #[.string s, .int .u8 (c.toNat : Int)] w fun e w' => e = .returned (.string (s.extract 0 (bareFrom s c s.size))) ∧ w = w' := by
  go_enter Tryz.func82, Tryz.ntmps82
  go_wp2
  go_loop [0] (fun tv => ∃ n : Nat, n ≤ s.size ∧ tv = .string (s.extract 0 n) ∧ Hid (bareFrom s c n = bareFrom s c s.size)) (fun tv => sizeE tv)
  case atStart => exact ⟨s.size, Nat.le_refl _, by rw [ext_all], Lib.hid rfl⟩
  case round =>
    obtain ⟨n, hn, rfl, hr⟩ := hrel
    cases n with
    | zero =>
      have hsz := ext_size s 0 hn
      generalize ht : s.extract 0 0 = t at hsz ⊢
      have HT := Lib.hid ht
      have HZ := Lib.hid hsz
      have q0 : (t.size : Int) ≤ 0 := by omega
      clear ht hsz
      go_wp2
      go_ret
      exact ⟨by rw [← hr.out, ← HT.out]; rfl, rfl⟩
    | succ k =>
      have hk : k < s.size := by omega
      obtain ⟨t, ht⟩ : ∃ t, t = s.extract 0 (k + 1) := ⟨_, rfl⟩
      have hsz : t.size = k + 1 := by rw [ht]; exact ext_size s _ hn
      have hkt : k < t.size := by omega
      have HG : Hid (t[k]'hkt = s[k]) := Lib.hid (by subst ht; exact ext_get s (k + 1) k hn (by omega))
      have HE : Hid (t.extract 0 k = s.extract 0 k) := Lib.hid (by rw [ht]; exact ext_zero s (k + 1) k (by omega))
      rw [← ht]
      have HT := Lib.hid ht
      have HZ := Lib.hid hsz
      have q0 : (0 : Int) < (t.size : Int) := by omega
      have q1 : (t.size : Int) - 1 = (k : Int) := by omega
      have q2 : (k : Int) < (t.size : Int) := by omega
      have q3 : (0 : Int) ≤ (k : Int) := by omega
      have q5 : (k : Int) ≤ (t.size : Int) := by omega
      have q6 : t.size ≤ 1048576 := by omega
      clear ht hsz
      by_cases hc : s[k] = c
      · have hx : (((t[k]'hkt).toNat : Int) == (c.toNat : Int)) = true := by rw [HG.out, hc]; exact beq_self_eq_true _
        have HX : Hid (bareFrom s c k = bareFrom s c s.size) := Lib.hid ((bareFrom_yes hk hc).symm.trans hr.out)
        clear hc
        go_wp2
        go_round
        case rel => exact ⟨k, by omega, by rw [HE.out], HX⟩
        case measure => simp only [sizeE]; rw [HZ.out, HE.out, ext_size s k (by omega)]; omega
      · have hx : (((t[k]'hkt).toNat : Int) == (c.toNat : Int)) = false := by
          rw [HG.out]
          exact beq_eq_false_iff_ne.2 (cast_ne hc)
        have HX : Hid (k + 1 = bareFrom s c s.size) := Lib.hid ((bareFrom_no hk hc).symm.trans hr.out)
        clear hc
        go_wp2
        go_ret
        refine ⟨congrArg (fun t => Ending.returned (Value.string t)) (show t = s.extract 0 (bareFrom s c s.size) from ?_), rfl⟩
        rw [← HX.out]
        exact HT.out
set_option maxRecDepth 100000 in
theorem implFieldBare_any (s : ByteArray) (w : World) (hs : s.size ≤ 1048576) :
    Calls Tryz.prog 55 #[.string s] w fun e w' => e = .returned (.string (bareS s)) ∧ w = w' := by
  have HT : Hid (Calls Tryz.prog 72 #[.string s, .string ⟨#[32]⟩] w fun e w' => e = .returned (.string (bareS s)) ∧ w = w') := Lib.hid (by
    have HB := Lib.hid (trimByte_any s 32 w hs)
    by_cases h0 : s.toList = []
    · have h0' : s.toList.isEmpty = true := by simp [h0]
      have hz : s = ByteArray.empty := by
        rw [ByteArray.toList_eq] at h0
        apply ByteArray.ext
        exact Array.toList_eq_nil_iff.1 h0
      subst hz
      have hr : bareS ByteArray.empty = ByteArray.empty := by rfl
      rw [hr]
      clear hr HB h0 h0'
      go_enter Tryz.func72, Tryz.ntmps72
      go_wp2
      go_ret
      exact ⟨rfl, rfl⟩
    · have h0' : s.toList.isEmpty = false := by simpa using h0
      clear h0
      go_enter Tryz.func72, Tryz.ntmps72
      go_wp2_with fail
      refine HB.out.mono ?_
      rintro e w1 ⟨rfl, rfl⟩
      go_wp2
      go_ret
      exact ⟨rfl, rfl⟩)
  go_enter Tryz.func55, Tryz.ntmps55
  go_wp2_with fail
  refine HT.out.mono ?_
  rintro e w1 ⟨rfl, rfl⟩
  go_wp2
  go_ret
  exact ⟨rfl, rfl⟩
end Go.Proofs.YtmojpiofdfmdgabGreatDoor
set_option linter.unusedVariables false
namespace Go.Proofs.YtmojpiofdfmdgabGreatDoor
open Go.ChangeShapes Go.WideShapes Go.ChangeAt Go.RowKit

def opRowV (op : Int) : Value := .agg #[.string (opTxt 0 op), .string (opTxt 1 op), .string (opTxt 2 op)]
set_option maxRecDepth 100000 in
theorem opAt_any (op : Int) (w : World) (hO : opsIn w) : Calls Tryz.prog 74 #[.int .i64 op] w fun e w' => e = .returned (opRowV op) ∧ Below w.heap.size w w' := by
  by_cases h0 : op < 0
  · have HR : Hid (opRowV op = .agg #[.string ⟨#[]⟩, .string ⟨#[]⟩, .string ⟨#[]⟩]) := Lib.hid (by unfold opRowV; rw [opTxt_neg 0 h0, opTxt_neg 1 h0, opTxt_neg 2 h0])
    rw [HR.out]
    clear hO
    go_enter Tryz.func74, Tryz.ntmps74
    go_wp2
    exact bodyPost_ret (v := .agg #[.string ⟨#[]⟩, .string ⟨#[]⟩, .string ⟨#[]⟩]) (by simp [results, Tryz.results74, go_sem]) rfl ⟨rfl, by first | exact (((Below.refl _ _).alloc (Nat.le_refl _) _).set _ _ (by simp)) | exact ((Below.refl _ _).alloc (Nat.le_refl _) _)⟩
  · by_cases h9 : 9 ≤ op
    · have HR : Hid (opRowV op = .agg #[.string ⟨#[]⟩, .string ⟨#[]⟩, .string ⟨#[]⟩]) := Lib.hid (by unfold opRowV; rw [opTxt_out 0 (by omega), opTxt_out 1 (by omega), opTxt_out 2 (by omega)])
      rw [HR.out]
      clear hO
      go_enter Tryz.func74, Tryz.ntmps74
      go_wp2
      exact bodyPost_ret (v := .agg #[.string ⟨#[]⟩, .string ⟨#[]⟩, .string ⟨#[]⟩]) (by simp [results, Tryz.results74, go_sem]) rfl ⟨rfl, ((Below.refl _ _).alloc (Nat.le_refl _) _)⟩
    · obtain ⟨i, rfl⟩ := Int.eq_ofNat_of_zero_le (show 0 ≤ op by omega)
      have HR : Hid (opRowV (i : Int) = .agg #[.string ⟨(opB 0 i).toArray⟩, .string ⟨(opB 1 i).toArray⟩, .string ⟨(opB 2 i).toArray⟩]) := Lib.hid (by unfold opRowV; rw [opTxt_nat, opTxt_nat, opTxt_nat])
      rw [HR.out]
      have hlt := hO.lt
      have c0 := hO i 0 (by omega) (by omega)
      have c1 := hO i 1 (by omega) (by omega)
      have c2 := hO i 2 (by omega) (by omega)
      rw [Nat.add_zero] at c0
      have g0 : 0 ≤ (i : Int) := by omega
      have g1 : (i : Int) < 9 := by omega
      clear hO h9 h0
      go_enter Tryz.func74, Tryz.ntmps74
      go_wp2
      exact bodyPost_ret (v := .agg #[.string ⟨(opB 0 i).toArray⟩, .string ⟨(opB 1 i).toArray⟩, .string ⟨(opB 2 i).toArray⟩]) (by simp [results, Tryz.results74, go_sem]) rfl ⟨rfl, ((Below.refl _ _).alloc (Nat.le_refl _) _)⟩
set_option maxRecDepth 100000 in
theorem opRow_f0 (a b c : ByteArray) (w : World) : (Instr.field 106 (.agg #[.string a, .string b, .string c]) 0).run Tryz.prog w = .ok (.string a) w := by rfl
set_option maxRecDepth 100000 in
theorem opRow_f2 (a b c : ByteArray) (w : World) : (Instr.field 106 (.agg #[.string a, .string b, .string c]) 2).run Tryz.prog w = .ok (.string c) w := by rfl
set_option maxRecDepth 100000 in
theorem implOpMti_any (op : Int) (w : World) (hO : opsIn w) : Calls Tryz.prog 57 #[.int .i64 op] w fun e w' => e = .returned (.string (opTxt 0 op)) ∧ Below w.heap.size w w' := by
  go_enter Tryz.func57, Tryz.ntmps57
  go_wp2_with fail
  refine (opAt_any op _ hO).mono ?_
  rintro e w1 ⟨rfl, hb⟩
  unfold opRowV
  have hf := opRow_f0 (opTxt 0 op) (opTxt 1 op) (opTxt 2 op)
  go_wp2
  go_ret
  exact ⟨rfl, hb⟩
set_option maxRecDepth 100000 in
theorem implOpName_any (op : Int) (w : World) (hO : opsIn w) : Calls Tryz.prog 182 #[.int .i64 op] w fun e w' => e = .returned (.string (opTxt 2 op)) ∧ Below w.heap.size w w' := by
  go_enter Tryz.func182, Tryz.ntmps182
  go_wp2_with fail
  refine (opAt_any op _ hO).mono ?_
  rintro e w1 ⟨rfl, hb⟩
  unfold opRowV
  have hf := opRow_f2 (opTxt 0 op) (opTxt 1 op) (opTxt 2 op)
  go_wp2
  go_ret
  exact ⟨rfl, hb⟩
end Go.Proofs.YtmojpiofdfmdgabGreatDoor
set_option linter.unusedVariables false
namespace Go.Proofs.YtmojpiofdfmdgabGreatDoor
open Go.ChangeShapes Go.WideShapes Go.ChangeAt Go.RowKit

/-- the blocks of the elements lie one after the other -/
structure Steps (m : Nat → Nat) (n : Nat) : Prop where
  up : ∀ j, j < n → m j ≤ m (j + 1)
set_option maxRecDepth 100000 in
theorem Steps.le {m : Nat → Nat} {n : Nat} (h : Steps m n) {j : Nat} : ∀ {k : Nat}, j ≤ k → k ≤ n → m j ≤ m k
  | 0, hj, _ => by obtain rfl : j = 0 := by omega
                   exact Nat.le_refl _
  | k + 1, hj, hk => by
    rcases Nat.lt_or_ge j (k + 1) with h1 | h1
    · exact Nat.le_trans (h.le (j := j) (k := k) (by omega) (by omega)) (h.up k (by omega))
    · obtain rfl : j = k + 1 := by omega
      exact Nat.le_refl _
set_option maxRecDepth 100000 in
theorem filled.congr {w : World} {b off k n i : Nat} {E E' : Nat → List Value} (h : filled w b off k n i E) (he : ∀ j, j < i → E' j = E j) : filled w b off k n i E' :=
  ⟨h.room, fun j hj => by rw [he j hj]; exact h.at_ j hj⟩
set_option maxRecDepth 100000 in
theorem rows_mine2 {α : Type} {R : Rep α} {lo hi b off c n : Nat} {w : World} {l : List α} {E : Nat → List Value} {p q : Nat → Nat} (hn : n = l.length) (hc : n ≤ c) (h1 : lo ≤ b) (h2 : b < hi) (hord : ∀ i j, i < j → j < n → q i ≤ p j) (hb : ∀ j, j < n → b < p j ∨ q j ≤ b) (hbs : ∀ j, j < n → lo ≤ p j ∧ q j ≤ hi)
    (hat : filled w b off R.k n n E) (h : ∀ j x, l[j]? = some x → R.mine (p j) (q j) w (E j) x) : R.slice.mine lo hi w [.slice (some ⟨b, off, none⟩) n c] l := by
  subst hn
  have hF : ∀ j : Nat, ∃ F : List Nat, ∀ x, l[j]? = some x → R.own w (E j) x F ∧ F.Nodup ∧ ∀ b ∈ F, p j ≤ b ∧ b < q j := fun j => by
    cases hx : l[j]? with
    | none => exact ⟨[], fun x h => by cases h⟩
    | some y =>
      obtain ⟨F, hF⟩ := h j y hx
      exact ⟨F, fun x h => by cases h; exact hF⟩
  let F : Nat → List Nat := fun j => Classical.choose (hF j)
  have hFs : ∀ j x, l[j]? = some x → R.own w (E j) x (F j) ∧ (F j).Nodup ∧ ∀ b ∈ F j, p j ≤ b ∧ b < q j := fun j => Classical.choose_spec (hF j)
  have hgt : ∀ (j : Nat) (hj : j < l.length), R.own w (E j) (l[j]'hj) (F j) ∧ (F j).Nodup ∧ ∀ b ∈ F j, p j ≤ b ∧ b < q j := fun j hj => hFs j _ (List.getElem?_eq_getElem hj)
  have hin : ∀ x ∈ List.flatten ((List.range l.length).map F), ∃ j, j < l.length ∧ p j ≤ x ∧ x < q j := fun x hx => by
    obtain ⟨G, hG, hxG⟩ := List.mem_flatten.1 hx
    obtain ⟨j, hj, rfl⟩ := List.mem_map.1 hG
    have hj' := List.mem_range.1 hj
    exact ⟨j, hj', (hgt j hj').2.2 x hxG⟩
  refine ⟨b :: List.flatten ((List.range l.length).map F), ⟨some ⟨b, off, none⟩, c, rfl, hc, .inr ⟨b, off, _, rfl, rfl, by simp, fun j x G hx hG => ?_⟩⟩, ?_, ?_⟩
  · have hj := (List.getElem?_eq_some_iff.1 hx).1
    have hG' : G = F j := by
      rw [List.getElem?_map, List.getElem?_range hj] at hG
      exact (Option.some.inj hG).symm
    subst hG'
    exact ⟨E j, (hFs j x hx).1, hat.at_ j hj, fun t ht => (hat.cells hj t ht).2⟩
  · rw [List.nodup_cons]
    refine ⟨fun hx => by obtain ⟨j, hj, h3⟩ := hin b hx; have := hb j hj; omega, ?_⟩
    rw [List.Nodup, List.pairwise_flatten]
    refine ⟨fun G hG => ?_, ?_⟩
    · obtain ⟨j, hj, rfl⟩ := List.mem_map.1 hG
      exact (hgt j (List.mem_range.1 hj)).2.1
    · rw [List.pairwise_map]
      refine List.Pairwise.imp_of_mem ?_ List.pairwise_lt_range
      intro i j hi' hj' hij x hx y hy
      have h3 := (hgt i (List.mem_range.1 hi')).2.2 x hx
      have h4 := (hgt j (List.mem_range.1 hj')).2.2 y hy
      have h5 := hord i j hij (List.mem_range.1 hj')
      omega
  · intro b' hb'
    rcases List.mem_cons.1 hb' with rfl | hb'
    · exact ⟨h1, h2⟩
    · obtain ⟨j, hj, h3⟩ := hin b' hb'
      have := hbs j hj; omega
set_option maxRecDepth 100000 in
theorem rows_mine {α : Type} {R : Rep α} {lo hi b off c n : Nat} {w : World} {l : List α} {E : Nat → List Value} {m : Nat → Nat} (hn : n = l.length) (hc : n ≤ c) (h1 : lo ≤ b) (h2 : b < m 0) (hm : Steps m n) (hhi : m n ≤ hi)
    (hat : filled w b off R.k n n E) (h : ∀ j x, l[j]? = some x → R.mine (m j) (m (j + 1)) w (E j) x) : R.slice.mine lo hi w [.slice (some ⟨b, off, none⟩) n c] l := by
  refine rows_mine2 (p := m) (q := fun j => m (j + 1)) hn hc h1 ?_ (fun i j hij hj => hm.le (show i + 1 ≤ j by omega) (by omega)) (fun j hj => .inl ?_) (fun j hj => ⟨?_, ?_⟩) hat h
  · have := hm.le (Nat.zero_le n) (Nat.le_refl _); omega
  · have := hm.le (Nat.zero_le j) (by omega); omega
  · have := hm.le (Nat.zero_le j) (by omega); omega
  · have := hm.le (show j + 1 ≤ n by omega) (Nat.le_refl _); omega
end Go.Proofs.YtmojpiofdfmdgabGreatDoor
set_option linter.unusedVariables false
namespace Go.Proofs.YtmojpiofdfmdgabGreatDoor
open Go.ChangeShapes Go.WideShapes Go.ChangeAt Go.RowKit

end Go.Proofs.YtmojpiofdfmdgabGreatDoor
set_option linter.unusedVariables false
namespace Go.Proofs.YtmojpiofdfmdgabGreatDoor
open Go.ChangeShapes Go.WideShapes Go.ChangeAt Go.RowKit

set_option maxRecDepth 100000 in
theorem nums.turned {K : IntKind} {lo hi lo' hi' : Nat} {w w' : World} {v : Value} {l : List Int} (h : nums K lo hi w v l) (ht : Turned lo' hi' w w') (h1 : hi ≤ lo' ∨ hi' ≤ lo) (h2 : hi ≤ w.heap.size) : nums K lo hi w' v l := by
  obtain ⟨A, c, rfl, hc, hj⟩ := h
  refine ⟨A, c, rfl, hc, fun j hl => ?_⟩
  obtain ⟨b, off, e, g1, g2, g3, g4⟩ := hj j hl
  have hk := ht.block b (by omega) (by omega)
  exact ⟨b, off, e, g1, g2, (cell_keep hk).trans g3, (frozen_keep hk).trans g4⟩
set_option maxRecDepth 100000 in
theorem rd.turned {K : IntKind} {hi lo' hi' : Nat} {w w' : World} {v : Value} {l : List Int} (h : rd K hi w v l) (ht : Turned lo' hi' w w') (h1 : hi ≤ lo') (h2 : hi ≤ w.heap.size) : rd K hi w' v l := by
  obtain ⟨A, c, rfl, hc, hj⟩ := h
  refine ⟨A, c, rfl, hc, fun j hl => ?_⟩
  obtain ⟨b, off, e, g2, g3⟩ := hj j hl
  have hk := ht.block b (by omega) (by omega)
  exact ⟨b, off, e, g2, (cell_keep hk).trans g3⟩
end Go.Proofs.YtmojpiofdfmdgabGreatDoor
set_option linter.unusedVariables false
namespace Go.Proofs.YtmojpiofdfmdgabGreatDoor
open Go.ChangeShapes Go.WideShapes Go.ChangeAt Go.RowKit

/-- trace, type, reply -/
abbrev SlotD := ByteArray × ByteArray × List Int
def BytesR : Rep (List Int) := (Rep.int .u8).slice
def SlotR : Rep SlotD := Rep.pair Rep.str (Rep.pair Rep.str BytesR)
def SlotsR : Rep (List SlotD) := SlotR.slice
set_option maxRecDepth 100000 in
/-- numbers of one's own as such a row -/
theorem nums_rep {K : IntKind} {lo hi : Nat} {w : World} {v : Value} {l : List Int} (h : nums K lo hi w v l) : (Rep.int K).slice.mine lo hi w [v] l := by
  obtain ⟨A, c, rfl, hc, hj⟩ := h
  cases l with
  | nil => exact ⟨[], ⟨A, c, rfl, hc, .inl ⟨rfl, rfl⟩⟩, List.nodup_nil, by simp⟩
  | cons y l =>
    obtain ⟨b, off, rfl, h1, h2, -, -⟩ := hj 0 (by simp)
    have hfl : List.flatten ((y :: l).map fun _ => ([] : List Nat)) = [] := by simp
    refine ⟨b :: List.flatten ((y :: l).map fun _ => []), ⟨_, c, rfl, hc, .inr ⟨b, off, _, rfl, rfl, by simp, fun j x G hx hG => ?_⟩⟩, by rw [hfl]; simp, ?_⟩
    · have hjl := (List.getElem?_eq_some_iff.1 hx).1
      have hG' : G = [] := by rw [List.getElem?_map, hx] at hG; simpa using hG.symm
      subst hG'
      obtain ⟨b', off', e, -, -, h3, h4⟩ := hj j hjl
      simp only [Option.some.injEq, Addr.mk.injEq, and_true] at e
      obtain ⟨rfl, rfl⟩ := e
      rw [List.getD_eq_getElem?_getD, hx] at h3
      have hk : off + j * (Rep.int K).k = off + j := by show off + j * 1 = _; rw [Nat.mul_one]
      refine ⟨[.int K x], ⟨rfl, rfl⟩, atL_one.2 (by rw [hk]; exact h3), fun t ht => ?_⟩
      have ht0 : t = 0 := by have : t < 1 := ht; omega
      subst ht0
      rw [hk]; exact h4
    · rw [hfl]; intro b' hb'; rw [List.mem_singleton.1 hb']; exact ⟨h1, h2⟩
set_option maxRecDepth 100000 in
theorem slot_mine_of {lo hi : Nat} {w : World} {u : Value} {x : SlotD} (h : nums .u8 lo hi w u x.2.2) : SlotR.mine lo hi w [.string x.1, .string x.2.1, u] x := by
  obtain ⟨F, h1, h2, h3⟩ := nums_rep h
  exact ⟨F, ⟨[_], [_, u], [], F, rfl, rfl, ⟨rfl, rfl⟩, [_], [u], [], F, rfl, rfl, ⟨rfl, rfl⟩, h1⟩, h2, h3⟩
end Go.Proofs.YtmojpiofdfmdgabGreatDoor
set_option linter.unusedVariables false
namespace Go.Proofs.YtmojpiofdfmdgabGreatDoor
open Go.ChangeShapes Go.WideShapes Go.ChangeAt Go.RowKit

/-- the first i elements stand, each with memory of its own behind the row's -/
def grows (w : World) (g n i : Nat) (l : List SlotD) (E : Nat → List Value) (m : Nat → Nat) : Prop :=
  filled w g 0 3 n i E ∧ (∀ j, (E j).length = 3) ∧ Steps m i ∧ g < m 0 ∧ m i ≤ w.heap.size ∧ ∀ j x, j < i → l[j]? = some x → SlotR.mine (m j) (m (j + 1)) w (E j) x
set_option maxRecDepth 100000 in
theorem grows.start {w : World} {g n : Nat} {l : List SlotD} (h : roomL w g 0 (n * 3)) (hg : g < w.heap.size) : grows w g n 0 l (fun _ => [.string ⟨#[]⟩, .string ⟨#[]⟩, .slice none 0 0]) (fun _ => w.heap.size) :=
  ⟨filled.start h, fun _ => rfl, ⟨fun j hj => absurd hj (by omega)⟩, hg, Nat.le_refl _, fun j x hj => absurd hj (by omega)⟩
set_option maxRecDepth 100000 in
theorem Steps.put {m : Nat → Nat} {i M : Nat} (h : Steps m i) (hM : m i ≤ M) : Steps (fun j => if j = i + 1 then M else m j) (i + 1) := ⟨fun j hj => by
  show (if j = i + 1 then M else m j) ≤ (if j + 1 = i + 1 then M else m (j + 1))
  by_cases e : j = i
  · subst e
    rw [if_neg (by omega), if_pos rfl]; exact hM
  · rw [if_neg (by omega), if_neg (by omega)]; exact h.up j (by omega)⟩
set_option maxRecDepth 100000 in
theorem grows.next {w w2 : World} {g n i : Nat} {l : List SlotD} {E : Nat → List Value} {m : Nat → Nat} {x : SlotD} {u : Value} (h : grows w g n i l E m) (hb : Below w.heap.size w w2) (hx : l[i]? = some x) (hin : i < n) (hg : g < w.heap.size)
    (hu : nums .u8 w.heap.size w2.heap.size w2 u x.2.2) :
    grows (setsAt w2 g (i * 3) [.string x.1, .string x.2.1, u]) g n (i + 1) l (fun j => if j = i then [.string x.1, .string x.2.1, u] else E j) (fun j => if j = i + 1 then w2.heap.size else m j) := by
  obtain ⟨h1, h2, h3, h4, h5, h6⟩ := h
  have hf : filled w2 g 0 3 n i (fun j => if j = i then [.string x.1, .string x.2.1, u] else E j) := (h1.keep (hb.block g hg)).congr fun j hj => if_neg (by omega)
  have hl : ∀ j, ((fun j => if j = i then [Value.string x.1, .string x.2.1, u] else E j) j).length = 3 := fun j => by
    simp only
    split
    · rfl
    · exact h2 j
  have hn := hf.next hin (fun j _ => hl j)
  simp only [if_true, Nat.zero_add] at hn
  have ht := setsAt_turned [.string x.1, .string x.2.1, u] w2 g (i * 3) (Turned.refl g (g + 1) w2) (Nat.le_refl _) (by omega)
  have hsz := hb.size
  have hz := ht.size
  refine ⟨hn, hl, h3.put (by omega), by show g < (if 0 = i + 1 then w2.heap.size else m 0); rw [if_neg (by omega)]; exact h4, by show (if i + 1 = i + 1 then w2.heap.size else m (i + 1)) ≤ _; rw [if_pos rfl]; exact hz, fun j y hj hy => ?_⟩
  by_cases e : j = i
  · subst e
    have hxy : y = x := Option.some.inj (hy.symm.trans hx)
    subst hxy
    show SlotR.mine (if j = j + 1 then w2.heap.size else m j) (if j + 1 = j + 1 then w2.heap.size else m (j + 1)) _ (if j = j then _ else E j) y
    rw [if_neg (by omega), if_pos rfl, if_pos rfl]
    exact ((slot_mine_of hu).turned ht (.inr (by have := h3.le (Nat.zero_le j) (Nat.le_refl _); omega)) (Nat.le_refl _)).mono (by omega) (Nat.le_refl _)
  · have hji : j < i := by omega
    show SlotR.mine (if j = i + 1 then w2.heap.size else m j) (if j + 1 = i + 1 then w2.heap.size else m (j + 1)) _ (if j = i then _ else E j) y
    rw [if_neg e, if_neg (by omega), if_neg (by omega)]
    have hm0 := h3.le (Nat.zero_le j) (by omega)
    have hm1 := h3.le (show j + 1 ≤ i by omega) (Nat.le_refl _)
    exact ((h6 j y hji hy).below hb (by omega)).turned ht (.inr (by omega)) (by omega)
set_option maxRecDepth 100000 in
theorem grows.done {w : World} {g n lo : Nat} {l : List SlotD} {E : Nat → List Value} {m : Nat → Nat} (h : grows w g n n l E m) (hn : n = l.length) (hg : lo ≤ g) : SlotsR.mine lo w.heap.size w [.slice (some ⟨g, 0, none⟩) n n] l := by
  obtain ⟨h1, h2, h3, h4, h5, h6⟩ := h
  exact rows_mine (R := SlotR) hn (Nat.le_refl _) hg h4 h3 h5 h1 fun j x hx => h6 j x (by rw [hn]; exact (List.getElem?_eq_some_iff.1 hx).1) hx
end Go.Proofs.YtmojpiofdfmdgabGreatDoor
set_option linter.unusedVariables false
namespace Go.Proofs.YtmojpiofdfmdgabGreatDoor
open Go.ChangeShapes Go.WideShapes Go.ChangeAt Go.RowKit

end Go.Proofs.YtmojpiofdfmdgabGreatDoor
set_option linter.unusedVariables false
namespace Go.Proofs.YtmojpiofdfmdgabGreatDoor
open Go.ChangeShapes Go.WideShapes Go.ChangeAt Go.RowKit

section
variable {P : Program} (w : World)
end
end Go.Proofs.YtmojpiofdfmdgabGreatDoor
set_option linter.unusedVariables false
namespace Go.Proofs.YtmojpiofdfmdgabGreatDoor
open Go.ChangeShapes Go.WideShapes Go.ChangeAt Go.RowKit

end Go.Proofs.YtmojpiofdfmdgabGreatDoor
set_option linter.unusedVariables false
namespace Go.Proofs.YtmojpiofdfmdgabGreatDoor
open Go.ChangeShapes Go.WideShapes Go.ChangeAt Go.RowKit

end Go.Proofs.YtmojpiofdfmdgabGreatDoor
set_option linter.unusedVariables false
namespace Go.Proofs.YtmojpiofdfmdgabGreatDoor
open Go.ChangeShapes Go.WideShapes Go.ChangeAt Go.RowKit

def traceOk (s : ByteArray) : Bool := digs s && decide (s.size = 6)
set_option maxRecDepth 100000 in
theorem isTrace_any (s : ByteArray) (w : World) (hs : s.size ≤ maxLen) :
    Calls Tryz.prog 184 #[.string s] w fun e w' => e = .returned (.bool (traceOk s)) ∧ Below w.heap.size w w' := by
  by_cases h4 : s.size = 6
  · have HM : Hid (traceOk s = digs s) := Lib.hid (by simp [traceOk, h4])
    rw [HM.out]
    have h4' : ((s.size : Int) == 6) = true := by simp [h4]
    have HD := Lib.hid (fun w' => implDigits_any s w' hs)
    clear h4
    go_enter Tryz.func184, Tryz.ntmps184
    go_wp2_with fail
    refine (HD.out _).mono ?_
    rintro e w1 ⟨rfl, hb⟩
    go_wp2
    go_ret
    exact ⟨rfl, hb⟩
  · have HM : Hid (traceOk s = false) := Lib.hid (by simp [traceOk, h4])
    rw [HM.out]
    have h4' : ((s.size : Int) == 6) = false := by simp; omega
    clear h4
    go_enter Tryz.func184, Tryz.ntmps184
    go_wp2
    go_ret
    exact ⟨rfl, Below.refl _ _⟩
end Go.Proofs.YtmojpiofdfmdgabGreatDoor
set_option linter.unusedVariables false
namespace Go.Proofs.YtmojpiofdfmdgabGreatDoor
open Go.ChangeShapes Go.WideShapes Go.ChangeAt Go.RowKit

set_option maxRecDepth 100000 in
theorem implAcctIdOk_any (s : ByteArray) (w : World) (hs : s.size ≤ maxLen) :
    Calls Tryz.prog 183 #[.string s] w fun e w' => e = .returned (.bool (acctIdB s)) ∧ Below w.heap.size w w' := by
  by_cases h : s.size ≤ 19
  · have HI : Hid (acctIdB s = luOk s) := Lib.hid (by unfold acctIdB; rw [decide_eq_true h]; rfl)
    have HL := Lib.hid (fun w => implLuhnOk_any s w (by omega))
    have h' : (s.size : Int) ≤ 19 := by omega
    rw [HI.out]
    generalize luOk s = b at HL
    go_enter Tryz.func183, Tryz.ntmps183
    go_wp2_with fail
    refine (HL.out _).mono ?_
    rintro e w1 ⟨rfl, hb⟩
    go_wp2
    go_ret
    exact ⟨rfl, hb⟩
  · have HI : Hid (acctIdB s = false) := Lib.hid (by unfold acctIdB; rw [decide_eq_false h]; rfl)
    have h' : ¬ (s.size : Int) ≤ 19 := by omega
    rw [HI.out]
    go_enter Tryz.func183, Tryz.ntmps183
    go_wp2
    go_ret
    exact ⟨rfl, Below.refl _ _⟩
end Go.Proofs.YtmojpiofdfmdgabGreatDoor
set_option linter.unusedVariables false
namespace Go.Proofs.YtmojpiofdfmdgabGreatDoor
open Go.ChangeShapes Go.WideShapes Go.ChangeAt Go.RowKit

end Go.Proofs.YtmojpiofdfmdgabGreatDoor
set_option linter.unusedVariables false
namespace Go.Proofs.YtmojpiofdfmdgabGreatDoor
open Go.ChangeShapes Go.WideShapes Go.ChangeAt Go.RowKit

end Go.Proofs.YtmojpiofdfmdgabGreatDoor
set_option linter.unusedVariables false
namespace Go.Proofs.YtmojpiofdfmdgabGreatDoor
open Go.ChangeShapes Go.WideShapes Go.ChangeAt Go.RowKit

set_option maxRecDepth 100000 in
/-- a small letter, at a place: its character -/
theorem rune_low (s : ByteArray) (pos : Nat) (h : pos < s.size) (hd : isDig s[pos] = false) (hc : idCh s[pos] = true) : Utf8.decode s pos = (s[pos].toNat, 1) ∧ runeDig (s[pos].toNat : Int) = false ∧ (97 : Int) ≤ (s[pos].toNat : Int) ∧ (s[pos].toNat : Int) ≤ 122 := by
  have h1 := (isDig_no _).1 hd
  have h2 : 48 ≤ s[pos].toNat ∧ s[pos].toNat ≤ 57 ∨ 97 ≤ s[pos].toNat ∧ s[pos].toNat ≤ 122 := of_decide_eq_true hc
  have h3 : 97 ≤ s[pos].toNat ∧ s[pos].toNat ≤ 122 := by omega
  exact ⟨decode_ascii s pos h (by omega), by simp [runeDig]; omega, by omega, by omega⟩
set_option maxRecDepth 100000 in
/-- no sign of an id, at a place: its character -/
theorem rune_none (s : ByteArray) (pos : Nat) (h : pos < s.size) (hc : idCh s[pos] = false) : runeDig ((Utf8.decode s pos).1 : Int) = false ∧ (((Utf8.decode s pos).1 : Int) < 97 ∨ 122 < ((Utf8.decode s pos).1 : Int)) := by
  have h2 : ¬ (48 ≤ s[pos].toNat ∧ s[pos].toNat ≤ 57 ∨ 97 ≤ s[pos].toNat ∧ s[pos].toNat ≤ 122) := of_decide_eq_false hc
  rcases Nat.lt_or_ge s[pos].toNat 128 with h1 | h1
  · rw [decode_ascii s pos h h1]
    exact ⟨by simp [runeDig]; omega, by show (s[pos].toNat : Int) < 97 ∨ 122 < (s[pos].toNat : Int); omega⟩
  · have := (decode_high s pos h h1).1
    exact ⟨by simp [runeDig]; omega, .inr (by omega)⟩
set_option maxRecDepth 100000 in
theorem idOk_end {s : ByteArray} {k : Nat} (hk : ¬ k < s.size) (h : (s.data.toList.take k).all idCh = true) : idOk s = decide (0 < s.size ∧ s.size ≤ 6) := by
  rw [take_end s k hk] at h
  rw [idOk_yes h]
  unfold inB
  exact decide_eq_decide.2 ⟨fun ⟨_, _⟩ => ⟨by omega, by omega⟩, fun ⟨_, _⟩ => ⟨by omega, by omega⟩⟩
set_option maxRecDepth 100000 in
set_option maxHeartbeats 1600000 in
theorem implHoldIdOk_any (s : ByteArray) (w : World) (hs : s.size ≤ maxLen) :
    Calls Tryz.prog 191 #[.string s] w fun e w' => e = .returned (.bool (idOk s)) ∧ Below w.heap.size w w' := by
  unfold maxLen at hs
  go_enter Tryz.func191, Tryz.ntmps191
  go_wp2
  go_loopw [2] (fun _ wr => ∃ k : Nat, k ≤ s.size ∧ wr = w.iter s k ∧ (s.data.toList.take k).all idCh = true) (fun _ wr => s.size - wr.iterPos w.heap.size)
  case atStart => exact ⟨0, Nat.zero_le _, rfl, rfl⟩
  case round =>
    obtain ⟨k, hk, rfl, ha0⟩ := hrel
    have ha := Lib.hid ha0
    clear ha0
    by_cases hlt : k < s.size
    · cases hc : idCh s[k]
      · obtain ⟨hr, hr2⟩ := rune_none s k hlt hc
        have HF := Lib.hid (idOk_not (all_not (p := idCh) hlt hc))
        have hnx : ∀ ty, (Instr.next (.pointer (some ⟨w.heap.size, 0, none⟩)) true ty).run Tryz.prog (w.iter s k) = _ := fun ty => run_next_any w s k ty hlt
        generalize hq : Utf8.decode s k = q at hnx hr hr2
        obtain ⟨r, wd⟩ := q
        clear hq
        simp only at hr hr2
        rcases hr2 with hr2 | hr2
        · go_wp2_with (go_at_call 79; refine (isDigit_any _ _).mono ?_; rintro e w' ⟨rfl, rfl⟩)
          go_ret
          exact ⟨ret_bool HF.out.symm, below_iter _ _ _⟩
        · have hr3 : ¬ (r : Int) < 97 := by omega
          go_wp2_with (go_at_call 79; refine (isDigit_any _ _).mono ?_; rintro e w' ⟨rfl, rfl⟩)
          go_ret
          exact ⟨ret_bool HF.out.symm, below_iter _ _ _⟩
      · have hb := Lib.hid (all_step (p := idCh) hlt ha.out hc)
        have hnx : ∀ ty, (Instr.next (.pointer (some ⟨w.heap.size, 0, none⟩)) true ty).run Tryz.prog (w.iter s k) = _ := fun ty => run_next_any w s k ty hlt
        cases hd : isDig s[k]
        · obtain ⟨hdec, hr, hr2, hr3⟩ := rune_low s k hlt hd hc
          rw [hdec] at hnx
          clear hdec hd hc
          go_wp2_with (go_at_call 79; refine (isDigit_any _ _).mono ?_; rintro e w' ⟨rfl, rfl⟩)
          go_roundw
          case rel => exact ⟨k + 1, by omega, rfl, hb.out⟩
          case measure => simp <;> omega
        · obtain ⟨hdec, hr⟩ := rune_dig s k hlt hd
          rw [hdec] at hnx
          clear hdec hd hc
          go_wp2_with (go_at_call 79; refine (isDigit_any _ _).mono ?_; rintro e w' ⟨rfl, rfl⟩)
          go_roundw
          case rel => exact ⟨k + 1, by omega, rfl, hb.out⟩
          case measure => simp <;> omega
    · have HV := Lib.hid (idOk_end hlt ha.out)
      have hnx : ∀ ty, (Instr.next (.pointer (some ⟨w.heap.size, 0, none⟩)) true ty).run Tryz.prog (w.iter s k) = _ := fun ty => run_next_end w s k ty hlt
      by_cases h0 : 0 < s.size
      · have hE := empty_no s h0
        go_wp2
        go_ret
        exact ⟨ret_bool (by rw [HV.out]; exact decide_eq_decide.2 ⟨fun _ => ⟨h0, by omega⟩, fun _ => by omega⟩), below_iter _ _ _⟩
      · have hE := empty_yes s h0
        go_wp2
        go_ret
        exact ⟨ret_bool (by rw [HV.out]; exact (decide_eq_false (fun h => h0 h.1)).symm), below_iter _ _ _⟩
end Go.Proofs.YtmojpiofdfmdgabGreatDoor
set_option linter.unusedVariables false
namespace Go.Proofs.YtmojpiofdfmdgabGreatDoor
open Go.ChangeShapes Go.WideShapes Go.ChangeAt Go.RowKit

set_option maxRecDepth 100000 in
theorem bk.under {w w' : World} {lo hi g : Nat} {t : TypeId} {cs : List Value} (h : bk w g t cs) (ht : Turned lo hi w w') (hg : g < lo ∨ hi ≤ g) : bk w' g t cs := (ht.block g h.lt (by omega)).trans h
end Go.Proofs.YtmojpiofdfmdgabGreatDoor
set_option linter.unusedVariables false
namespace Go.Proofs.YtmojpiofdfmdgabGreatDoor
open Go.ChangeShapes Go.WideShapes Go.ChangeAt Go.RowKit

set_option maxRecDepth 100000 in
set_option maxHeartbeats 1600000 in
theorem implFieldOf_any (hi : Nat) (v : Value) (m : MsgD) (no : Int) (w : World) (hn : m.2.length ≤ 1048576) (h : FieldsR.rd hi w [v] m.2) (hh : hi ≤ w.heap.size) :
    Calls Tryz.prog 71 #[.agg #[.string m.1, v], .int .i64 no] w fun e w' => e = .returned (.tuple #[.string (fldTxt m.2 no), .bool (fldHas m.2 no)]) ∧ Below w.heap.size w w' := by
  obtain ⟨A, c, rfl, hc, h'⟩ := fields_rd h
  have HR := Lib.hid h'
  clear h' h
  go_enter Tryz.func71, Tryz.ntmps71
  go_wp2
  have HB0 : Hid (Below w.heap.size w (w.alloc (.cells #[.string m.1, .slice A m.2.length c] 32))) := Lib.hid ((Below.refl _ _).alloc (Nat.le_refl _) _)
  go_loopw [11] (fun iv wr => ∃ i : Nat, i ≤ m.2.length ∧ iv = .int .i64 i ∧ Hid (∀ j y, j < i → m.2[j]? = some y → y.1 ≠ no) ∧ Hid (Below w.heap.size w wr) ∧ w.heap.size ≤ wr.heap.size) (fun iv _ => m.2.length - (intOf iv).toNat)
  case atStart => exact ⟨0, Nat.zero_le _, rfl, Lib.hid (fun j y hj => absurd hj (by omega)), HB0, by simp⟩
  case round =>
    obtain ⟨i, hi', rfl, HN, HB, hz⟩ := hrel
    by_cases hin : i < m.2.length
    · obtain ⟨x, hx⟩ : ∃ x, m.2[i]? = some x := ⟨_, List.getElem?_eq_getElem hin⟩
      obtain ⟨b, off, rfl, hbl, c0, c1⟩ := HR.out i x hx
      have HX := Lib.hid hx
      have c0 := (HB.out.cell (p := ⟨b, off + i * 2, none⟩) (show b < w.heap.size by omega)).trans c0
      have c1 := (HB.out.cell (p := ⟨b, off + i * 2 + 1, none⟩) (show b < w.heap.size by omega)).trans c1
      have g1 : (i : Int) < (m.2.length : Int) := by omega
      have g2 : 0 ≤ (i : Int) := by omega
      clear hx
      by_cases he : x.1 = no
      · have HF := Lib.hid (find_at HN.out HX.out he)
        have he' : (x.1 == no) = true := by simpa using he
        clear he
        go_wp2
        go_ret2
        rw [HF.out.1, HF.out.2]
        exact ⟨rfl, HB.out.alloc hz _⟩
      · have he' : (x.1 == no) = false := by simpa using he
        have HE := Lib.hid he
        clear he
        go_wp2
        go_roundw
        case rel => exact ⟨i + 1, by omega, by go_num, Lib.hid (fun j y hj hy => by
          by_cases e : j = i
          · subst e; rw [HX.out] at hy; cases hy; exact HE.out
          · exact HN.out j y (by omega) hy), Lib.hid (HB.out.alloc hz _), by simp; omega⟩
        case measure => simp [intOf] <;> omega
    · obtain rfl : i = m.2.length := by omega
      have HF := Lib.hid (find_none HN.out)
      go_wp2
      go_ret2
      rw [HF.out.1, HF.out.2]
      exact ⟨rfl, HB.out⟩
end Go.Proofs.YtmojpiofdfmdgabGreatDoor
set_option linter.unusedVariables false
namespace Go.Proofs.YtmojpiofdfmdgabGreatDoor
open Go.ChangeShapes Go.WideShapes Go.ChangeAt Go.RowKit

/-- the table as a value -/
def opList : List Value := opRows.flatMap fun r => r.map fun x => Value.string ⟨x.toArray⟩
def opAgg : Value := .agg opList.toArray
set_option maxRecDepth 100000 in
theorem ops_range {w : World} (h : opsIn w) : w.rangeAt 0 0 opList := by
  intro j v hv
  have hj : j < 27 := (List.getElem?_eq_some_iff.1 hv).1
  obtain ⟨i, k, hi, hk, rfl⟩ : ∃ i k : Nat, i < 9 ∧ k < 3 ∧ j = i * 3 + k := ⟨j / 3, j % 3, by omega, by omega, by omega⟩
  rw [Nat.zero_add, h i k hi hk]
  have := opArr_at ⟨i, hi⟩ ⟨k, hk⟩
  simp only [opArr, List.getElem?_toArray] at this
  rw [← this]
  exact hv
set_option maxRecDepth 100000 in
theorem opInfo : (Tryz.prog.info? 107).map (·.size) = some opList.length := by kernel_rfl
set_option maxRecDepth 100000 in
theorem ops_index (w : World) {i : Nat} (hi : i < 9) : (Instr.index 107 opAgg (.int .i64 (i : Int))).run Tryz.prog w = .ok (.agg #[.string ⟨(opB 0 i).toArray⟩, .string ⟨(opB 1 i).toArray⟩, .string ⟨(opB 2 i).toArray⟩]) w := by
  have h : i = 0 ∨ i = 1 ∨ i = 2 ∨ i = 3 ∨ i = 4 ∨ i = 5 ∨ i = 6 ∨ i = 7 ∨ i = 8 := by omega
  rcases h with rfl | rfl | rfl | rfl | rfl | rfl | rfl | rfl | rfl
  all_goals rfl
end Go.Proofs.YtmojpiofdfmdgabGreatDoor
