/- The reference's NumText: the decimal digits of money; no conditions. -/
import Derived.Test.YtnmijppppcgobaaGreatDoorMrg1
import Derived.Lib.ItoaNum
import Derived.Lib.ItoaLen
import Derived.Test.YtnmijppppcgobaaGreatDoorMrg10
import Derived.Test.YtnmijppppcgobaaGreatDoorShelf
import Derived.Lib.AppendIntMem
import Derived.Lib.Repeat
import Derived.Test.YtnmijppppcgobaaGreatDoorMrg8
import Derived.Test.YtnmijppppcgobaaGreatDoorMrg2
import Derived.Test.YtnmijppppcgobaaGreatDoorMrg7
import Derived.Test.YtnmijppppcgobaaGreatDoorMrg6
import Derived.Test.YtnmijppppcgobaaGreatDoorMrg3
import Derived.Lib.LaidTab
set_option linter.unusedVariables false
namespace Go.Proofs.YtnmijppppcgobaaGreatDoor
open Go.ChangeShapes Go.WideShapes Go.ChangeAt Go.RowKit

/-- the text of money; nothing for what is none -/
def numOf (n : Int) : List UInt8 := if isMon n = true then Lib.decDigits n.toNat else []
abbrev strOf (l : List UInt8) : Value := .string ⟨l.toArray⟩

set_option maxRecDepth 100000 in
theorem str_app (a b : List UInt8) : ((⟨a.toArray⟩ : ByteArray) ++ (⟨b.toArray⟩ : ByteArray)) = ⟨(a ++ b).toArray⟩ := by apply ByteArray.ext; simp
set_option maxRecDepth 100000 in
theorem str_cons (c : UInt8) (b : List UInt8) : ((⟨#[c]⟩ : ByteArray) ++ (⟨b.toArray⟩ : ByteArray)) = ⟨(c :: b).toArray⟩ := str_app [c] b
set_option maxRecDepth 100000 in
theorem digits_big {n : Nat} (h : 9 < n) : Lib.decDigits n = Lib.decDigits (n / 10) ++ [UInt8.ofNat (48 + n % 10)] := by
  rw [Lib.decDigits, dif_neg (by omega)]
set_option maxRecDepth 100000 in
theorem digits_len (n : Nat) (h : n ≤ 4611686018427387904) : (Lib.decDigits n).length ≤ 20 := by
  rw [Lib.decDigits_length]; exact Lib.nDigits_le20 n (by omega)

set_option maxRecDepth 100000 in
set_option maxHeartbeats 400000 in
theorem specNum_any (n : Int) (w : World) :
    Calls Tryz.prog 187 #[.int .i64 n] w fun e w' => e = .returned (strOf (numOf n)) ∧ Below w.heap.size w w' := by
  cases hm : isMon n
  · have hv : numOf n = [] := by simp [numOf, hm]
    rw [hv]
    go_enter Tryz.func187, Tryz.ntmps187
    go_wp2_with (go_at_call 162; refine (l01Money_any _ _).mono ?_; rintro e w' ⟨rfl, rfl⟩)
    go_ret
    exact ⟨rfl, Below.refl _ _⟩
  · have hv : numOf n = Lib.decDigits n.toNat := by simp [numOf, hm]
    rw [hv]
    have hb := isMon_true hm
    have hn0 := hb.1
    have hn1 := hb.2
    clear hb hv
    go_enter Tryz.func187, Tryz.ntmps187
    go_wp2_with (go_at_call 162; refine (l01Money_any _ _).mono ?_; rintro e w' ⟨rfl, rfl⟩)
    clear hm
    go_loopw [0, 3] (fun nv sv wr => ∃ (k : Int) (t : List UInt8), nv = .int .i64 k ∧ sv = .string ⟨t.toArray⟩ ∧ Lib.decDigits n.toNat = Lib.decDigits k.toNat ++ t ∧ 0 ≤ k ∧ k ≤ 4611686018427387904 ∧ Below w.heap.size w wr) (fun nv _ _ => (intOf nv).toNat)
    case atStart => exact ⟨n, [], rfl, rfl, by simp, hn0, hn1, Below.refl _ _⟩
    case round =>
      obtain ⟨k, t, rfl, rfl, hd, hk0, hk1, hbw⟩ := hrel
      have hl : t.length ≤ 20 := by
        have h1 := congrArg List.length hd
        rw [List.length_append] at h1
        have := digits_len n.toNat (by omega)
        omega
      have hD := Lib.hid hd
      clear hd
      have hcv := fun (W : World) (c : Int) (T : TypeId) => conv_one W c T
      by_cases h9 : 9 < k
      · have hst := Lib.hid (digits_big (n := k.toNat) (by omega))
        go_wp2
        go_roundw
        case rel =>
          refine ⟨k / 10, UInt8.ofNat (48 + k % 10).toNat :: t, rfl, congrArg Value.string (str_cons _ _), ?_, by omega, by omega, ?_⟩
          · rw [hD.out, hst.out, show (k / 10).toNat = k.toNat / 10 by omega, show (48 + k % 10).toNat = 48 + k.toNat % 10 by omega]
            simp
          · exact hbw.alloc (hbw.size) _
        case measure => simp [intOf] <;> omega
      · have hst := Lib.hid (Lib.decDigits_one (i := k.toNat) (by omega))
        go_wp2
        go_ret
        refine ⟨?_, hbw.alloc (hbw.size) _⟩
        refine congrArg Ending.returned ((congrArg Value.string (str_cons _ _)).trans ?_)
        unfold strOf
        rw [hD.out, hst.out, show (48 + k).toNat = 48 + k.toNat by omega]
        rfl
end Go.Proofs.YtnmijppppcgobaaGreatDoor
set_option linter.unusedVariables false
namespace Go.Proofs.YtnmijppppcgobaaGreatDoor
open Go.ChangeShapes Go.WideShapes Go.ChangeAt Go.RowKit

def wideOk (n w : Int) : Bool := decide (0 ≤ n) && decide (1 ≤ w) && decide (w ≤ 18) && decide (((Lib.decDigits n.toNat).length : Int) ≤ w)
def wideOf (n w : Int) : List UInt8 := if wideOk n w = true then List.replicate (w.toNat - (Lib.decDigits n.toNat).length) 48 ++ Lib.decDigits n.toNat else []
set_option maxRecDepth 100000 in
theorem wide_no {n w : Int} (h : wideOk n w = false) : wideOf n w = [] := by simp [wideOf, h]
set_option maxRecDepth 100000 in
theorem digits_more {n : Int} (h : 4611686018427387904 < n) : 18 < (Lib.decDigits n.toNat).length := by
  rw [Lib.decDigits_length]
  rcases Nat.lt_or_ge 18 (Lib.nDigits n.toNat) with h1 | h1
  · exact h1
  · exfalso
    have h2 := Lib.lt_pow_nDigits n.toNat
    have h3 : 10 ^ Lib.nDigits n.toNat ≤ 10 ^ 18 := Nat.pow_le_pow_right (by decide) h1
    have h4 : (10 : Nat) ^ 18 = 1000000000000000000 := by decide +kernel
    omega
set_option maxRecDepth 100000 in
theorem wide_mon {n w : Int} (h : wideOk n w = true) : isMon n = true := by
  simp only [wideOk, Bool.and_eq_true, decide_eq_true_eq] at h
  obtain ⟨⟨⟨h0, h1⟩, h2⟩, h3⟩ := h
  have : ¬ 4611686018427387904 < n := fun hm => by have := digits_more hm; omega
  simp [isMon]
  omega
def sizeV : Value → Nat | .string s => s.size | _ => 0
/-- a padded text -/
def padOf (D t : List UInt8) : Prop := D.length ≤ t.length ∧ t = List.replicate (t.length - D.length) 48 ++ D
set_option maxRecDepth 100000 in
theorem pad_start (D : List UInt8) : padOf D D := ⟨Nat.le_refl _, by simp⟩
set_option maxRecDepth 100000 in
theorem pad_next {D t : List UInt8} (h : padOf D t) : padOf D (48 :: t) := by
  obtain ⟨h1, h2⟩ := h
  refine ⟨by simp; omega, ?_⟩
  rw [List.length_cons, show t.length + 1 - D.length = (t.length - D.length) + 1 by omega, List.replicate_succ, List.cons_append, ← h2]

set_option maxRecDepth 100000 in
set_option maxHeartbeats 800000 in
theorem specWide_any (n k : Int) (w : World) :
    Calls Tryz.prog 108 #[.int .i64 n, .int .i64 k] w fun e w' => e = .returned (strOf (wideOf n k)) ∧ Below w.heap.size w w' := by
  cases hm : isMon n
  · have hv : wideOf n k = [] := by
      cases h : wideOk n k
      · exact wide_no h
      · rw [wide_mon h] at hm; cases hm
    have hnum : numOf n = [] := by simp [numOf, hm]
    rw [hv]
    clear hv hm
    go_enter Tryz.func108, Tryz.ntmps108
    go_wp2_with (go_at_call 187; refine (specNum_any _ _).mono ?_; rintro e w1 ⟨rfl, hb⟩)
    go_ret
    exact ⟨rfl, hb⟩
  · have hnum : numOf n = Lib.decDigits n.toNat := by simp [numOf, hm]
    have hb0 := isMon_true hm
    have hlen0 : 1 ≤ (Lib.decDigits n.toNat).length := by rw [Lib.decDigits_length]; exact Lib.nDigits_pos _
    have hlen1 := digits_len n.toNat (by omega)
    have he : (Lib.decDigits n.toNat).isEmpty = false := by cases h : Lib.decDigits n.toNat <;> simp [h] at hlen0 ⊢
    by_cases hbad : k < 1 ∨ 18 < k ∨ k < ((Lib.decDigits n.toNat).length : Int)
    · have hv : wideOf n k = [] := wide_no (by
        cases h : wideOk n k
        · rfl
        · simp only [wideOk, Bool.and_eq_true, decide_eq_true_eq] at h; omega)
      rw [hv]
      clear hv hm hb0
      rcases hbad with h1 | h18 | hlk
      · go_enter Tryz.func108, Tryz.ntmps108
        go_wp2_with (go_at_call 187; refine (specNum_any _ _).mono ?_; rintro e w1 ⟨rfl, hb⟩)
        go_ret
        exact ⟨rfl, hb⟩
      · go_enter Tryz.func108, Tryz.ntmps108
        go_wp2_with (go_at_call 187; refine (specNum_any _ _).mono ?_; rintro e w1 ⟨rfl, hb⟩)
        go_ret
        exact ⟨rfl, hb⟩
      · by_cases h1 : k < 1
        · go_enter Tryz.func108, Tryz.ntmps108
          go_wp2_with (go_at_call 187; refine (specNum_any _ _).mono ?_; rintro e w1 ⟨rfl, hb⟩)
          go_ret
          exact ⟨rfl, hb⟩
        · by_cases h18 : 18 < k
          · go_enter Tryz.func108, Tryz.ntmps108
            go_wp2_with (go_at_call 187; refine (specNum_any _ _).mono ?_; rintro e w1 ⟨rfl, hb⟩)
            go_ret
            exact ⟨rfl, hb⟩
          · go_enter Tryz.func108, Tryz.ntmps108
            go_wp2_with (go_at_call 187; refine (specNum_any _ _).mono ?_; rintro e w1 ⟨rfl, hb⟩)
            go_ret
            exact ⟨rfl, hb⟩
    · have h1 : ¬ k < 1 := fun h => hbad (Or.inl h)
      have h18 : ¬ 18 < k := fun h => hbad (Or.inr (Or.inl h))
      have hlk : ¬ k < ((Lib.decDigits n.toNat).length : Int) := fun h => hbad (Or.inr (Or.inr h))
      have hv : wideOf n k = List.replicate (k.toNat - (Lib.decDigits n.toNat).length) 48 ++ Lib.decDigits n.toNat := by
        unfold wideOf
        rw [if_pos]
        simp only [wideOk, Bool.and_eq_true, decide_eq_true_eq]
        omega
      have HV := Lib.hid hv
      have HN := Lib.hid hnum
      clear hv hnum hbad hm hb0
      go_enter Tryz.func108, Tryz.ntmps108
      go_wp2_with (go_at_call 187; refine (specNum_any _ _).mono ?_; rw [HN.out]; rintro e w1 ⟨rfl, hb⟩)
      go_loop [5] (fun sv => ∃ t : List UInt8, sv = .string ⟨t.toArray⟩ ∧ (t.length : Int) ≤ k ∧ padOf (Lib.decDigits n.toNat) t) (fun sv => k.toNat - sizeV sv)
      case atStart => exact ⟨Lib.decDigits n.toNat, rfl, by omega, pad_start _⟩
      case round =>
        obtain ⟨t, rfl, ht, hp⟩ := hrel
        by_cases hlt : (t.length : Int) < k
        · go_wp2
          go_round
          case rel => exact ⟨48 :: t, congrArg Value.string (str_cons 48 t), by simp; omega, pad_next hp⟩
          case measure =>
            have e1 : sizeV (.string ((⟨#[48]⟩ : ByteArray) ++ ⟨t.toArray⟩)) = t.length + 1 := by rw [str_cons]; rfl
            have e2 : sizeV (.string (⟨t.toArray⟩ : ByteArray)) = t.length := rfl
            rw [e1, e2]
            omega
        · go_wp2
          go_ret
          refine ⟨congrArg (fun l => Ending.returned (strOf l)) ?_, hb⟩
          rw [HV.out]
          have := hp.2
          rw [show t.length = k.toNat by omega] at this
          exact this
set_option maxRecDepth 100000 in
theorem wide_len (n k : Int) : (wideOf n k).length ≤ 18 := by
  unfold wideOf
  split
  · next h =>
    simp only [wideOk, Bool.and_eq_true, decide_eq_true_eq] at h
    simp
    omega
  · simp
end Go.Proofs.YtnmijppppcgobaaGreatDoor
set_option linter.unusedVariables false
namespace Go.Proofs.YtnmijppppcgobaaGreatDoor
open Go.ChangeShapes Go.WideShapes Go.ChangeAt Go.RowKit

def wideS (n : Int) : ByteArray := ⟨(wideOf n 16).toArray⟩
set_option maxRecDepth 100000 in
theorem wideS_size (n : Int) : (wideS n).size ≤ 18 := wide_len n 16
def askL (a : AcctD) (now : Int) : ByteArray × Int := if (acctOk a && timeB now) = false then (⟨#[]⟩, 1) else ((wideS (roomOf a now) ++ ⟨#[32]⟩) ++ wideS (aPos a), 0)
set_option maxRecDepth 100000 in
set_option maxHeartbeats 16000000 in
theorem specAsk_any (hi : Nat) (vh vc vs vl : Value) (a : AcctD) (now : Int) (w : World) (hz : acctSmall 1048576 a) (hbig : acctBig a) (h : AcctR.rd hi w (aCells a vh vc vs vl) a) (hh : hi ≤ w.heap.size) :
    Calls Tryz.prog 48 #[.agg #[.string (aId a), .int .i64 (aLim a), .int .i64 (aPos a), .int .i64 (aMost a), .int .i64 (aSum a), vh, .int .i64 (aR a).1, .int .i64 (aR a).2.1, vc, vs, vl], .int .i64 now] w fun e w' => e = .returned (.tuple #[.string (askL a now).1, .int .i64 (askL a now).2]) ∧ Below w.heap.size w w' := by
  have HOK := Lib.hid (fun W (hW : Below w.heap.size w W) => specAcctOk_any hi vh vc vs vl a W hz hbig (Rep.below (R := AcctR) h hW hh) (Nat.le_trans hh hW.size))
  have HTM := Lib.hid (fun W => specTime_any now W)
  have HRM := Lib.hid (fun W (hW : Below w.heap.size w W) => specRoom_any hi vh vc vs vl a now W hz hbig (Rep.below (R := AcctR) h hW hh) (Nat.le_trans hh hW.size))
  have HWD : Hid (∀ n W, Calls Tryz.prog 108 #[.int .i64 n, .int .i64 16] W fun e w' => e = .returned (.string (wideS n)) ∧ Below W.heap.size W w') := Lib.hid fun n W => specWide_any n 16 W
  have HD : Hid (askL a now = if (acctOk a && timeB now) = false then (⟨#[]⟩, 1) else ((wideS (roomOf a now) ++ ⟨#[32]⟩) ++ wideS (aPos a), 0)) := Lib.hid rfl
  obtain ⟨xh, xc, xs, xl, hcs, r1, r2, r3, r4⟩ := acct_rd h
  simp only [aCells, List.cons.injEq, and_true, true_and] at hcs
  obtain ⟨rfl, rfl, rfl, rfl⟩ := hcs
  obtain ⟨AH, cH, rfl, -⟩ := Rep.slice_form r1
  obtain ⟨AL, cL, rfl, -⟩ := Rep.slice_form r4
  obtain ⟨AC, cC, rfl, -⟩ := r2.form
  obtain ⟨AS, cS, rfl, -⟩ := r3.form
  clear h r1 r2 r3 r4 hz hbig
  generalize acctOk a = ok at HOK HD
  generalize timeB now = tm at HTM HD
  generalize askL a now = res at HD ⊢
  generalize roomOf a now = rm at HRM HD
  obtain ⟨id, lim, pos, most, sum, hs, ⟨sp, hd, cs, ss⟩, sl⟩ := a
  simp only [aId, aLim, aPos, aMost, aSum, aH, aS] at HOK HRM HD
  have hs1 := wideS_size rm
  have hs2 := wideS_size pos
  go_enter Tryz.func48, Tryz.ntmps48
  go_upto_region 1 with fail
  obtain ⟨w0, hW⟩ : ∃ w0, w0 = (w.alloc (.cells #[.string id, .int .i64 lim, .int .i64 pos, .int .i64 most, .int .i64 sum, .slice AH hs.length cH, .int .i64 sp, .int .i64 hd, .slice AC cs.length cC, .slice AS ss.length cS, .slice AL sl.length cL] 29)) := ⟨_, rfl⟩
  have b0 : bk w0 (w.heap.size) 29 [.string id, .int .i64 lim, .int .i64 pos, .int .i64 most, .int .i64 sum, .slice AH hs.length cH, .int .i64 sp, .int .i64 hd, .slice AC cs.length cC, .slice AS ss.length cS, .slice AL sl.length cL] := by rw [hW]; have h0 := bk.new (w) 29 [.string id, .int .i64 lim, .int .i64 pos, .int .i64 most, .int .i64 sum, .slice AH hs.length cH, .int .i64 sp, .int .i64 hd, .slice AC cs.length cC, .slice AS ss.length cS, .slice AL sl.length cL]; have h1 := h0; simpa using h1
  have HB : Hid (Below w.heap.size w w0) := Lib.hid (by rw [hW]; exact ((Below.refl w.heap.size w).alloc (Nat.le_refl _) _))
  have z0 : w.heap.size + 1 ≤ w0.heap.size := by rw [hW]; simp
  rw [← hW]
  clear hW
  have B0 := Lib.hid b0
  clear b0
  obtain ⟨⟨p0, p1, p2, p3, p4, p5, p6, p7, p8, p9, p10⟩, -⟩ := B0.out.eleven
  go_wp2_with fail
  refine (HOK.out w0 HB.out).mono ?_
  rintro e w1 ⟨rfl, hb⟩
  have z1 := hb.size
  replace B0 := Lib.hid (B0.out.below hb (by omega))
  replace HB : Hid (Below w.heap.size w w1) := Lib.hid (HB.out.trans (hb.mono (by omega)))
  clear hb HOK p0 p1 p2 p3 p4 p5 p6 p7 p8 p9 p10
  cases ok
  · replace HD : Hid (res = (⟨#[]⟩, 1)) := Lib.hid (by rw [HD.out]; rfl)
    go_wp2
    refine bodyPost_ret (v := .tuple #[.string ⟨#[]⟩, .int .i64 1]) (by simp [results, Tryz.results48, go_sem]) rfl ?_
    rw [HD.out]
    exact ⟨rfl, HB.out⟩
  go_wp2_with fail
  refine (HTM.out w1).mono ?_
  rintro e wx ⟨rfl, rfl⟩
  cases tm
  · replace HD : Hid (res = (⟨#[]⟩, 1)) := Lib.hid (by rw [HD.out]; rfl)
    go_wp2
    refine bodyPost_ret (v := .tuple #[.string ⟨#[]⟩, .int .i64 1]) (by simp [results, Tryz.results48, go_sem]) rfl ?_
    rw [HD.out]
    exact ⟨rfl, HB.out⟩
  replace HD : Hid (res = ((wideS rm ++ ⟨#[32]⟩) ++ wideS pos, 0)) := Lib.hid (by rw [HD.out]; rfl)
  obtain ⟨⟨p0, p1, p2, p3, p4, p5, p6, p7, p8, p9, p10⟩, -⟩ := B0.out.eleven
  have P0 := Lib.hid p0
  have P1 := Lib.hid p1
  have P2 := Lib.hid p2
  have P3 := Lib.hid p3
  have P4 := Lib.hid p4
  have P5 := Lib.hid p5
  have P6 := Lib.hid p6
  have P7 := Lib.hid p7
  have P8 := Lib.hid p8
  have P9 := Lib.hid p9
  have P10 := Lib.hid p10
  clear p0 p1 p2 p3 p4 p5 p6 p7 p8 p9 p10
  have hw1 := Lib.hid (HWD.out rm)
  have hw2 := Lib.hid (HWD.out pos)
  generalize wideS rm = A1 at hw1 HD hs1
  generalize wideS pos = A2 at hw2 HD hs2
  clear HWD HTM
  have HX : Hid (Ext w1 w1.drew) := Lib.hid (Ext.refl w1).drew
  have HBX : Hid (∀ V, Ext w1 V → Below w.heap.size w V) := Lib.hid fun V hV => HB.out.trans (hV.below.mono (by omega))
  go_upto_region 3 with fail
  refine quiet_region (C := Ext w1) (by kernel_rfl) (by kernel_rfl) HX.out ?_
  repeat (first
    | go_big_quiet_skip
    | (go_big_quiet_want; go_big_quiet_op; go_big_quiet_on)
    | (go_big_quiet_want; go_big_quiet_op; apply Exists.intro; refine ⟨fun _ _ => rfl, ?_⟩; go_big_quiet_on)
    | (go_big_quiet_want
       apply Exists.intro
       refine ⟨fun V hV => ?_, ?_⟩
       (have p0 := hV.cell P0.out (by omega)
        have p1 := hV.cell P1.out (by omega)
        have p2 := hV.cell P2.out (by omega)
        have p3 := hV.cell P3.out (by omega)
        have p4 := hV.cell P4.out (by omega)
        have p5 := hV.cell P5.out (by omega)
        have p6 := hV.cell P6.out (by omega)
        have p7 := hV.cell P7.out (by omega)
        have p8 := hV.cell P8.out (by omega)
        have p9 := hV.cell P9.out (by omega)
        have p10 := hV.cell P10.out (by omega)
        unfold Oper.quietAt
        go_simp
        rfl)
       simp only [Act.put, List.setIfInBounds_toArray, List.set_cons_zero, List.set_cons_succ]
       go_big_quiet_on)
    | (go_big_quiet_want
       apply Exists.intro
       refine ⟨fun V hV => ?_, ?_⟩
       (unfold Oper.quietAt
        go_simp
        go_at_call 107
        refine (HRM.out V (HBX.out V hV)).mono ?_
        rintro e w4 ⟨rfl, hb4⟩
        exact ⟨rfl, hV.step hb4⟩)
       simp only [Act.put, List.setIfInBounds_toArray, List.set_cons_zero, List.set_cons_succ]
       go_big_quiet_on)
    | (go_big_quiet_want
       apply Exists.intro
       refine ⟨fun V hV => ?_, ?_⟩
       (unfold Oper.quietAt
        go_simp
        go_at_call 108
        first | (with_reducible refine (hw1.out V).mono ?_) | (with_reducible refine (hw2.out V).mono ?_) | fail
        rintro e w4 ⟨rfl, hb4⟩
        exact ⟨rfl, hV.step hb4⟩)
       simp only [Act.put, List.setIfInBounds_toArray, List.set_cons_zero, List.set_cons_succ]
       go_big_quiet_on)
    | fail)
  refine wpQuiet_nil ?_
  intro W4 hW4
  go_wp2
  refine bodyPost_ret (v := .tuple #[.string (A1 ++ ⟨#[32]⟩ ++ A2), .int .i64 0]) (by simp [results, Tryz.results48, go_sem]) rfl ?_
  rw [HD.out]
  exact ⟨rfl, HB.out.trans (hW4.below.mono (by omega))⟩
end Go.Proofs.YtnmijppppcgobaaGreatDoor
set_option linter.unusedVariables false
namespace Go.Proofs.YtnmijppppcgobaaGreatDoor
open Go.ChangeShapes Go.WideShapes Go.ChangeAt Go.RowKit

set_option maxRecDepth 100000 in
theorem below_grown (w : World) (k : Nat) (os : Array Obj) : Below w.heap.size w (Sort.grow (w.drewN k) os) := Lib.below_grow _ w (Nat.le_refl _) k os

end Go.Proofs.YtnmijppppcgobaaGreatDoor
set_option linter.unusedVariables false
namespace Go.Proofs.YtnmijppppcgobaaGreatDoor
open Go.ChangeShapes Go.WideShapes Go.ChangeAt Go.RowKit

set_option maxRecDepth 100000 in
theorem rep_one (c : Nat) : Lib.repeatL [48] c = List.replicate c 48 := by
  induction c with
  | zero => rfl
  | succ c ih => rw [List.replicate_succ, ← ih]; rfl
set_option maxRecDepth 100000 in
set_option maxHeartbeats 800000 in
theorem implWide_any (n k : Int) (w : World) (hn : -9223372036854775808 ≤ n) (hn' : n ≤ 9223372036854775807) (htab : Lib.TabIs Tryz.prog w "internal/strconv.uint64pow10" .u64 Lib.pow10Tab) :
    Calls Tryz.prog 109 #[.int .i64 n, .int .i64 k] w fun e w' => e = .returned (strOf (wideOf n k)) ∧ Below w.heap.size w w' := by
  by_cases hbad : n < 0 ∨ k < 1 ∨ 18 < k
  · have hv : wideOf n k = [] := wide_no (by
      cases h : wideOk n k
      · rfl
      · simp only [wideOk, Bool.and_eq_true, decide_eq_true_eq] at h; omega)
    rw [hv]
    clear hv
    by_cases h0 : n < 0
    · go_enter Tryz.func109, Tryz.ntmps109
      go_wp2
      go_ret
      exact ⟨rfl, Below.refl _ _⟩
    · by_cases h1 : k < 1
      · go_enter Tryz.func109, Tryz.ntmps109
        go_wp2
        go_ret
        exact ⟨rfl, Below.refl _ _⟩
      · have h18 : 18 < k := by omega
        go_enter Tryz.func109, Tryz.ntmps109
        go_wp2
        go_ret
        exact ⟨rfl, Below.refl _ _⟩
  · have h0 : ¬ n < 0 := fun h => hbad (Or.inl h)
    have h1 : ¬ k < 1 := fun h => hbad (Or.inr (Or.inl h))
    have h18 : ¬ 18 < k := fun h => hbad (Or.inr (Or.inr h))
    have HI := Lib.hid (show Lib.itoa n = Lib.decDigits n.toNat by unfold Lib.itoa; rw [if_neg h0])
    have hlen := Lib.nDigits_le20 n.toNat (by omega)
    rw [← Lib.decDigits_length] at hlen
    clear hbad
    by_cases hlk : k < ((Lib.decDigits n.toNat).length : Int)
    · have hv : wideOf n k = [] := wide_no (by
        cases h : wideOk n k
        · rfl
        · simp only [wideOk, Bool.and_eq_true, decide_eq_true_eq] at h; omega)
      rw [hv]
      clear hv
      go_enter Tryz.func109, Tryz.ntmps109
      go_wp2_with (go_at_call 188; refine (Tryz.strconv_Itoa n (by omega) (by omega) _ htab).mono ?_; rw [HI.out]; rintro e w1 ⟨rfl, j, os, rfl⟩)
      go_ret
      exact ⟨rfl, below_grown _ _ _⟩
    · have hv : wideOf n k = List.replicate (k.toNat - (Lib.decDigits n.toNat).length) 48 ++ Lib.decDigits n.toNat := by
        unfold wideOf
        rw [if_pos]
        simp only [wideOk, Bool.and_eq_true, decide_eq_true_eq]
        omega
      have HV := Lib.hid hv
      clear hv
      go_enter Tryz.func109, Tryz.ntmps109
      go_wp2_with fail
      refine (Tryz.strconv_Itoa n (by omega) (by omega) _ htab).mono ?_
      rw [HI.out]
      rintro e w1 ⟨rfl, j, os, rfl⟩
      go_wp2_with fail
      rw [show (k - ((Lib.decDigits n.toNat).length : Int)) = ((k.toNat - (Lib.decDigits n.toNat).length : Nat) : Int) by omega]
      refine (Tryz.strings_Repeat ⟨#[48]⟩ (k.toNat - (Lib.decDigits n.toNat).length) _ (by omega) (by show 1 * _ ≤ _; omega)).mono ?_
      rw [show (⟨#[48]⟩ : ByteArray).data.toList = [48] from rfl, rep_one]
      rintro e w2 ⟨rfl, hb2⟩
      go_wp2
      go_ret
      refine ⟨congrArg (fun b => Ending.returned (Value.string b)) ?_, (below_grown w j os).trans (hb2.mono (below_grown w j os).size)⟩
      rw [HV.out, ← str_app]
      simp
end Go.Proofs.YtnmijppppcgobaaGreatDoor
set_option linter.unusedVariables false
namespace Go.Proofs.YtnmijppppcgobaaGreatDoor
open Go.ChangeShapes Go.WideShapes Go.ChangeAt Go.RowKit

set_option maxRecDepth 100000 in
theorem tab_at {w : World} (htab : Lib.TabIs Tryz.prog w "internal/strconv.uint64pow10" .u64 Lib.pow10Tab) : 3 < w.heap.size := by
  unfold Lib.TabIs World.var? at htab
  rw [show Tryz.prog.globalNamed "internal/strconv.uint64pow10" = some 3 by kernel_rfl] at htab
  rcases Nat.lt_or_ge 3 w.heap.size with h | h
  · exact h
  · simp [Array.getElem?_eq_none h] at htab
set_option maxRecDepth 100000 in
theorem ask_codes (a : AcctD) (now : Int) : (firstC [kState a now] ≠ 0 → askL a now = (⟨#[]⟩, firstC [kState a now])) ∧ (firstC [kState a now] = 0 → askL a now = ((wideS (roomOf (acctSwept a now) now) ++ ⟨#[32]⟩) ++ wideS (aPos (acctSwept a now)), 0) ∧ (-9223372036854775808 ≤ roomOf (acctSwept a now) now ∧ roomOf (acctSwept a now) now ≤ 9223372036854775807) ∧ (-9223372036854775808 ≤ aPos (acctSwept a now) ∧ aPos (acctSwept a now) ≤ 9223372036854775807)) := by
  unfold askL
  cases h : (acctOk a && timeB now) with
  | false => rw [state_no h, if_pos rfl]; exact ⟨fun _ => rfl, fun h => absurd h (by decide)⟩
  | true =>
    have h2 : acctOk a = true ∧ timeB now = true := by simpa using h
    obtain ⟨w1, w2, w3, w4, w5, w6⟩ := ring_swept h2.1 h2.2
    have hr := room_swept h2.1 h2.2
    have hq := room_eq h2.1 h2.2
    obtain ⟨n1, n2, n3, n4⟩ := acctOk_nums h2.1
    obtain ⟨o1, o2, o3, o4, o5, o6, o7, o8, o9⟩ := acctOk_iff.1 h2.1
    have hs := sumH_range (holdsOk_sub o6 (live_sub (aH a) now))
    rw [state_yes h, if_neg (by decide), hr, w4]
    exact ⟨fun h => absurd rfl h, fun _ => ⟨rfl, ⟨by rw [hq]; omega, by rw [hq]; omega⟩, by omega, by omega⟩⟩
set_option maxRecDepth 100000 in
set_option maxHeartbeats 16000000 in
theorem implAsk_any (hi : Nat) (vh vc vs vl : Value) (a : AcctD) (now : Int) (w : World) (ht : Lib.TabIs Tryz.prog w "internal/strconv.uint64pow10" .u64 Lib.pow10Tab) (hg : Handle w) (hz : acctSmall 1048576 a) (hbig : acctBig a) (h : AcctR.rd hi w (aCells a vh vc vs vl) a) (hh : hi ≤ w.heap.size) :
    Calls Tryz.prog 49 #[.agg #[.string (aId a), .int .i64 (aLim a), .int .i64 (aPos a), .int .i64 (aMost a), .int .i64 (aSum a), vh, .int .i64 (aR a).1, .int .i64 (aR a).2.1, vc, vs, vl], .int .i64 now] w fun e w' => e = .returned (.tuple #[.string (askL a now).1, .int .i64 (askL a now).2]) ∧ Below w.heap.size w w' := by
  have HWD : Hid (∀ n, -9223372036854775808 ≤ n → n ≤ 9223372036854775807 → ∀ V, Below w.heap.size w V → Calls Tryz.prog 109 #[.int .i64 n, .int .i64 16] V fun e w' => e = .returned (.string (wideS n)) ∧ Below V.heap.size V w') := Lib.hid fun n h0 h1 V hV => implWide_any n 16 V h0 h1 (var?_below hV (by kernel_rfl) (tab_at ht) ht)
  clear ht
  have HST : Hid (∀ W, Below w.heap.size w W → Calls Tryz.prog 56 #[.agg #[.string (aId a), .int .i64 (aLim a), .int .i64 (aPos a), .int .i64 (aMost a), .int .i64 (aSum a), vh, .int .i64 (aR a).1, .int .i64 (aR a).2.1, vc, vs, vl], .int .i64 now] W (chkRes (kState a now) W)) := Lib.hid (fun W hW => implStateCheck_any hi vh vc vs vl a now W (hg.below hW (Nat.le_refl _)) hz hbig (Rep.below (R := AcctR) h hW hh) (Nat.le_trans hh hW.size))
  have HSW := Lib.hid (fun W (hW : Below w.heap.size w W) => implAcctSwept_any hi vh vc vs vl a now W (hg.below hW (Nat.le_refl _)) hz hbig (Rep.below (R := AcctR) h hW hh) (Nat.le_trans hh hW.size))
  have HCO := Lib.hid (ask_codes a now)
  have HSZ := Lib.hid (swept_small hz now)
  have HSB := Lib.hid (swept_big hbig now)
  obtain ⟨xh, xc, xs, xl, hcs, r1, r2, r3, r4⟩ := acct_rd h
  simp only [aCells, List.cons.injEq, and_true, true_and] at hcs
  obtain ⟨rfl, rfl, rfl, rfl⟩ := hcs
  obtain ⟨AH, cH, rfl, -⟩ := Rep.slice_form r1
  obtain ⟨AL, cL, rfl, -⟩ := Rep.slice_form r4
  obtain ⟨AC, cC, rfl, -⟩ := r2.form
  obtain ⟨AS, cS, rfl, -⟩ := r3.form
  clear h r1 r2 r3 r4 hz hbig
  generalize kState a now = k0 at HST HCO
  generalize acctSwept a now = sw at HSW HCO HSZ HSB
  generalize askL a now = res at HCO ⊢
  obtain ⟨id, lim, pos, most, sum, hs, ⟨sp, hd, cs, ss⟩, sl⟩ := a
  simp only [aId, aLim, aPos, aMost, aSum, aH, aS] at HST HSW ⊢
  have HG := Lib.hid hg
  clear hg
  go_enter Tryz.func49, Tryz.ntmps49
  go_upto_region 1 with fail
  obtain ⟨w0, hW⟩ : ∃ w0, w0 = (w.alloc (.cells #[.string id, .int .i64 lim, .int .i64 pos, .int .i64 most, .int .i64 sum, .slice AH hs.length cH, .int .i64 sp, .int .i64 hd, .slice AC cs.length cC, .slice AS ss.length cS, .slice AL sl.length cL] 29)) := ⟨_, rfl⟩
  have b0 : bk w0 (w.heap.size) 29 [.string id, .int .i64 lim, .int .i64 pos, .int .i64 most, .int .i64 sum, .slice AH hs.length cH, .int .i64 sp, .int .i64 hd, .slice AC cs.length cC, .slice AS ss.length cS, .slice AL sl.length cL] := by rw [hW]; have h0 := bk.new (w) 29 [.string id, .int .i64 lim, .int .i64 pos, .int .i64 most, .int .i64 sum, .slice AH hs.length cH, .int .i64 sp, .int .i64 hd, .slice AC cs.length cC, .slice AS ss.length cS, .slice AL sl.length cL]; have h1 := h0; simpa using h1
  have HB : Hid (Below w.heap.size w w0) := Lib.hid (by rw [hW]; exact ((Below.refl w.heap.size w).alloc (Nat.le_refl _) _))
  have z0 : w.heap.size + 1 ≤ w0.heap.size := by rw [hW]; simp
  rw [← hW]
  clear hW
  have B0 := Lib.hid b0
  clear b0
  obtain ⟨⟨p0, p1, p2, p3, p4, p5, p6, p7, p8, p9, p10⟩, -⟩ := B0.out.eleven
  go_wp2_with fail
  refine (HST.out w0 HB.out).mono ?_
  rintro e w1 ⟨gg0, ll0, rfl, hc0, hb⟩
  have z1 := hb.size
  replace B0 := Lib.hid (B0.out.below hb (by omega))
  replace HB : Hid (Below w.heap.size w w1) := Lib.hid (HB.out.trans (hb.mono (by omega)))
  clear hb p0 p1 p2 p3 p4 p5 p6 p7 p8 p9 p10
  go_wp2_with fail
  refine (implDecideRow_any [(gg0, ll0, k0)] [k0] _ _ w1 rfl (Nat.le_of_ble_eq_true rfl) (by intro x hx; rw [List.mem_singleton] at hx; subst hx; exact hc0)).mono ?_
  rintro e w2 ⟨rfl, hb⟩
  have z2 := hb.size
  replace B0 := Lib.hid (B0.out.below hb (by omega))
  replace HB : Hid (Below w.heap.size w w2) := Lib.hid (HB.out.trans (hb.mono (by omega)))
  clear hb
  clear hc0 HST
  generalize firstC [k0] = kk at HCO ⊢
  by_cases h0 : kk = 0
  rotate_left
  · have HD := Lib.hid (HCO.out.1 h0)
    clear HCO HSW HSZ HSB HG HWD B0
    go_wp2
    refine bodyPost_ret (v := .tuple #[.string ⟨#[]⟩, .int .i64 kk]) (by simp [results, Tryz.results49, go_sem]) rfl ?_
    rw [HD.out]
    exact ⟨rfl, HB.out⟩
  have HD := Lib.hid (HCO.out.2 h0)
  subst h0
  clear HCO
  obtain ⟨⟨p0, p1, p2, p3, p4, p5, p6, p7, p8, p9, p10⟩, -⟩ := B0.out.eleven
  go_wp2_with fail
  refine (HSW.out w2 HB.out).mono ?_
  rintro e w3 ⟨vh2, vc2, vs2, vl2, rfl, hm, hb⟩
  have z3 := hb.size
  replace B0 := Lib.hid (B0.out.below hb (by omega))
  replace HB : Hid (Below w.heap.size w w3) := Lib.hid (HB.out.trans (hb.mono (by omega)))
  clear hb p0 p1 p2 p3 p4 p5 p6 p7 p8 p9 p10
  obtain ⟨xh, xc, xs, xl, hcs, r1, r2, r3, r4⟩ := acct_rd hm.mine.rd
  simp only [aCells, List.cons.injEq, and_true, true_and] at hcs
  obtain ⟨rfl, rfl, rfl, rfl⟩ := hcs
  obtain ⟨AH2, cH2, rfl, -⟩ := Rep.slice_form r1
  obtain ⟨AL2, cL2, rfl, -⟩ := Rep.slice_form r4
  obtain ⟨AC2, cC2, rfl, -⟩ := r2.form
  obtain ⟨AS2, cS2, rfl, -⟩ := r3.form
  obtain ⟨id2, lim2, pos2, most2, sum2, hs2, ⟨sp2, hd2, cs2, ss2⟩, sl2⟩ := sw
  simp only [aId, aLim, aPos, aMost, aSum, aH, aS] at hm HSZ HSB HD ⊢
  have HM := Lib.hid hm
  clear hm r1 r2 r3 r4 HSW
  clear B0
  go_upto_region 5 with fail
  obtain ⟨w4, hW⟩ : ∃ V, V = w3.alloc (.cells #[.string id2, .int .i64 lim2, .int .i64 pos2, .int .i64 most2, .int .i64 sum2, .slice AH2 hs2.length cH2, .int .i64 sp2, .int .i64 hd2, .slice AC2 cs2.length cC2, .slice AS2 ss2.length cS2, .slice AL2 sl2.length cL2] 29) := ⟨_, rfl⟩
  have bx : bk w4 w3.heap.size 29 [.string id2, .int .i64 lim2, .int .i64 pos2, .int .i64 most2, .int .i64 sum2, .slice AH2 hs2.length cH2, .int .i64 sp2, .int .i64 hd2, .slice AC2 cs2.length cC2, .slice AS2 ss2.length cS2, .slice AL2 sl2.length cL2] := by rw [hW]; exact bk.new w3 _ _
  have hb : Below w3.heap.size w3 w4 := by rw [hW]; exact (Below.refl _ _).alloc (Nat.le_refl _) _
  rw [← hW]
  clear hW
  have z4 := bx.lt
  have y4 := hb.size
  replace HM := Lib.hid (HM.out.below hb (by omega))
  replace HB : Hid (Below w.heap.size w w4) := Lib.hid (HB.out.trans (hb.mono (by omega)))
  have B2 := Lib.hid bx
  clear hb bx
  have HRM := Lib.hid (fun V (hV : Below w4.heap.size w4 V) => implRoom_any _ _ _ _ _ (id2, lim2, pos2, most2, sum2, hs2, (sp2, hd2, cs2, ss2), sl2) now V ((HG.out.below HB.out (Nat.le_refl _)).below hV (Nat.le_refl _)) HSZ.out HSB.out (Rep.below (R := AcctR) HM.out.mine.rd hV (by omega)) (Nat.le_trans (by omega) hV.size))
  generalize roomOf (id2, lim2, pos2, most2, sum2, hs2, (sp2, hd2, cs2, ss2), sl2) now = rm at HRM HD
  obtain ⟨hd1, ⟨hd2, hd3⟩, hd4, hd5⟩ := HD.out
  replace HD := Lib.hid hd1
  have hw1 := Lib.hid (HWD.out rm hd2 hd3)
  have hw2 := Lib.hid (HWD.out pos2 hd4 hd5)
  have hs1 := wideS_size rm
  have hs2 := wideS_size pos2
  generalize wideS rm = A1 at hw1 HD hs1
  generalize wideS pos2 = A2 at hw2 HD hs2
  clear HWD HG HSZ HSB HM hd1 hd2 hd3 hd4 hd5
  obtain ⟨⟨p0, p1, p2, p3, p4, p5, p6, p7, p8, p9, p10⟩, -⟩ := B2.out.eleven
  have P0 := Lib.hid p0
  have P1 := Lib.hid p1
  have P2 := Lib.hid p2
  have P3 := Lib.hid p3
  have P4 := Lib.hid p4
  have P5 := Lib.hid p5
  have P6 := Lib.hid p6
  have P7 := Lib.hid p7
  have P8 := Lib.hid p8
  have P9 := Lib.hid p9
  have P10 := Lib.hid p10
  clear p0 p1 p2 p3 p4 p5 p6 p7 p8 p9 p10
  have HX : Hid (Ext w4 w4.drew) := Lib.hid (Ext.refl w4).drew
  have HBX : Hid (∀ V, Ext w4 V → Below w.heap.size w V) := Lib.hid fun V hV => HB.out.trans (hV.below.mono (by omega))
  refine quiet_region (C := Ext w4) (by kernel_rfl) (by kernel_rfl) HX.out ?_
  repeat (first
    | go_big_quiet_skip
    | (go_big_quiet_want; go_big_quiet_op; go_big_quiet_on)
    | (go_big_quiet_want; go_big_quiet_op; apply Exists.intro; refine ⟨fun _ _ => rfl, ?_⟩; go_big_quiet_on)
    | (go_big_quiet_want
       apply Exists.intro
       refine ⟨fun V hV => ?_, ?_⟩
       (have p0 := hV.cell P0.out (by omega)
        have p1 := hV.cell P1.out (by omega)
        have p2 := hV.cell P2.out (by omega)
        have p3 := hV.cell P3.out (by omega)
        have p4 := hV.cell P4.out (by omega)
        have p5 := hV.cell P5.out (by omega)
        have p6 := hV.cell P6.out (by omega)
        have p7 := hV.cell P7.out (by omega)
        have p8 := hV.cell P8.out (by omega)
        have p9 := hV.cell P9.out (by omega)
        have p10 := hV.cell P10.out (by omega)
        unfold Oper.quietAt
        go_simp
        rfl)
       simp only [Act.put, List.setIfInBounds_toArray, List.set_cons_zero, List.set_cons_succ]
       go_big_quiet_on)
    | (go_big_quiet_want
       apply Exists.intro
       refine ⟨fun V hV => ?_, ?_⟩
       (unfold Oper.quietAt
        go_simp
        go_at_call 22
        (with_reducible refine (HRM.out V hV.below).mono ?_)
        rintro e w4 ⟨rfl, hb4⟩
        exact ⟨rfl, hV.step hb4⟩)
       simp only [Act.put, List.setIfInBounds_toArray, List.set_cons_zero, List.set_cons_succ]
       go_big_quiet_on)
    | (go_big_quiet_want
       apply Exists.intro
       refine ⟨fun V hV => ?_, ?_⟩
       (unfold Oper.quietAt
        go_simp
        go_at_call 109
        first | (with_reducible refine (hw1.out V (HBX.out V hV)).mono ?_) | (with_reducible refine (hw2.out V (HBX.out V hV)).mono ?_) | fail
        rintro e w4 ⟨rfl, hb4⟩
        exact ⟨rfl, hV.step hb4⟩)
       simp only [Act.put, List.setIfInBounds_toArray, List.set_cons_zero, List.set_cons_succ]
       go_big_quiet_on)
    | fail)
  refine wpQuiet_nil ?_
  intro W4 hW4
  go_wp2
  refine bodyPost_ret (v := .tuple #[.string (A1 ++ ⟨#[32]⟩ ++ A2), .int .i64 0]) (by simp [results, Tryz.results49, go_sem]) rfl ?_
  rw [HD.out]
  exact ⟨rfl, HB.out.trans (hW4.below.mono (by omega))⟩
end Go.Proofs.YtnmijppppcgobaaGreatDoor
set_option linter.unusedVariables false
namespace Go.Proofs.YtnmijppppcgobaaGreatDoor
open Go.ChangeShapes Go.WideShapes Go.ChangeAt Go.RowKit

end Go.Proofs.YtnmijppppcgobaaGreatDoor
set_option linter.unusedVariables false
namespace Go.Proofs.YtnmijppppcgobaaGreatDoor
open Go.ChangeShapes Go.WideShapes Go.ChangeAt Go.RowKit

end Go.Proofs.YtnmijppppcgobaaGreatDoor
set_option linter.unusedVariables false
namespace Go.Proofs.YtnmijppppcgobaaGreatDoor
open Go.ChangeShapes Go.WideShapes Go.ChangeAt Go.RowKit

set_option maxRecDepth 100000 in
theorem tab_in {w : World} (htab : Lib.TabIs Tryz.prog w "internal/strconv.uint64pow10" .u64 Lib.pow10Tab) : 3 < w.heap.size := by
  unfold Lib.TabIs World.var? at htab
  rw [show Tryz.prog.globalNamed "internal/strconv.uint64pow10" = some 3 by kernel_rfl] at htab
  rcases Nat.lt_or_ge 3 w.heap.size with h | h
  · exact h
  · simp [Array.getElem?_eq_none h] at htab
end Go.Proofs.YtnmijppppcgobaaGreatDoor
