/- The reference's NumText: the decimal digits of money; no conditions. -/
import Derived.Test.YtkkbhlaakhkjnaaGreatDoorMon
import Derived.Test.YtkkbhlaakhkjnaaGreatDoorConv
import Derived.Lib.ItoaNum
import Derived.Lib.ItoaLen
set_option linter.unusedVariables false
namespace Go.Proofs.YtkkbhlaakhkjnaaGreatDoor
open Go.ChangeShapes Go.WideShapes Go.ChangeAt Go.RowKit

/-- the text of money; nothing for what is none -/
def numOf (n : Int) : List UInt8 := if isMon n = true then Lib.decDigits n.toNat else []
abbrev strOf (l : List UInt8) : Value := .string ⟨l.toArray⟩

set_option maxRecDepth 100000 in
theorem str_app (a b : List UInt8) : ((⟨a.toArray⟩ : ByteArray) ++ (⟨b.toArray⟩ : ByteArray)) = ⟨(a ++ b).toArray⟩ := by apply ByteArray.ext; simp
set_option maxRecDepth 100000 in
theorem str_cons (c : UInt8) (b : List UInt8) : ((⟨#[c]⟩ : ByteArray) ++ (⟨b.toArray⟩ : ByteArray)) = ⟨(c :: b).toArray⟩ := str_app [c] b
set_option maxRecDepth 100000 in
theorem digits_big {n : Nat} (h : 9 < n) : Lib.decDigits n = Lib.decDigits (n / 10) ++ [UInt8.ofNat (48 + n % 10)] := by
  rw [Lib.decDigits, dif_neg (by omega)]
set_option maxRecDepth 100000 in
theorem digits_len (n : Nat) (h : n ≤ 4611686018427387904) : (Lib.decDigits n).length ≤ 20 := by
  rw [Lib.decDigits_length]; exact Lib.nDigits_le20 n (by omega)

set_option maxRecDepth 100000 in
set_option maxHeartbeats 400000 in
theorem specNum_any (n : Int) (w : World) :
    Calls Tryz.prog 101 #[.int .i64 n] w fun e w' => e = .returned (strOf (numOf n)) ∧ Below w.heap.size w w' := by
  cases hm : isMon n
  · have hv : numOf n = [] := by simp [numOf, hm]
    rw [hv]
    go_enter Tryz.func101, Tryz.ntmps101
    go_wp2_with (go_at_call 122; refine (l01Money_any _ _).mono ?_; rintro e w' ⟨rfl, rfl⟩)
    go_ret
    exact ⟨rfl, Below.refl _ _⟩
  · have hv : numOf n = Lib.decDigits n.toNat := by simp [numOf, hm]
    rw [hv]
    have hb := isMon_true hm
    have hn0 := hb.1
    have hn1 := hb.2
    clear hb hv
    go_enter Tryz.func101, Tryz.ntmps101
    go_wp2_with (go_at_call 122; refine (l01Money_any _ _).mono ?_; rintro e w' ⟨rfl, rfl⟩)
    clear hm
    go_loopw [0, 3] (fun nv sv wr => ∃ (k : Int) (t : List UInt8), nv = .int .i64 k ∧ sv = .string ⟨t.toArray⟩ ∧ Lib.decDigits n.toNat = Lib.decDigits k.toNat ++ t ∧ 0 ≤ k ∧ k ≤ 4611686018427387904 ∧ Below w.heap.size w wr) (fun nv _ _ => (intOf nv).toNat)
    case atStart => exact ⟨n, [], rfl, rfl, by simp, hn0, hn1, Below.refl _ _⟩
    case round =>
      obtain ⟨k, t, rfl, rfl, hd, hk0, hk1, hbw⟩ := hrel
      have hl : t.length ≤ 20 := by
        have h1 := congrArg List.length hd
        rw [List.length_append] at h1
        have := digits_len n.toNat (by omega)
        omega
      have hD := Lib.hid hd
      clear hd
      have hcv := fun (W : World) (c : Int) (T : TypeId) => conv_one W c T
      by_cases h9 : 9 < k
      · have hst := Lib.hid (digits_big (n := k.toNat) (by omega))
        go_wp2
        go_roundw
        case rel =>
          refine ⟨k / 10, UInt8.ofNat (48 + k % 10).toNat :: t, rfl, congrArg Value.string (str_cons _ _), ?_, by omega, by omega, ?_⟩
          · rw [hD.out, hst.out, show (k / 10).toNat = k.toNat / 10 by omega, show (48 + k % 10).toNat = 48 + k.toNat % 10 by omega]
            simp
          · exact hbw.alloc (hbw.size) _
        case measure => simp [intOf] <;> omega
      · have hst := Lib.hid (Lib.decDigits_one (i := k.toNat) (by omega))
        go_wp2
        go_ret
        refine ⟨?_, hbw.alloc (hbw.size) _⟩
        refine congrArg Ending.returned ((congrArg Value.string (str_cons _ _)).trans ?_)
        unfold strOf
        rw [hD.out, hst.out, show (48 + k).toNat = 48 + k.toNat by omega]
        rfl
end Go.Proofs.YtkkbhlaakhkjnaaGreatDoor
