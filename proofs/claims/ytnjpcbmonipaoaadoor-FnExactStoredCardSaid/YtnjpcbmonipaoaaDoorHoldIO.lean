/- HoldIdOk, HoldOk, Live of the program; no conditions. -/
import Derived.Test.YtnjpcbmonipaoaaDoorHoldJ
import Derived.Test.YtnjpcbmonipaoaaDoorRingOI
import Derived.Test.YtnjpcbmonipaoaaDoorRune
import Derived.Test.YtnjpcbmonipaoaaDoorDec
set_option linter.unusedVariables false
namespace Go.Proofs.YtnjpcbmonipaoaaDoor
open Go.ChangeShapes Go.WideShapes Go.ChangeAt Go.RowKit

set_option maxRecDepth 100000 in
theorem idCh_dig {c : UInt8} (h : isDig c = true) : idCh c = true := by
  have := (isDig_iff _).1 h
  exact decide_eq_true (.inl ⟨by omega, by omega⟩)
set_option maxRecDepth 100000 in
/-- a small letter, at a place: its character -/
theorem rune_low (s : ByteArray) (pos : Nat) (h : pos < s.size) (hd : isDig s[pos] = false) (hc : idCh s[pos] = true) : Utf8.decode s pos = (s[pos].toNat, 1) ∧ runeDig (s[pos].toNat : Int) = false ∧ (97 : Int) ≤ (s[pos].toNat : Int) ∧ (s[pos].toNat : Int) ≤ 122 := by
  have h1 := (isDig_no _).1 hd
  have h2 : 48 ≤ s[pos].toNat ∧ s[pos].toNat ≤ 57 ∨ 97 ≤ s[pos].toNat ∧ s[pos].toNat ≤ 122 := of_decide_eq_true hc
  have h3 : 97 ≤ s[pos].toNat ∧ s[pos].toNat ≤ 122 := by omega
  exact ⟨decode_ascii s pos h (by omega), by simp [runeDig]; omega, by omega, by omega⟩
set_option maxRecDepth 100000 in
/-- no sign of an id, at a place: its character -/
theorem rune_none (s : ByteArray) (pos : Nat) (h : pos < s.size) (hc : idCh s[pos] = false) : runeDig ((Utf8.decode s pos).1 : Int) = false ∧ (((Utf8.decode s pos).1 : Int) < 97 ∨ 122 < ((Utf8.decode s pos).1 : Int)) := by
  have h2 : ¬ (48 ≤ s[pos].toNat ∧ s[pos].toNat ≤ 57 ∨ 97 ≤ s[pos].toNat ∧ s[pos].toNat ≤ 122) := of_decide_eq_false hc
  rcases Nat.lt_or_ge s[pos].toNat 128 with h1 | h1
  · rw [decode_ascii s pos h h1]
    exact ⟨by simp [runeDig]; omega, by show (s[pos].toNat : Int) < 97 ∨ 122 < (s[pos].toNat : Int); omega⟩
  · have := (decode_high s pos h h1).1
    exact ⟨by simp [runeDig]; omega, .inr (by omega)⟩
set_option maxRecDepth 100000 in
theorem idOk_end {s : ByteArray} {k : Nat} (hk : ¬ k < s.size) (h : (s.data.toList.take k).all idCh = true) : idOk s = decide (0 < s.size ∧ s.size ≤ 6) := by
  rw [take_end s k hk] at h
  rw [idOk_yes h]
  unfold inB
  exact decide_eq_decide.2 ⟨fun ⟨_, _⟩ => ⟨by omega, by omega⟩, fun ⟨_, _⟩ => ⟨by omega, by omega⟩⟩
set_option maxRecDepth 100000 in
theorem implLive_any (x : HoldD) (now : Int) (w : World) :
    Calls Tryd.prog 28 #[.agg #[.string x.1, .int .i64 x.2.1, .int .i64 x.2.2], .int .i64 now] w fun e w' => e = .returned (.bool (live now x)) ∧ Below w.heap.size w w' := by
  have HB0 : Hid (Below w.heap.size w (w.alloc (.cells #[.string x.1, .int .i64 x.2.1, .int .i64 x.2.2] 34))) := Lib.hid ((Below.refl _ _).alloc (Nat.le_refl _) _)
  go_enter Tryd.func28, Tryd.ntmps28
  go_wp2
  go_ret
  exact ⟨rfl, HB0.out⟩
end Go.Proofs.YtnjpcbmonipaoaaDoor
