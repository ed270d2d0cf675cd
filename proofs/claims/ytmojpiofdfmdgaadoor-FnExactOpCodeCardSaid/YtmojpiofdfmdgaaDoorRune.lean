/- isDigit; the characters of a string of digits; no conditions. -/
import Derived.Test.YtmojpiofdfmdgaaDoorBase
set_option linter.unusedVariables false
namespace Go.Proofs.YtmojpiofdfmdgaaDoor
open Go.ChangeShapes Go.WideShapes Go.ChangeAt Go.RowKit

/-- is the number of a character a digit's? -/
def runeDig (r : Int) : Bool := decide (48 ≤ r) && decide (r ≤ 57)
set_option maxRecDepth 100000 in
/-- The character at a place: a digit there, or none. -/
theorem rune_dig (s : ByteArray) (pos : Nat) (h : pos < s.size) (hd : isDig s[pos] = true) : Utf8.decode s pos = (s[pos].toNat, 1) ∧ runeDig (s[pos].toNat : Int) = true := by
  have h1 := (isDig_iff _).1 hd
  exact ⟨decode_ascii s pos h (by omega), by simp [runeDig]; omega⟩
set_option maxRecDepth 100000 in
theorem rune_not (s : ByteArray) (pos : Nat) (h : pos < s.size) (hd : isDig s[pos] = false) : runeDig ((Utf8.decode s pos).1 : Int) = false := by
  have h1 := (isDig_no _).1 hd
  rcases Nat.lt_or_ge s[pos].toNat 128 with h2 | h2
  · rw [decode_ascii s pos h h2]; simp [runeDig]; omega
  · have := (decode_high s pos h h2).1; simp [runeDig]; omega

end Go.Proofs.YtmojpiofdfmdgaaDoor
