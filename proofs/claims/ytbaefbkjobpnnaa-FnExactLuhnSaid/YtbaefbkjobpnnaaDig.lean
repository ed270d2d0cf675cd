/- Digits: both functions tell whether a string is not empty and holds digits alone; no conditions. -/
import Derived.Test.YtbaefbkjobpnnaaBase
set_option linter.unusedVariables false
namespace Go.Proofs.Ytbaefbkjobpnnaa
open Go.ChangeShapes Go.WideShapes Go.ChangeAt Go.RowKit

theorem specDigits_any (s : ByteArray) (w : World) (hs : s.size ≤ maxLen) :
    Calls Try.prog 15 #[.string s] w fun e w' => e = .returned (.bool (digs s)) ∧ w = w' := by
  unfold maxLen at hs
  go_enter Try.func15, Try.ntmps15
  go_wp2
  go_loop [3] (fun i => ∃ k : Nat, k ≤ s.size ∧ i = .int .i64 k ∧ (s.data.toList.take k).all isDig = true) (fun i => s.size - (intOf i).toNat)
  case atStart => exact ⟨0, Nat.zero_le _, rfl, rfl⟩
  case round =>
    obtain ⟨k, hk, rfl, ha0⟩ := hrel
    have ha := Lib.hid ha0
    clear ha0
    by_cases hlt : k < s.size
    · go_wp2
      · go_ret
        exact ⟨ret_bool (digs_no s k hlt ((isDig_no _).2 (by omega))).symm, rfl⟩
      · go_round
        case rel => exact ⟨k + 1, by omega, by go_num, all_one s k hlt ha.out ((isDig_iff _).2 (by omega))⟩
        case measure => simp [intOf] <;> omega
      · go_ret
        exact ⟨ret_bool (digs_no s k hlt ((isDig_no _).2 (by omega))).symm, rfl⟩
    · go_wp2
      go_ret
      exact ⟨ret_bool (digs_end s k hlt ha.out), rfl⟩

/-- is the number of a character a digit's? -/
def runeDig (r : Int) : Bool := decide (48 ≤ r) && decide (r ≤ 57)
theorem isDigit_any (r : Int) (w : World) : Calls Try.prog 26 #[.int .i32 r] w fun e w' => e = .returned (.bool (runeDig r)) ∧ w = w' := by
  by_cases h0 : 48 ≤ r
  all_goals
    go_enter Try.func26, Try.ntmps26
    go_wp2
    go_ret
    exact ⟨by simp [runeDig]; omega, rfl⟩

/-- The character at a place: a digit there, or none. -/
theorem rune_dig (s : ByteArray) (pos : Nat) (h : pos < s.size) (hd : isDig s[pos] = true) : Utf8.decode s pos = (s[pos].toNat, 1) ∧ runeDig (s[pos].toNat : Int) = true := by
  have h1 := (isDig_iff _).1 hd
  exact ⟨decode_ascii s pos h (by omega), by simp [runeDig]; omega⟩
theorem rune_not (s : ByteArray) (pos : Nat) (h : pos < s.size) (hd : isDig s[pos] = false) : runeDig ((Utf8.decode s pos).1 : Int) = false := by
  have h1 := (isDig_no _).1 hd
  rcases Nat.lt_or_ge s[pos].toNat 128 with h2 | h2
  · rw [decode_ascii s pos h h2]; simp [runeDig]; omega
  · have := (decode_high s pos h h2).1; simp [runeDig]; omega

set_option maxRecDepth 100000 in
theorem implDigits_any (s : ByteArray) (w : World) (hs : s.size ≤ maxLen) :
    Calls Try.prog 16 #[.string s] w fun e w' => e = .returned (.bool (digs s)) ∧ Below w.heap.size w w' := by
  unfold maxLen at hs
  go_enter Try.func16, Try.ntmps16
  go_wp2
  go_loopw [2] (fun _ wr => ∃ k : Nat, k ≤ s.size ∧ wr = w.iter s k ∧ (s.data.toList.take k).all isDig = true) (fun _ wr => s.size - wr.iterPos w.heap.size)
  case atStart => exact ⟨0, Nat.zero_le _, rfl, rfl⟩
  case round =>
    obtain ⟨k, hk, rfl, ha0⟩ := hrel
    have ha := Lib.hid ha0
    clear ha0
    by_cases hlt : k < s.size
    · cases hd : isDig s[k]
      · have hr := rune_not s k hlt hd
        have hnx : ∀ ty, (Instr.next (.pointer (some ⟨w.heap.size, 0, none⟩)) true ty).run Try.prog (w.iter s k) = _ := fun ty => run_next_any w s k ty hlt
        generalize hq : Utf8.decode s k = q at hnx hr
        obtain ⟨r, wd⟩ := q
        clear hq
        go_wp2_with (go_at_call 26; refine (isDigit_any _ _).mono ?_; rintro e w' ⟨rfl, rfl⟩)
        go_ret
        exact ⟨ret_bool (digs_no s k hlt hd).symm, below_iter _ _ _⟩
      · obtain ⟨hdec, hr⟩ := rune_dig s k hlt hd
        have hnx : ∀ ty, (Instr.next (.pointer (some ⟨w.heap.size, 0, none⟩)) true ty).run Try.prog (w.iter s k) = _ := fun ty => run_next_any w s k ty hlt
        rw [hdec] at hnx
        have hb := Lib.hid (all_one s k hlt ha.out hd)
        clear hdec hd
        go_wp2_with (go_at_call 26; refine (isDigit_any _ _).mono ?_; rintro e w' ⟨rfl, rfl⟩)
        go_roundw
        case rel => exact ⟨k + 1, by omega, rfl, hb.out⟩
        case measure => simp <;> omega
    · have hnx : ∀ ty, (Instr.next (.pointer (some ⟨w.heap.size, 0, none⟩)) true ty).run Try.prog (w.iter s k) = _ := fun ty => run_next_end w s k ty hlt
      go_wp2
      go_ret
      exact ⟨ret_bool ((not_empty s).trans (digs_end s k hlt ha.out)), below_iter _ _ _⟩
end Go.Proofs.Ytbaefbkjobpnnaa
