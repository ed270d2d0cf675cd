/- PutLen and GetLen of both; of the listed package variables the walk takes what it reads. -/
import Derived.Test.YtdjlhijaadombaaGreatDoorPutBcd
import Derived.Test.YtdjlhijaadombaaGreatDoorGetBcd
import Derived.Test.YtdjlhijaadombaaGreatDoorWide
import Derived.Test.YtdjlhijaadombaaGreatDoorNarrow
set_option linter.unusedVariables false
namespace Go.Proofs.YtdjlhijaadombaaGreatDoor
open Go.ChangeShapes Go.WideShapes Go.ChangeAt Go.RowKit

def lenDig (d : Int) : Bool := decide (d = 2) || decide (d = 3)
def putLen (n d : Int) : List Int := if lenDig d = true then bcd ⟨(wideOf n d).toArray⟩ else []
def putLenOk (n d : Int) : Bool := lenDig d && bcdOk ⟨(wideOf n d).toArray⟩
set_option maxRecDepth 100000 in
theorem lenDig_no {d : Int} (h : lenDig d = false) : d ≠ 2 ∧ d ≠ 3 := by simpa [lenDig] using h
set_option maxRecDepth 100000 in
theorem lenDig_yes {d : Int} (h : lenDig d = true) : d = 2 ∨ d = 3 := by simpa [lenDig] using h
set_option maxRecDepth 100000 in
theorem wide_len (n k : Int) : (wideOf n k).length ≤ 18 := by
  unfold wideOf
  split
  · next h =>
    simp only [wideOk, Bool.and_eq_true, decide_eq_true_eq] at h
    simp
    omega
  · simp
set_option maxRecDepth 100000 in
theorem putLen_len (n d : Int) : (putLen n d).length ≤ 19 := by
  unfold putLen; split
  · exact bcd_len _
  · simp
set_option maxRecDepth 100000 in
theorem isLenDigits_any (d : Int) (w : World) :
    Calls Tryz.prog 102 #[.int .i64 d] w fun e w' => e = .returned (.bool (lenDig d)) ∧ w = w' := by
  by_cases h2 : d = 2
  · subst h2
    go_enter Tryz.func102, Tryz.ntmps102
    go_wp2
    go_ret
    exact ⟨rfl, rfl⟩
  · by_cases h3 : d = 3
    · subst h3
      go_enter Tryz.func102, Tryz.ntmps102
      go_wp2
      go_ret
      exact ⟨rfl, rfl⟩
    · have e2 : (d == 2) = false := beq_eq_false_iff_ne.2 h2
      have e3 : (d == 3) = false := beq_eq_false_iff_ne.2 h3
      have hl : lenDig d = false := by simp [lenDig, h2, h3]
      rw [hl]
      clear hl
      go_enter Tryz.func102, Tryz.ntmps102
      go_wp2
      go_ret
      exact ⟨rfl, rfl⟩

set_option maxRecDepth 100000 in
theorem implPutLen_any (n d : Int) (w : World) (hn : -9223372036854775808 ≤ n) (hn' : n ≤ 9223372036854775807) (htab : Lib.TabIs Tryz.prog w "internal/strconv.uint64pow10" .u64 Lib.pow10Tab) :
    Calls Tryz.prog 98 #[.int .i64 n, .int .i64 d] w (resB (putLen n d) (putLenOk n d) w) := by
  have HT := Lib.hid htab
  clear htab
  cases hl : lenDig d
  · have HN : Hid (putLen n d = [] ∧ putLenOk n d = false) := Lib.hid (by simp [putLen, putLenOk, hl])
    have HL := Lib.hid hl
    clear hl
    go_enter Tryz.func98, Tryz.ntmps98
    go_wp2_with (go_at_call 102; refine (isLenDigits_any d _).mono ?_; rw [HL.out]; rintro e w1 ⟨rfl, rfl⟩)
    go_ret2
    rw [HN.out.1, HN.out.2]
    exact resB_no (Below.refl _ _)
  · have HN : Hid (putLen n d = bcd ⟨(wideOf n d).toArray⟩ ∧ putLenOk n d = bcdOk ⟨(wideOf n d).toArray⟩) := Lib.hid (by simp [putLen, putLenOk, hl])
    have hsz : (⟨(wideOf n d).toArray⟩ : ByteArray).size ≤ 1073741824 := Nat.le_trans (wide_len n d) (by decide)
    have HL := Lib.hid hl
    clear hl
    go_enter Tryz.func98, Tryz.ntmps98
    go_wp2_with (go_at_call 102; refine (isLenDigits_any d _).mono ?_; rw [HL.out]; rintro e w1 ⟨rfl, rfl⟩)
    refine (implWide_any n _ _ hn hn' HT.out).mono ?_
    rintro e w1 ⟨rfl, hb⟩
    go_wp2_with fail
    refine (implPutBcd_any _ _ hsz).mono ?_
    rintro e w2 ⟨u, rfl, hu, hb2⟩
    have HU := Lib.hid hu
    clear hu
    go_wp2
    go_ret2
    rw [HN.out.1, HN.out.2]
    exact ⟨_, rfl, HU.out.mono hb.size, hb.trans (hb2.mono hb.size)⟩

set_option maxRecDepth 100000 in
theorem gTxt_len (l : List Int) (a n : Int) : (gTxt l a n).length ≤ 38 := by
  unfold gTxt
  split
  · next h =>
    have hi : gIn l a n = true := by simp only [gOk, Bool.and_eq_true] at h; exact h.1.1
    have hp := gPart_len hi
    simp only [gIn, Bool.and_eq_true, decide_eq_true_eq] at hi
    split
    · rw [List.length_drop, decN_len]; omega
    · rw [decN_len]; omega
  · simp
def lenVal (l : List Int) (a d : Int) : Int := if lenDig d = true then narVal ⟨(gTxt l a d).toArray⟩ else 0
def lenEnd (l : List Int) (a d : Int) : Int := if lenDig d = true then gEnd l a d else 0
def lenGot (l : List Int) (a d : Int) : Bool := lenDig d && gOk l a d
def lenRes (l : List Int) (a d : Int) : Ending := .returned (.tuple #[.int .i64 (lenVal l a d), .int .i64 (lenEnd l a d), .bool (lenGot l a d)])
set_option maxRecDepth 100000 in
theorem lenRes_no {l : List Int} {a d : Int} (h : lenDig d = false) : lenRes l a d = .returned (.tuple #[.int .i64 0, .int .i64 0, .bool false]) := by simp [lenRes, lenVal, lenEnd, lenGot, h]
set_option maxRecDepth 100000 in
theorem lenRes_yes {l : List Int} {a d : Int} (h : lenDig d = true) : lenRes l a d = .returned (.tuple #[.int .i64 (narVal ⟨(gTxt l a d).toArray⟩), .int .i64 (gEnd l a d), .bool (gOk l a d)]) := by simp [lenRes, lenVal, lenEnd, lenGot, h]
set_option maxRecDepth 100000 in
theorem lenRes_bad {l : List Int} {a d : Int} (h : lenDig d = true) (hg : gOk l a d = false) : lenRes l a d = .returned (.tuple #[.int .i64 0, .int .i64 0, .bool false]) := by
  rw [lenRes_yes h, hg]
  have h1 : gTxt l a d = [] := by simp [gTxt, hg]
  have h2 : gEnd l a d = 0 := by simp [gEnd, hg]
  rw [h1, h2]
  rfl

set_option maxRecDepth 100000 in
theorem implGetLen_any (hi : Nat) (v : Value) (l : List Int) (a d : Int) (w : World) (p : Addr) (hg : 2 < w.heap.size) (hc : w.cell? ⟨2, 0, none⟩ = some (.iface 149 (.pointer (some p))))
    (hn : l.length ≤ 1073741824) (ha : a ≤ 9223372036854775807) (hl : isBytes l) (h : rd .u8 hi w v l) (hhi : hi ≤ w.heap.size) :
    Calls Tryz.prog 99 #[v, .int .i64 a, .int .i64 d] w fun e w' => e = lenRes l a d ∧ Below w.heap.size w w' := by
  have H := Lib.hid h
  have HC := Lib.hid hc
  clear h hc
  cases hld : lenDig d
  · have HL := Lib.hid hld
    rw [lenRes_no hld]
    clear hld
    go_enter Tryz.func99, Tryz.ntmps99
    go_wp2_with (go_at_call 102; refine (isLenDigits_any d _).mono ?_; rw [HL.out]; rintro e w1 ⟨rfl, rfl⟩)
    go_ret3
    exact ⟨rfl, Below.refl _ _⟩
  · have hsz : (⟨(gTxt l a d).toArray⟩ : ByteArray).size ≤ maxLen := Nat.le_trans (gTxt_len l a d) (by decide)
    have HL := Lib.hid hld
    have HY := Lib.hid (lenRes_yes (l := l) (a := a) hld)
    have HB := Lib.hid (fun h => lenRes_bad (l := l) (a := a) hld h)
    clear hld
    go_enter Tryz.func99, Tryz.ntmps99
    go_wp2_with (go_at_call 102; refine (isLenDigits_any d _).mono ?_; rw [HL.out]; rintro e w1 ⟨rfl, rfl⟩)
    refine (implGetBcd_any hi _ l a _ _ hn ha hl H.out hhi).mono ?_
    rintro e w1 ⟨he, hb⟩
    unfold gRes at he
    subst he
    cases hgo : gOk l a d
    · have HG := Lib.hid hgo
      clear hgo
      go_wp2
      go_ret3
      rw [HB.out HG.out]
      exact ⟨rfl, hb⟩
    · have HG := Lib.hid hgo
      clear hgo
      go_wp2_with fail
      refine (implNarrow_any _ _ p (Nat.lt_of_lt_of_le hg hb.size) ((hb.cell (p := ⟨2, 0, none⟩) hg).trans HC.out)).mono ?_
      rintro e w2 ⟨rfl, hb2⟩
      go_wp2
      go_ret3
      rw [HY.out, HG.out]
      exact ⟨rfl, hb.trans (hb2.mono hb.size)⟩
end Go.Proofs.YtdjlhijaadombaaGreatDoor
