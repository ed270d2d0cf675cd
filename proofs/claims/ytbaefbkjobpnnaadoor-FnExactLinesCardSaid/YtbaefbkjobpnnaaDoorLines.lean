/- Lines: both functions return the pieces between the line ends, an empty last one left out, in a new slice; the library's variable MaxLen holds some number. -/
import Derived.Test.YtbaefbkjobpnnaaDoorCut
set_option linter.unusedVariables false
namespace Go.Proofs.YtbaefbkjobpnnaaDoor
open Go.ChangeShapes Go.WideShapes Go.ChangeAt Go.RowKit

/-- an empty last piece left out -/
def dropEnd (L : List (List UInt8)) : List (List UInt8) := if L.getLast? = some [] then L.dropLast else L
theorem dropEnd_nil (M : List (List UInt8)) : dropEnd (M ++ [[]]) = M := by simp [dropEnd]
theorem dropEnd_ne (M : List (List UInt8)) (a : UInt8) (x : List UInt8) : dropEnd (M ++ [a :: x]) = M ++ [a :: x] := by simp [dropEnd]
theorem rowRes.short {M : List (List UInt8)} {x : List UInt8} {w w' : World} {b n c : Nat} (h : rowRes (M ++ [x]) w (.returned (.slice (some ⟨b, 0, none⟩) n c)) w') : rowRes M w (.returned (.slice (some ⟨b, 0, none⟩) M.length c)) w' := by
  obtain ⟨b', c', he, h1, h2, h3, h4, h6, h5⟩ := h
  obtain ⟨rfl, rfl⟩ : b = b' ∧ c = c' := by simpa using he |> fun h => by simp at h; exact ⟨h.1, h.2.2⟩
  refine ⟨b, c, rfl, h1, h2, fun j y hy => h3 j y ?_, fun j hj => h4 j (by simp; omega), by simp at h6; omega, h5⟩
  rw [List.getElem?_append_left (List.getElem?_eq_some_iff.1 hy).1]
  exact hy
def linesL (s : ByteArray) : List (List UInt8) := dropEnd (splitL 10 s.data.toList)
theorem lines_lim (s : ByteArray) (h : s.size ≤ 1048576) : (linesL s).length ≤ 2000000 := by
  have h1 := split_lim 10 s h
  unfold linesL dropEnd
  split
  · simp; omega
  · exact h1
theorem ends_in (s : ByteArray) : ∃ M x, splitL 10 s.data.toList = M ++ [x] := ⟨_, _, (List.dropLast_concat_getLast (splitL_ne 10 s.data.toList)).symm⟩
theorem beq_cons (a : UInt8) (x : List UInt8) : ((⟨(a :: x).toArray⟩ : ByteArray) == (⟨#[]⟩ : ByteArray)) = false := by
  show ((a :: x).toArray == #[]) = false
  simp

set_option maxRecDepth 100000 in
theorem specLines_any (s : ByteArray) (w : World) (hs : s.size ≤ 1048576) : Calls Tryd.prog 31 #[.string s] w (rowRes (linesL s) w) := by
  obtain ⟨M, x, hM⟩ := ends_in s
  have hlim := split_lim 10 s hs
  have HL : RowKit.Hid (linesL s = dropEnd (M ++ [x])) := Lib.hid (by unfold linesL; rw [hM])
  go_enter Tryd.func31, Tryd.ntmps31
  go_wp2_with fail
  refine (specSplit_any s 10 w hs).mono ?_
  rintro e w1 ⟨v, rfl, hown, hb⟩
  have H0 := res_owned (splitL_ne 10 s.data.toList) hown hb
  rw [hM] at H0 hlim
  clear hown hM
  have H := Lib.hid H0
  obtain ⟨b, c, he, h1, h2, h3, h4, h6, h5⟩ := H0
  injection he with he
  subst he
  have hx := h3 M.length x (by simp)
  clear h3 h4
  simp only [List.length_append, List.length_cons, List.length_nil, Nat.zero_add] at hlim h6 ⊢
  have h7 : M.length ≤ c := by omega
  cases x with
  | nil =>
    go_wp2
    go_ret
    rw [HL.out, dropEnd_nil]
    exact H.out.short
  | cons a y =>
    have hne := beq_cons a y
    go_wp2
    go_ret
    rw [HL.out, dropEnd_ne]
    have hf := H.out
    rw [show (M ++ [a :: y]).length = M.length + 1 by simp] at hf
    exact hf

set_option maxRecDepth 100000 in
theorem implLines_any (s : ByteArray) (w : World) (m : Int) (hs : s.size ≤ 1048576) (hm : w.cell? ⟨4, 0, none⟩ = some (.int .i64 m)) : Calls Tryd.prog 32 #[.string s] w (rowRes (linesL s) w) := by
  obtain ⟨M, x, hM⟩ := ends_in s
  have hlim := split_lim 10 s hs
  have HL : RowKit.Hid (linesL s = dropEnd (M ++ [x])) := Lib.hid (by unfold linesL; rw [hM])
  go_enter Tryd.func32, Tryd.ntmps32
  go_wp2_with fail
  refine (Tryd.strings_Split s ⟨#[10]⟩ m w (by omega) hm (Nat.le_refl 1)).mono ?_
  rintro e w1 ⟨rfl, rfl⟩
  have H0 := split_res 10 s w
  have H := Lib.hid H0
  generalize (w.alloc (.cells ((Lib.splitB ⟨#[10]⟩ 0 (Lib.countB s ⟨#[10]⟩) s).map Value.string).toArray 9)) = w1 at H0 H ⊢
  rw [hM] at H0 H hlim
  clear hM
  obtain ⟨b, c, he, h1, h2, h3, h4, h6, h5⟩ := H0
  injection he with he
  rw [he] at H ⊢
  clear he
  have hx := h3 M.length x (by simp)
  clear h3 h4
  simp only [List.length_append, List.length_cons, List.length_nil, Nat.zero_add] at hlim h6 ⊢
  have h7 : M.length ≤ c := by omega
  cases x with
  | nil =>
    go_wp2
    go_ret
    rw [HL.out, dropEnd_nil]
    exact H.out.short
  | cons a y =>
    have hne := beq_cons a y
    go_wp2
    go_ret
    rw [HL.out, dropEnd_ne]
    have hf := H.out
    rw [show (M ++ [a :: y]).length = M.length + 1 by simp] at hf
    exact hf

set_option maxRecDepth 100000 in
set_option maxHeartbeats 1600000 in
theorem lines_walk (s : ByteArray) (w : World) (m : Int) (hm : w.cell? ⟨4, 0, none⟩ = some (.int .i64 m)) :
    Calls Tryd.prog 11 #[.string s] w fun e w' => e = .returned (.bool true) ∧ Below w.heap.size w w' := by
  by_cases hlen : (1048576 : Int) < (s.size : Int)
  · go_enter Tryd.func11, Tryd.ntmps11
    go_wp2
    go_ret
    exact ⟨rfl, Below.refl _ _⟩
  have hs : s.size ≤ 1048576 := by omega
  have hgm : 4 < w.heap.size := by
    rcases Nat.lt_or_ge 4 w.heap.size with h | h
    · exact h
    · simp [World.cell?, Array.getElem?_eq_none h] at hm
  have hL : (linesL s).length ≤ 2000000 := lines_lim s hs
  have HM := Lib.hid hm
  clear hm
  go_enter Tryd.func11, Tryd.ntmps11
  go_wp2_with fail
  refine (specLines_any s w hs).mono ?_
  rintro e w1 ⟨b0, c0, rfl, hb0, hs0, hr0, hf0, -, hB1⟩
  go_wp2_with fail
  refine (implLines_any s w1 m hs ((hB1.cell (p := ⟨4, 0, none⟩) hgm).trans HM.out)).mono ?_
  rintro e w2 ⟨b1, c1, rfl, hb1, hs1, hr1, hf1, -, hB2⟩
  generalize hLL : linesL s = L at hr0 hf0 hr1 hf1 hL ⊢
  have HL := Lib.hid hLL
  clear hLL
  have hr02 := hr0.below hB2 hs0
  have hBB2 := hB1.trans (hB2.mono hB1.size)
  have hs02 : b0 < w2.heap.size := Nat.lt_of_lt_of_le hs0 hB2.size
  go_wp2_with fail
  refine (eqStrings_any b1 b0 L.length c1 c0 L w2 rfl hL hr1 hr02).mono ?_
  rintro e w3 ⟨rfl, hB3⟩
  have hm3 := (mark_start hr1 hf1).below hB3 hs1
  have hr03 := hr02.below hB3 hs02
  have hBB3 := hBB2.trans (hB3.mono hBB2.size)
  have hs13 : b1 < w3.heap.size := Nat.lt_of_lt_of_le hs1 hB3.size
  have hs03 : b0 < w3.heap.size := Nat.lt_of_lt_of_le hs02 hB3.size
  go_wp2_with fail
  refine (markStrings_any b1 L.length c1 1 w3 hL (by decide) (by decide) hs13 hm3).mono ?_
  rintro e w4 ⟨rfl, hm4, hw4⟩
  have hne : b0 ≠ b1 := by omega
  have hr04 := hw4.row hs03 hne hr03
  have hBB4 := hBB3.trans (hw4.below (B := w.heap.size) (by have := hB1.size; omega) hBB3.size)
  have hs14 : b1 < w4.heap.size := Nat.lt_of_lt_of_le hs13 hw4.size
  have hs04 : b0 < w4.heap.size := Nat.lt_of_lt_of_le hs03 hw4.size
  go_wp2_with fail
  refine (heldStrings_any b1 L.length c1 1 w4 hL (by decide) (by decide) hs14 hm4).mono ?_
  rintro e w5 ⟨rfl, hB5⟩
  have hm5 := hm4.below hB5 hs14
  have hr05 := hr04.below hB5 hs04
  have hBB5 := hBB4.trans (hB5.mono hBB4.size)
  have hs15 : b1 < w5.heap.size := Nat.lt_of_lt_of_le hs14 hB5.size
  have hs05 : b0 < w5.heap.size := Nat.lt_of_lt_of_le hs04 hB5.size
  have hm2 := ((hBB5.cell (p := ⟨4, 0, none⟩) hgm).trans HM.out)
  go_wp2_with fail
  refine (implLines_any s w5 m hs hm2).mono ?_
  rintro e w6 ⟨b2, c2, rfl, hb2, hs2, hr2, hf2, -, hB6⟩
  rw [HL.out] at hr2 hf2 ⊢
  have hm6 := hm5.below hB6 hs15
  have hr06 := hr05.below hB6 hs05
  have hBB6 := hBB5.trans (hB6.mono hBB5.size)
  have hs16 : b1 < w6.heap.size := Nat.lt_of_lt_of_le hs15 hB6.size
  clear hm2
  go_wp2_with fail
  refine (eqStrings_any b2 b0 L.length c2 c0 L w6 rfl hL hr2 hr06).mono ?_
  rintro e w7 ⟨rfl, hB7⟩
  have hm7 := hm6.below hB7 hs16
  have hBB7 := hBB6.trans (hB7.mono hBB6.size)
  have hs17 : b1 < w7.heap.size := Nat.lt_of_lt_of_le hs16 hB7.size
  go_wp2_with fail
  refine (heldStrings_any b1 L.length c1 1 w7 hL (by decide) (by decide) hs17 hm7).mono ?_
  rintro e w8 ⟨rfl, hB8⟩
  have hBB8 := hBB7.trans (hB8.mono hBB7.size)
  clear hr0 hf0 hr1 hf1 hr02 hm3 hr03 hm4 hr04 hm5 hr05 hr2 hf2 hm6 hr06 hm7
  go_wp2
  go_ret
  exact ⟨rfl, hBB8⟩

end Go.Proofs.YtbaefbkjobpnnaaDoor
