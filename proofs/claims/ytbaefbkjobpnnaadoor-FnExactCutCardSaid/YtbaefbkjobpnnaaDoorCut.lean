/- Cut: both functions return the pieces between the spaces, in a new slice; the library's variable MaxLen holds some number. -/
import Derived.Test.YtbaefbkjobpnnaaDoorSplit
import Derived.Test.YtbaefbkjobpnnaaDoorShelf
set_option linter.unusedVariables false
namespace Go.Proofs.YtbaefbkjobpnnaaDoor
open Go.ChangeShapes Go.WideShapes Go.ChangeAt Go.RowKit

/-- a new slice of these strings -/
def rowRes (L : List (List UInt8)) (w : World) (e : Ending) (w' : World) : Prop :=
  ∃ b c : Nat, e = .returned (.slice (some ⟨b, 0, none⟩) L.length c) ∧ w.heap.size ≤ b ∧ b < w'.heap.size ∧ strRow w' b L ∧ strFree w' b L.length ∧ L.length ≤ c ∧ Below w.heap.size w w'
theorem res_owned {L : List (List UInt8)} {w w' : World} {v : Value} {T : TypeId} (hL : L ≠ []) (h : w'.ownsRow w.heap.size T 1 v L.length (L.map strV)) (hb : Below w.heap.size w w') : rowRes L w (.returned v) w' := by
  rcases h.2 with ⟨_, h0⟩ | ⟨g, cap, cur, rfl, hg, hh, h1, h2, h3, h4⟩
  · exact absurd (List.eq_nil_of_length_eq_zero h0) hL
  · refine ⟨g, cap, rfl, hg, (Array.getElem?_eq_some_iff.1 hh).1, fun j x hx => ?_, fun j hj => h.frozenAt j, by omega, hb⟩
    have hj := (List.getElem?_eq_some_iff.1 hx).1
    rw [h.cellAt j (by omega), List.getElem?_map, hx]
    rfl

theorem specCut_any (s : ByteArray) (w : World) (hs : s.size ≤ 1048576) : Calls Tryd.prog 26 #[.string s] w (rowRes (splitL 32 s.data.toList) w) := by
  go_enter Tryd.func26, Tryd.ntmps26
  go_wp2_with fail
  refine (specSplit_any s 32 w hs).mono ?_
  rintro e w1 ⟨v, rfl, hown, hb⟩
  have H := Lib.hid (res_owned (splitL_ne 32 s.data.toList) hown hb)
  clear hown
  go_wp2
  go_ret
  exact H.out

theorem split_res (c : UInt8) (s : ByteArray) (w : World) : rowRes (splitL c s.data.toList) w (.returned (.slice (some ⟨w.heap.size, 0, none⟩) (Lib.countB s ⟨#[c]⟩ + 1) (Lib.countB s ⟨#[c]⟩ + 1)))
    (w.alloc (.cells ((Lib.splitB ⟨#[c]⟩ 0 (Lib.countB s ⟨#[c]⟩) s).map Value.string).toArray 9)) := by
  have hlen := Lib.splitB_all ⟨#[c]⟩ (Nat.le_refl 1) 0 _ s rfl
  have heq := splitB_eq c s
  generalize Lib.splitB ⟨#[c]⟩ 0 (Lib.countB s ⟨#[c]⟩) s = B at hlen heq ⊢
  have hL : (splitL c s.data.toList).length = Lib.countB s ⟨#[c]⟩ + 1 := by rw [← heq, List.length_map, hlen]
  refine ⟨w.heap.size, Lib.countB s ⟨#[c]⟩ + 1, by rw [hL], Nat.le_refl _, by simp, fun j x hx => ?_, fun j hj => ?_, by omega, (Below.refl _ _).alloc (Nat.le_refl _) _⟩
  · rw [← heq, List.getElem?_map, Option.map_eq_some_iff] at hx
    obtain ⟨y, hy, rfl⟩ := hx
    have hh : (w.alloc (.cells (B.map Value.string).toArray 9)).heap[w.heap.size]? = some (.cells (B.map Value.string).toArray 9) := by
      show (w.heap.push _)[w.heap.size]? = _
      simp
    simp only [World.cell?, hh]
    simp [hy]
  · have hh : (w.alloc (.cells (B.map Value.string).toArray 9)).heap[w.heap.size]? = some (.cells (B.map Value.string).toArray 9) := by
      show (w.heap.push _)[w.heap.size]? = _
      simp
    unfold World.frozen?
    rw [hh]
    simp

theorem implCut_any (s : ByteArray) (w : World) (m : Int) (hs : s.size ≤ 1048576) (hm : w.cell? ⟨4, 0, none⟩ = some (.int .i64 m)) : Calls Tryd.prog 27 #[.string s] w (rowRes (splitL 32 s.data.toList) w) := by
  go_enter Tryd.func27, Tryd.ntmps27
  go_wp2_with fail
  refine (Tryd.strings_Split s ⟨#[32]⟩ m w (by omega) hm (Nat.le_refl 1)).mono ?_
  rintro e w1 ⟨rfl, rfl⟩
  have H := Lib.hid (split_res 32 s w)
  go_wp2
  go_ret
  exact H.out

theorem mark_start {w : World} {b : Nat} {L : List (List UInt8)} (h1 : strRow w b L) (h2 : strFree w b L.length) : marked w b 1 0 L.length := fun j hj =>
  ⟨h2 j hj, ⟨_, h1 j L[j] (List.getElem?_eq_getElem hj)⟩, fun h => by omega⟩
theorem marked.wrote {w w' : World} {b c : Nat} {k : Int} {i n : Nat} (h : marked w b k i n) (hb : Below c w w') (hlt : b < c) : marked w' b k i n := fun j hj =>
  ⟨(hb.frozen (p := ⟨b, j, none⟩) hlt).trans (h j hj).1, by obtain ⟨v, hv⟩ := (h j hj).2.1; exact ⟨v, (hb.cell (p := ⟨b, j, none⟩) hlt).trans hv⟩, fun hi => (hb.cell (p := ⟨b, j, none⟩) hlt).trans ((h j hj).2.2 hi)⟩

set_option maxRecDepth 100000 in
set_option maxHeartbeats 1600000 in
theorem cut_walk (s : ByteArray) (w : World) (m : Int) (hm : w.cell? ⟨4, 0, none⟩ = some (.int .i64 m)) (hlim : ∀ s : ByteArray, s.size ≤ 1048576 → (splitL 32 s.data.toList).length ≤ 2000000) :
    Calls Tryd.prog 10 #[.string s] w fun e w' => e = .returned (.bool true) ∧ Below w.heap.size w w' := by
  by_cases hlen : (1048576 : Int) < (s.size : Int)
  · go_enter Tryd.func10, Tryd.ntmps10
    go_wp2
    go_ret
    exact ⟨rfl, Below.refl _ _⟩
  have hs : s.size ≤ 1048576 := by omega
  have hgm : 4 < w.heap.size := by
    rcases Nat.lt_or_ge 4 w.heap.size with h | h
    · exact h
    · simp [World.cell?, Array.getElem?_eq_none h] at hm
  have hL := hlim s hs
  have HM := Lib.hid hm
  clear hm hlim
  go_enter Tryd.func10, Tryd.ntmps10
  go_wp2_with fail
  refine (specCut_any s w hs).mono ?_
  rintro e w1 ⟨b0, c0, rfl, hb0, hs0, hr0, hf0, -, hB1⟩
  go_wp2_with fail
  refine (implCut_any s w1 m hs ((hB1.cell (p := ⟨4, 0, none⟩) hgm).trans HM.out)).mono ?_
  rintro e w2 ⟨b1, c1, rfl, hb1, hs1, hr1, hf1, -, hB2⟩
  generalize hLL : splitL 32 s.data.toList = L at hr0 hf0 hr1 hf1 hL ⊢
  have HL := Lib.hid hLL
  clear hLL
  have hr02 := hr0.below hB2 hs0
  have hBB2 := hB1.trans (hB2.mono hB1.size)
  have hs02 : b0 < w2.heap.size := Nat.lt_of_lt_of_le hs0 hB2.size
  go_wp2_with fail
  refine (eqStrings_any b1 b0 L.length c1 c0 L w2 rfl hL hr1 hr02).mono ?_
  rintro e w3 ⟨rfl, hB3⟩
  have hm3 := (mark_start hr1 hf1).below hB3 hs1
  have hr03 := hr02.below hB3 hs02
  have hBB3 := hBB2.trans (hB3.mono hBB2.size)
  have hs13 : b1 < w3.heap.size := Nat.lt_of_lt_of_le hs1 hB3.size
  have hs03 : b0 < w3.heap.size := Nat.lt_of_lt_of_le hs02 hB3.size
  go_wp2_with fail
  refine (markStrings_any b1 L.length c1 1 w3 hL (by decide) (by decide) hs13 hm3).mono ?_
  rintro e w4 ⟨rfl, hm4, hw4⟩
  have hne : b0 ≠ b1 := by omega
  have hr04 := hw4.row hs03 hne hr03
  have hBB4 := hBB3.trans (hw4.below (B := w.heap.size) (by have := hB1.size; omega) hBB3.size)
  have hs14 : b1 < w4.heap.size := Nat.lt_of_lt_of_le hs13 hw4.size
  have hs04 : b0 < w4.heap.size := Nat.lt_of_lt_of_le hs03 hw4.size
  go_wp2_with fail
  refine (heldStrings_any b1 L.length c1 1 w4 hL (by decide) (by decide) hs14 hm4).mono ?_
  rintro e w5 ⟨rfl, hB5⟩
  have hm5 := hm4.below hB5 hs14
  have hr05 := hr04.below hB5 hs04
  have hBB5 := hBB4.trans (hB5.mono hBB4.size)
  have hs15 : b1 < w5.heap.size := Nat.lt_of_lt_of_le hs14 hB5.size
  have hs05 : b0 < w5.heap.size := Nat.lt_of_lt_of_le hs04 hB5.size
  have hm2 := ((hBB5.cell (p := ⟨4, 0, none⟩) hgm).trans HM.out)
  go_wp2_with fail
  refine (implCut_any s w5 m hs hm2).mono ?_
  rintro e w6 ⟨b2, c2, rfl, hb2, hs2, hr2, hf2, -, hB6⟩
  rw [HL.out] at hr2 hf2 ⊢
  have hm6 := hm5.below hB6 hs15
  have hr06 := hr05.below hB6 hs05
  have hBB6 := hBB5.trans (hB6.mono hBB5.size)
  have hs16 : b1 < w6.heap.size := Nat.lt_of_lt_of_le hs15 hB6.size
  clear hm2
  go_wp2_with fail
  refine (eqStrings_any b2 b0 L.length c2 c0 L w6 rfl hL hr2 hr06).mono ?_
  rintro e w7 ⟨rfl, hB7⟩
  have hm7 := hm6.below hB7 hs16
  have hBB7 := hBB6.trans (hB7.mono hBB6.size)
  have hs17 : b1 < w7.heap.size := Nat.lt_of_lt_of_le hs16 hB7.size
  go_wp2_with fail
  refine (heldStrings_any b1 L.length c1 1 w7 hL (by decide) (by decide) hs17 hm7).mono ?_
  rintro e w8 ⟨rfl, hB8⟩
  have hBB8 := hBB7.trans (hB8.mono hBB7.size)
  clear hr0 hf0 hr1 hf1 hr02 hm3 hr03 hm4 hr04 hm5 hr05 hr2 hf2 hm6 hr06 hm7
  go_wp2
  go_ret
  exact ⟨rfl, hBB8⟩

theorem ahead_len (p : List UInt8) : ∀ l : List (List UInt8), l ≠ [] → (ahead p l).length = l.length
  | [], h => absurd rfl h
  | a :: l, _ => by simp [ahead]
theorem split_len (c : UInt8) : ∀ l : List UInt8, (splitL c l).length ≤ l.length + 1
  | [] => by simp [splitL]
  | b :: l => by
    have := split_len c l
    unfold splitL
    split
    · simp; omega
    · rw [ahead_len _ _ (splitL_ne c l)]; simp; omega
theorem split_lim (c : UInt8) (s : ByteArray) (h : s.size ≤ 1048576) : (splitL c s.data.toList).length ≤ 2000000 := by
  have h1 := split_len c s.data.toList
  have h2 : s.data.toList.length = s.size := by simp
  omega
end Go.Proofs.YtbaefbkjobpnnaaDoor
