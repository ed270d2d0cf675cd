/- RsText, ReplyMti, TextRs and MtiKnown of the reference; no conditions. -/
import Derived.Test.YtdjlhijaadombaaDoorReplyP
import Derived.Test.YtdjlhijaadombaaDoorDigS
import Derived.Test.YtdjlhijaadombaaDoorConv
import Derived.RegionTactic
set_option linter.unusedVariables false
namespace Go.Proofs.YtdjlhijaadombaaDoor
open Go.ChangeShapes Go.WideShapes Go.ChangeAt Go.RowKit

/-- block p holds these texts -/
def strsAt (w : World) (p : Nat) (L : List (List UInt8)) : Prop := ∀ (j : Nat) (x : List UInt8), L[j]? = some x → w.cell? ⟨p, j, none⟩ = some (.string ⟨x.toArray⟩)
set_option maxRecDepth 100000 in
theorem strs_at (w : World) (T : TypeId) (L : List (List UInt8)) (us : Array Value) (hu : us = (L.map fun x => Value.string ⟨x.toArray⟩).toArray) : strsAt (w.alloc (.cells us T)) w.heap.size L := by
  subst hu
  intro j x hx
  rw [cell_of_row _ _ j _ _ (0, 0) (heap_alloc_new _ _)]
  simp [hx]
set_option maxRecDepth 100000 in
theorem conv_one_drew (W : World) (c : Int) (T : TypeId) : (convert 46 9 (.slice (some ⟨W.heap.size, 0, none⟩) 1 1)).run Tryd.prog (W.alloc (.cells #[.int .u8 c] T)).drew = .ok (.string ⟨#[UInt8.ofNat c.toNat]⟩) (W.alloc (.cells #[.int .u8 c] T)).drew := conv_one W.drew c T
set_option maxRecDepth 100000 in
theorem str_no {a b : ByteArray} (h : a ≠ b) : (a.toList == b.toList) = false := by
  rw [beq_eq_false_iff_ne, ByteArray.toList_eq, ByteArray.toList_eq]
  intro e
  exact h (ByteArray.ext (Array.toList_inj.1 e))
set_option maxRecDepth 100000 in
theorem specIn_any (n lo hi : Int) (w : World) : Calls Tryd.prog 16 #[.int .i64 n, .int .i64 lo, .int .i64 hi] w fun e w' => e = .returned (.bool (decide (lo ≤ n ∧ n ≤ hi))) ∧ w = w' := by
  by_cases h0 : lo ≤ n
  · by_cases h1 : n ≤ hi
    · have hd : Hid (decide (lo ≤ n ∧ n ≤ hi) = true) := Lib.hid (by simp [h0, h1])
      rw [hd.out]
      go_enter Tryd.func16, Tryd.ntmps16
      go_wp2
      go_ret
      exact ⟨rfl, rfl⟩
    · have hd : Hid (decide (lo ≤ n ∧ n ≤ hi) = false) := Lib.hid (by simp [h1])
      rw [hd.out]
      go_enter Tryd.func16, Tryd.ntmps16
      go_wp2
      go_ret
      exact ⟨rfl, rfl⟩
  · have hd : Hid (decide (lo ≤ n ∧ n ≤ hi) = false) := Lib.hid (by simp [h0])
    rw [hd.out]
    go_enter Tryd.func16, Tryd.ntmps16
    go_wp2
    go_ret
    exact ⟨rfl, rfl⟩
set_option maxRecDepth 100000 in
theorem specTexts_any (w : World) : Calls Tryd.prog 15 #[] w fun e w' => e = .returned (.slice (some ⟨w.heap.size, 0, none⟩) 11 11) ∧ strsAt w' w.heap.size rsTexts ∧ Below w.heap.size w w' ∧ w.heap.size < w'.heap.size := by
  go_enter Tryd.func15, Tryd.ntmps15
  go_wp2
  go_ret
  exact ⟨rfl, strs_at _ _ rsTexts _ (by rfl), (Below.refl _ _).alloc (Nat.le_refl _) _, by simp⟩

set_option maxRecDepth 100000 in
set_option maxHeartbeats 800000 in
theorem specRsText_any (code : Int) (w : World) : Calls Tryd.prog 6 #[.int .i64 code] w fun e w' => e = .returned (.string (rsText code)) ∧ Below w.heap.size w w' := by
  by_cases h : 0 ≤ code ∧ code ≤ 10
  · obtain ⟨k, rfl⟩ := Int.eq_ofNat_of_zero_le h.1
    have hk : k < 11 := by omega
    obtain ⟨t, hx, hr⟩ := rsText_at hk
    have HX := Lib.hid hx
    rw [hr]
    clear hr hx
    have HI : Hid (decide (0 ≤ (k : Int) ∧ (k : Int) ≤ 10) = true) := Lib.hid (decide_eq_true h)
    clear h
    go_enter Tryd.func6, Tryd.ntmps6
    go_wp2_with fail
    refine (specTexts_any w).mono ?_
    rintro e w1 ⟨rfl, ht, hb, hz⟩
    have hcell := ht k _ HX.out
    clear ht
    have HB := Lib.hid hb
    clear hb
    have g1 : (k : Int) < 11 := by omega
    go_wp2_with fail
    refine (specIn_any _ _ _ _).mono ?_
    rw [HI.out]
    rintro e w2 ⟨rfl, rfl⟩
    go_wp2
    go_ret
    exact ⟨rfl, HB.out⟩
  · have HR := Lib.hid (rsText_out h)
    rw [HR.out]
    have HI : Hid (decide (0 ≤ code ∧ code ≤ 10) = false) := Lib.hid (decide_eq_false h)
    clear h
    go_enter Tryd.func6, Tryd.ntmps6
    go_wp2_with fail
    refine (specTexts_any w).mono ?_
    rintro e w1 ⟨rfl, ht, hb, hz⟩
    have HB := Lib.hid hb
    clear hb ht
    go_wp2_with fail
    refine (specIn_any _ _ _ _).mono ?_
    rw [HI.out]
    rintro e w2 ⟨rfl, rfl⟩
    go_wp2
    go_ret
    exact ⟨rfl, HB.out⟩

set_option maxRecDepth 100000 in
set_option maxHeartbeats 800000 in
theorem specReplyMti_any (s : ByteArray) (w : World) (hs : s.size ≤ maxLen) : Calls Tryd.prog 17 #[.string s] w fun e w' => e = .returned (.string (replyMti s)) ∧ Below w.heap.size w w' := by
  cases hd : digs s
  · have hr : replyMti s = ⟨#[]⟩ := by unfold replyMti; rw [if_neg (by simp [hd])]
    rw [hr]
    have HDD := Lib.hid hd
    clear hd hr
    go_enter Tryd.func17, Tryd.ntmps17
    go_wp2_with fail
    refine (specDigits_any s _ hs).mono ?_
    rw [HDD.out]
    rintro e w1 ⟨rfl, rfl⟩
    go_wp2
    go_ret
    exact ⟨rfl, Below.refl _ _⟩
  have HDD := Lib.hid hd
  by_cases h4 : s.size = 4
  · have h2 : 2 < s.size := by omega
    have hg := digs_get hd 2 h2
    have h4' : ((s.size : Int) != 4) = false := by simp [h4]
    by_cases ho : (s[2]'h2).toNat % 2 = 1
    · rw [replyMti_odd hd h4 ho]
      have ho' : (((s[2]'h2).toNat : Int) % 2 == 1) = true := by simp; omega
      clear hd
      go_enter Tryd.func17, Tryd.ntmps17
      go_wp2_with fail
      refine (specDigits_any _ _ hs).mono ?_
      rw [HDD.out]
      rintro e w1 ⟨rfl, rfl⟩
      go_wp2
      go_ret
      exact ⟨rfl, Below.refl _ _⟩
    · have HR := Lib.hid (replyMti_even hd h4 ho)
      have ho' : (((s[2]'h2).toNat : Int) % 2 == 1) = false := by simp; omega
      clear hd
      have hwr : IntKind.u8.wrap (((s[2]'h2).toNat : Int) + 1) = ((s[2]'h2).toNat : Int) + 1 := IntWalk.u8_in _ (by omega)
      have hof : UInt8.ofNat (((s[2]'h2).toNat : Int) + 1).toNat = s[2]'h2 + 1 := by
        apply UInt8.toNat.inj
        rw [UInt8.toNat_ofNat', UInt8.toNat_add]
        have : (1 : UInt8).toNat = 1 := rfl
        omega
      have hcv := fun (W : World) (c : Int) (T : TypeId) => conv_one_drew W c T
      go_enter Tryd.func17, Tryd.ntmps17
      go_wp2_with fail
      refine (specDigits_any _ _ hs).mono ?_
      rw [HDD.out]
      rintro e w1 ⟨rfl, rfl⟩
      go_wp2
      go_region
      go_wp2
      go_ret
      exact ⟨by rw [HR.out]; rfl, ((Below.refl _ _).alloc (Nat.le_refl _) _).drew⟩
  · have hr : replyMti s = ⟨#[]⟩ := by unfold replyMti; rw [if_neg (by simp [h4])]
    rw [hr]
    have h4' : ((s.size : Int) != 4) = true := by simpa using fun h => h4 (by omega)
    clear hd hr h4
    go_enter Tryd.func17, Tryd.ntmps17
    go_wp2_with fail
    refine (specDigits_any s _ hs).mono ?_
    rw [HDD.out]
    rintro e w1 ⟨rfl, rfl⟩
    go_wp2
    go_ret
    exact ⟨rfl, Below.refl _ _⟩

set_option maxRecDepth 100000 in
set_option maxHeartbeats 800000 in
theorem specTextRs_any (s : ByteArray) (w : World) : Calls Tryd.prog 8 #[.string s] w fun e w' => e = .returned (.tuple #[.int .i64 (textRs s).1, .bool (textRs s).2]) ∧ Below w.heap.size w w' := by
  go_enter Tryd.func8, Tryd.ntmps8
  go_wp2_with fail
  refine (specTexts_any w).mono ?_
  rintro e w1 ⟨rfl, ht, hb, hz⟩
  have HT := Lib.hid ht
  have HB := Lib.hid hb
  clear ht hb
  go_wp2
  go_loop [8] (fun iv => ∃ i : Nat, i ≤ 11 ∧ iv = .int .i64 i ∧ Hid (∀ j y, j < i → rsTexts[j]? = some y → (⟨y.toArray⟩ : ByteArray) ≠ s)) (fun iv => 11 - (intOf iv).toNat)
  case atStart => exact ⟨0, Nat.zero_le _, rfl, Lib.hid (fun j y hj => absurd hj (by omega))⟩
  case round =>
    obtain ⟨i, hi, rfl, HN⟩ := hrel
    by_cases hin : i < 11
    · obtain ⟨t, hx, -⟩ := rsText_at hin
      have hcell := HT.out i t hx
      have HX := Lib.hid hx
      have g1 : (i : Int) < 11 := by omega
      clear hx
      by_cases he : (⟨t.toArray⟩ : ByteArray) = s
      · have HR := Lib.hid (textRs_hit HX.out he HN.out)
        have he' : (t == s.toList) = true := by rw [beq_iff_eq, ← he, ByteArray.toList_eq]
        clear he
        go_wp2
        go_ret2
        exact ⟨by rw [HR.out]; rfl, HB.out⟩
      · have he' : (t == s.toList) = false := by have := str_no he; rwa [ByteArray.toList_eq] at this
        have HE := Lib.hid he
        clear he
        go_wp2
        go_round
        case rel => exact ⟨i + 1, by omega, by go_num, Lib.hid (fun j y hj hy => by
          rcases Nat.lt_succ_iff_lt_or_eq.1 hj with h | rfl
          · exact HN.out j y h hy
          · rw [HX.out] at hy; cases hy; exact HE.out)⟩
        case measure => simp [intOf] <;> omega
    · obtain rfl : i = 11 := by omega
      have HR := Lib.hid (textRs_none HN.out)
      go_wp2
      go_ret2
      exact ⟨by rw [HR.out]; rfl, HB.out⟩
end Go.Proofs.YtdjlhijaadombaaDoor
