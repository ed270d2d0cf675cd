/- RsText, ReplyMti, TextRs and MtiKnown of the reference; no conditions. -/
import Derived.Test.YtdjlhijaadombaaReplyP
import Derived.Test.YtdjlhijaadombaaDigS
import Derived.Test.YtdjlhijaadombaaConv
import Derived.RegionTactic
set_option linter.unusedVariables false
namespace Go.Proofs.Ytdjlhijaadombaa
open Go.ChangeShapes Go.WideShapes Go.ChangeAt Go.RowKit

/-- block p holds these texts -/
def strsAt (w : World) (p : Nat) (L : List (List UInt8)) : Prop := ∀ (j : Nat) (x : List UInt8), L[j]? = some x → w.cell? ⟨p, j, none⟩ = some (.string ⟨x.toArray⟩)
set_option maxRecDepth 100000 in
theorem strs_at (w : World) (T : TypeId) (L : List (List UInt8)) (us : Array Value) (hu : us = (L.map fun x => Value.string ⟨x.toArray⟩).toArray) : strsAt (w.alloc (.cells us T)) w.heap.size L := by
  subst hu
  intro j x hx
  rw [cell_of_row _ _ j _ _ (0, 0) (heap_alloc_new _ _)]
  simp [hx]
set_option maxRecDepth 100000 in
theorem conv_one_drew (W : World) (c : Int) (T : TypeId) : (convert 24 9 (.slice (some ⟨W.heap.size, 0, none⟩) 1 1)).run Try.prog (W.alloc (.cells #[.int .u8 c] T)).drew = .ok (.string ⟨#[UInt8.ofNat c.toNat]⟩) (W.alloc (.cells #[.int .u8 c] T)).drew := conv_one W.drew c T
set_option maxRecDepth 100000 in
theorem str_no {a b : ByteArray} (h : a ≠ b) : (a.toList == b.toList) = false := by
  rw [beq_eq_false_iff_ne, ByteArray.toList_eq, ByteArray.toList_eq]
  intro e
  exact h (ByteArray.ext (Array.toList_inj.1 e))
set_option maxRecDepth 100000 in
set_option maxHeartbeats 800000 in
theorem specReplyMti_any (s : ByteArray) (w : World) (hs : s.size ≤ maxLen) : Calls Try.prog 7 #[.string s] w fun e w' => e = .returned (.string (replyMti s)) ∧ Below w.heap.size w w' := by
  cases hd : digs s
  · have hr : replyMti s = ⟨#[]⟩ := by unfold replyMti; rw [if_neg (by simp [hd])]
    rw [hr]
    have HDD := Lib.hid hd
    clear hd hr
    go_enter Try.func7, Try.ntmps7
    go_wp2_with fail
    refine (specDigits_any s _ hs).mono ?_
    rw [HDD.out]
    rintro e w1 ⟨rfl, rfl⟩
    go_wp2
    go_ret
    exact ⟨rfl, Below.refl _ _⟩
  have HDD := Lib.hid hd
  by_cases h4 : s.size = 4
  · have h2 : 2 < s.size := by omega
    have hg := digs_get hd 2 h2
    have h4' : ((s.size : Int) != 4) = false := by simp [h4]
    by_cases ho : (s[2]'h2).toNat % 2 = 1
    · rw [replyMti_odd hd h4 ho]
      have ho' : (((s[2]'h2).toNat : Int) % 2 == 1) = true := by simp; omega
      clear hd
      go_enter Try.func7, Try.ntmps7
      go_wp2_with fail
      refine (specDigits_any _ _ hs).mono ?_
      rw [HDD.out]
      rintro e w1 ⟨rfl, rfl⟩
      go_wp2
      go_ret
      exact ⟨rfl, Below.refl _ _⟩
    · have HR := Lib.hid (replyMti_even hd h4 ho)
      have ho' : (((s[2]'h2).toNat : Int) % 2 == 1) = false := by simp; omega
      clear hd
      have hwr : IntKind.u8.wrap (((s[2]'h2).toNat : Int) + 1) = ((s[2]'h2).toNat : Int) + 1 := IntWalk.u8_in _ (by omega)
      have hof : UInt8.ofNat (((s[2]'h2).toNat : Int) + 1).toNat = s[2]'h2 + 1 := by
        apply UInt8.toNat.inj
        rw [UInt8.toNat_ofNat', UInt8.toNat_add]
        have : (1 : UInt8).toNat = 1 := rfl
        omega
      have hcv := fun (W : World) (c : Int) (T : TypeId) => conv_one_drew W c T
      go_enter Try.func7, Try.ntmps7
      go_wp2_with fail
      refine (specDigits_any _ _ hs).mono ?_
      rw [HDD.out]
      rintro e w1 ⟨rfl, rfl⟩
      go_wp2
      go_region
      go_wp2
      go_ret
      exact ⟨by rw [HR.out]; rfl, ((Below.refl _ _).alloc (Nat.le_refl _) _).drew⟩
  · have hr : replyMti s = ⟨#[]⟩ := by unfold replyMti; rw [if_neg (by simp [h4])]
    rw [hr]
    have h4' : ((s.size : Int) != 4) = true := by simpa using fun h => h4 (by omega)
    clear hd hr h4
    go_enter Try.func7, Try.ntmps7
    go_wp2_with fail
    refine (specDigits_any s _ hs).mono ?_
    rw [HDD.out]
    rintro e w1 ⟨rfl, rfl⟩
    go_wp2
    go_ret
    exact ⟨rfl, Below.refl _ _⟩

set_option maxRecDepth 100000 in
theorem specMtiKnown_any (s : ByteArray) (w : World) : Calls Try.prog 5 #[.string s] w fun e w' => e = .returned (.bool (mtiKn s)) ∧ w = w' := by
  have HM : Hid (mtiKn s = (s.toList == [48, 49, 48, 48] || s.toList == [48, 50, 48, 48] || s.toList == [48, 50, 50, 48])) := Lib.hid rfl
  go_enter Try.func5, Try.ntmps5
  go_wp2
  all_goals go_ret
  all_goals (refine ⟨?_, rfl⟩; rw [HM.out]; simp_all)
end Go.Proofs.Ytdjlhijaadombaa
