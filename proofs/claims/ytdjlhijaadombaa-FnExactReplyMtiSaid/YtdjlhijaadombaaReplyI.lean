/- MtiKnown, ReplyMti and isRepeated of the program; no conditions. -/
import Derived.Test.YtdjlhijaadombaaReplyS
import Derived.Test.YtdjlhijaadombaaMti
import Derived.Test.YtdjlhijaadombaaConvB
set_option linter.unusedVariables false
namespace Go.Proofs.Ytdjlhijaadombaa
open Go.ChangeShapes Go.WideShapes Go.ChangeAt Go.RowKit

set_option maxRecDepth 100000 in
theorem implMtiKnown_any (s : ByteArray) (w : World) (hs : s.size ≤ maxLen) : Calls Try.prog 6 #[.string s] w fun e w' => e = .returned (.bool (mtiKn s)) ∧ Below w.heap.size w w' := by
  cases h1 : s.toList == [48, 49, 48, 48] <;> cases h2 : s.toList == [48, 50, 48, 48] <;> cases h3 : s.toList == [48, 50, 50, 48]
  all_goals have hr := show mtiKn s = (s.toList == [48, 49, 48, 48] || s.toList == [48, 50, 48, 48] || s.toList == [48, 50, 50, 48]) from rfl
  all_goals rw [h1, h2, h3] at hr
  all_goals rw [hr]
  all_goals clear hr
  all_goals go_enter Try.func6, Try.ntmps6
  all_goals go_wp2
  all_goals go_ret
  all_goals exact ⟨rfl, Below.refl _ _⟩

set_option maxRecDepth 100000 in
theorem bytesW_frozen (w : World) (e : TypeId) (s : ByteArray) (j : Nat) (hj : j < s.size) : (Lib.bytesWorld w e s).frozen? ⟨w.heap.size, j, none⟩ = false := by
  have h2 : s.size ≤ (Lib.bytesCells w e s).size := by
    have : s.size = s.data.size := rfl
    unfold Lib.bytesCells; simp <;> omega
  simp [World.frozen?, Lib.bytesWorld_at_new]
  try omega

set_option maxRecDepth 100000 in
set_option maxHeartbeats 1600000 in
theorem implReplyMti_any (s : ByteArray) (w : World) (hs : s.size ≤ maxLen) : Calls Try.prog 8 #[.string s] w fun e w' => e = .returned (.string (replyMti s)) ∧ Below w.heap.size w w' := by
  cases hm : mtiOk s
  · have hr : replyMti s = ⟨#[]⟩ := by
      unfold replyMti
      rw [if_neg]
      rintro ⟨h1, h2⟩
      simp [mtiOk, h1, h2] at hm
    rw [hr]
    have HM := Lib.hid hm
    clear hm hr
    go_enter Try.func8, Try.ntmps8
    go_wp2_with fail
    refine (isMti_any s _ hs).mono ?_
    rw [HM.out]
    rintro e w1 ⟨rfl, hb⟩
    go_wp2
    go_ret
    exact ⟨rfl, hb⟩
  have HM := Lib.hid hm
  unfold mtiOk at hm
  rw [Bool.and_eq_true, decide_eq_true_eq] at hm
  obtain ⟨hd, h4⟩ := hm
  have h2 : 2 < s.size := by omega
  have hg : 48 ≤ (s[2]'h2).toNat ∧ (s[2]'h2).toNat ≤ 57 := digs_get hd 2 h2
  have hw0 : IntKind.u8.wrap (((s[2]'h2).toNat : Int) - 48) = ((s[2]'h2).toNat : Int) - 48 := IntWalk.u8_in _ (by omega)
  have hb0 : 0 ≤ ((s[2]'h2).toNat : Int) - 48 := by omega
  by_cases ho : (s[2]'h2).toNat % 2 = 1
  · rw [replyMti_odd hd h4 ho]
    have ho' : ((((s[2]'h2).toNat : Int) - 48) % 2 == 1) = true := by simp; omega
    clear hd
    go_enter Try.func8, Try.ntmps8
    go_wp2_with fail
    refine (isMti_any s _ hs).mono ?_
    rw [HM.out]
    rintro e w1 ⟨rfl, hb⟩
    have hbr := Lib.hid hb
    clear hb
    go_wp2
    go_ret
    exact ⟨rfl, hbr.out⟩
  · have HR := Lib.hid (replyMti_even hd h4 ho)
    have ho' : ((((s[2]'h2).toNat : Int) - 48) % 2 == 1) = false := by simp; omega
    clear hd
    have hwr : IntKind.u8.wrap (((s[2]'h2).toNat : Int) + 1) = ((s[2]'h2).toNat : Int) + 1 := IntWalk.u8_in _ (by omega)
    have HBK : Hid (∀ W : World, ∀ cap : Nat, (convert 24 9 (.slice (some ⟨W.heap.size, 0, none⟩) 4 cap)).run Try.prog ((Lib.bytesWorld W 5 s).setCell ⟨W.heap.size, 2, none⟩ (.int .u8 (((s[2]'h2).toNat : Int) + 1))) = .ok (.string (replyMti s)) ((Lib.bytesWorld W 5 s).setCell ⟨W.heap.size, 2, none⟩ (.int .u8 (((s[2]'h2).toNat : Int) + 1)))) := Lib.hid (by
      intro W cap
      rw [HR.out]
      obtain ⟨a, b, c, d, rfl⟩ := four h4
      have hc : (c + 1).toNat = c.toNat + 1 := by
        have h9 : c.toNat ≤ 57 := hg.2
        rw [UInt8.toNat_add]
        have : (1 : UInt8).toNat = 1 := rfl
        omega
      have hB := fun j hj => Lib.bytesWorld_cell W 5 ⟨#[a, b, c, d]⟩ j hj
      refine run_convert_bytes_back (P := Try.prog) _ 24 9 5 ⟨W.heap.size, 0, none⟩ cap [a, b, c + 1, d] Try.underlying24 Try.underlying5 Try.underlying9 (fun j hj => ?_)
      have hadd : (⟨W.heap.size, 0, none⟩ : Addr).add j = ⟨W.heap.size, j, none⟩ := by unfold Addr.add; split <;> simp_all
      rw [hadd]
      by_cases e : j = 2
      · subst e
        rw [World.cell?_setCell_same _ _ _ (hB 2 (show 2 < 4 by decide))]
        show some (Value.int .u8 ((c.toNat : Int) + 1)) = some (.int .u8 (((c + 1).toNat : Nat) : Int))
        rw [hc]; rfl
      · rw [World.cell?_setCell_other _ _ _ _ (fun he => e (by have := congrArg Addr.off he; simpa using this.symm)), hB j hj]
        have hj4 : j = 0 ∨ j = 1 ∨ j = 3 := by have : j < 4 := hj; omega
        rcases hj4 with rfl | rfl | rfl <;> rfl)
    have hcv := fun W => Lib.run_convert_string_bytes (P := Try.prog) W 9 24 5 s Try.underlying9 Try.underlying24 Try.underlying5
    have hget : (s.data.toList.getD 2 0).toNat = (s[2]'h2).toNat := by
      obtain ⟨a, b, c, d, rfl⟩ := four h4
      rfl
    go_enter Try.func8, Try.ntmps8
    go_wp2_with fail
    refine (isMti_any s _ hs).mono ?_
    rw [HM.out]
    rintro e w1 ⟨rfl, hb⟩
    have HBR := Lib.hid hb
    have hz := hb.size
    clear hb
    have c2 := Lib.bytesWorld_cell w1 5 s 2 h2
    rw [hget] at c2
    have f2 := bytesW_frozen w1 5 s 2 h2
    have hbk := HBK.out w1
    go_wp2
    go_ret
    refine ⟨rfl, ?_⟩
    exact (HBR.out.trans ((bytesW_below w1 5 s).mono hz)).setCell (p := ⟨_, _, none⟩) (show _ ≤ _ from hz) _
end Go.Proofs.Ytdjlhijaadombaa
