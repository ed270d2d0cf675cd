/- What the reference draws for a window: a number of buckets, a span, times that don't fall, amounts; no conditions. -/
import Derived.Test.YteogdfiaobccfaaDoorMakeD
import Derived.Test.YteogdfiaobccfaaDoorAppS
import Derived.Test.YteogdfiaobccfaaDoorRingN
import Derived.Test.YteogdfiaobccfaaDoorRingW
set_option linter.unusedVariables false
namespace Go.Proofs.YteogdfiaobccfaaDoor
open Go.ChangeShapes Go.WideShapes Go.ChangeAt Go.RowKit

set_option maxRecDepth 100000 in
theorem owE_void {α : Type} (T : TypeId) (k B : Nat) (enc : α → List Value) (w : World) (hB : B ≤ w.heap.size) : owE T k enc B (w.alloc (.cells #[] T)) (.slice (some ⟨w.heap.size, 0, none⟩) 0 0) [] := by
  refine ⟨by simp, Or.inr ⟨w.heap.size, 0, #[], rfl, hB, ?_, Nat.le_refl _, by simp, by simp, by simp⟩⟩
  show (w.heap.push _)[w.heap.size]? = _
  simp
set_option maxRecDepth 100000 in
theorem apart_next {v v' : Value} {u : Value} {n : Nat} (h : v'.ownBlock = v.ownBlock ∨ v'.ownBlock = some n) (ha : ∀ g, u.ownBlock = some g → v.ownBlock ≠ some g) (hn : ∀ g, u.ownBlock = some g → g < n) : ∀ g, u.ownBlock = some g → v'.ownBlock ≠ some g := by
  intro g hg e
  rcases h with h | h
  · exact ha g hg (by rw [← h]; exact e)
  · have := hn g hg
    rw [h] at e
    cases e; omega
set_option maxRecDepth 100000 in
theorem apart_turn {v u : Value} (h : ∀ g, u.ownBlock = some g → v.ownBlock ≠ some g) : ∀ g, v.ownBlock = some g → u.ownBlock ≠ some g := fun g hg e => h g e hg
set_option maxRecDepth 100000 in
theorem cur_grown {w w' : World} {b : Nat} {sv : Value} {i : Nat} {h : Int} {row : Option Nat} (hc : curAt w b sv i h) (hg : w.grownBy w' row) (hr : row ≠ some b) : curAt w' b sv i h := (hg.block b (lt_of_block hc) (fun e => hr e.symm)).trans hc
set_option maxRecDepth 100000 in
theorem owE.only {α : Type} {T : TypeId} {k B : Nat} {enc : α → List Value} {w w' : World} {v : Value} {l : List α} {b : Nat} (h : owE T k enc B w v l) (ho : onlyAt b w w') (hb : b < B) : owE T k enc B w' v l :=
  h.keep fun g hg => ho.block g (by have := (h.lt g hg).1; omega)
set_option maxRecDepth 100000 in
theorem owE.row {α : Type} {T : TypeId} {k B : Nat} {enc : α → List Value} {w w' : World} {v : Value} {l : List α} {row : Option Nat} (h : owE T k enc B w v l) (hg : w.grownBy w' row) (hr : ∀ g, v.ownBlock = some g → row ≠ some g) : owE T k enc B w' v l :=
  h.keep fun g hg' => hg.block g ((h.lt g hg').2) (fun e => hr g hg' e.symm)
/-- what is drawn -/
structure Drawn (n sp : Int) (ev : List Ev) : Prop where
  n1 : 1 ≤ n
  n2 : n ≤ 8
  s1 : 1 ≤ sp
  s2 : sp ≤ 6
  few : ev.length ≤ 13
  time : ∀ e ∈ ev, 0 ≤ e.1 ∧ e.1 ≤ 78
  amt : ∀ e ∈ ev, 0 ≤ e.2 ∧ e.2 ≤ 89
  up : ev.Pairwise fun a b => a.1 ≤ b.1
set_option maxRecDepth 100000 in
theorem pair_snoc {l : List Ev} {e : Ev} (h : l.Pairwise fun a b => a.1 ≤ b.1) (hm : ∀ x ∈ l, x.1 ≤ e.1) : (l ++ [e]).Pairwise fun a b => a.1 ≤ b.1 :=
  List.pairwise_append.2 ⟨h, List.pairwise_singleton _ _, fun a ha b hb => by rw [List.mem_singleton.1 hb]; exact hm a ha⟩
def drawnA (w : World) (e : Ending) (w' : World) : Prop :=
  ∃ (n sp : Int) (ev : List Ev) (vt va : Value), e = .returned (.tuple #[.int .i64 n, .int .i64 sp, vt, va]) ∧ Drawn n sp ev ∧ rd .i64 w'.heap.size w' vt (ev.map (·.1)) ∧ rd .i64 w'.heap.size w' va (ev.map (·.2)) ∧ Below w.heap.size w w'

set_option maxRecDepth 100000 in
set_option maxHeartbeats 6400000 in
theorem makeAdds_any (sv : Value) (w : World) (hr : readable w w.heap.size sv) (hlen : lenOf sv ≤ 1048576) :
    Calls Tryd.prog 7 #[sv] w (drawnA w) := by
  have HR := Lib.hid hr
  go_enter Tryd.func7, Tryd.ntmps7
  go_wp2_with fail
  refine (new_any sv w hr hlen).mono ?_
  rintro e w1 ⟨h0, rfl, rfl⟩
  have hc := made_cur sv w h0
  have hb1 : Below w.heap.size w (w.alloc (.cells #[sv, .int .i64 0, .int .i64 h0] 57)) := (Below.refl _ _).alloc (Nat.le_refl _) _
  have z1 : w.heap.size < (w.alloc (.cells #[sv, .int .i64 0, .int .i64 h0] 57)).heap.size := by simp
  generalize w.alloc (.cells #[sv, .int .i64 0, .int .i64 h0] 57) = w1 at hc hb1 z1 ⊢
  clear hr
  have HB1 := Lib.hid hb1
  have HC1 := Lib.hid hc
  clear hb1 hc
  go_wp2_with fail
  refine (below_any w.heap.size sv 0 h0 8 w1 HC1.out (Nat.zero_le _) (HR.out.below HB1.out) (by decide) (by decide)).mono ?_
  rintro e w2 ⟨n, i2, h2, rfl, hn0, hn1, hi2, hc2, ho2⟩
  have HB2 : Hid (Below w.heap.size w w2) := Lib.hid (HB1.out.trans (ho2.below (Nat.le_refl _)))
  have HC2 := Lib.hid hc2
  have z2 : w1.heap.size ≤ w2.heap.size := by rw [ho2.size]; exact Nat.le_refl _
  clear hc2 ho2 HB1 HC1
  go_wp2_with fail
  refine (below_any w.heap.size sv i2 h2 6 w2 HC2.out hi2 (HR.out.below HB2.out) (by decide) (by decide)).mono ?_
  rintro e w3 ⟨sp, i3, h3, rfl, hs0, hs1, hi3, hc3, ho3⟩
  have HB3 : Hid (Below w.heap.size w w3) := Lib.hid (HB2.out.trans (ho3.below (Nat.le_refl _)))
  have HC3 := Lib.hid hc3
  have z3 : w2.heap.size ≤ w3.heap.size := by rw [ho3.size]; exact Nat.le_refl _
  clear hc3 ho3 HB2 HC2
  go_wp2_with fail
  obtain ⟨W4, hW4⟩ : ∃ W4, W4 = (w3.alloc (.cells #[] 3)).alloc (.cells #[] 3) := ⟨_, rfl⟩
  have HT4 : Hid (owE 3 1 iCells (w.heap.size + 1) W4 (.slice (some ⟨w3.heap.size, 0, none⟩) 0 0) []) := Lib.hid (by rw [hW4]; exact (owE_void _ _ _ _ _ (by omega)).alloc _)
  have HA4 : Hid (owE 3 1 iCells (w.heap.size + 1) W4 (.slice (some ⟨w3.heap.size + 1, 0, none⟩) 0 0) []) := Lib.hid (by rw [hW4]; simpa using owE_void 3 1 (w.heap.size + 1) iCells (w3.alloc (.cells #[] 3)) (by simp; omega))
  have HB4 : Hid (Below w.heap.size w W4) := Lib.hid (by rw [hW4]; exact (HB3.out.alloc (by omega) _).alloc (by simp; omega) _)
  have HC4 : Hid (curAt W4 w.heap.size sv i3 h3) := Lib.hid (by rw [hW4]; exact cur_alloc (cur_alloc HC3.out _) _)
  have z4 : w3.heap.size + 2 ≤ W4.heap.size := by rw [hW4]; simp
  rw [← hW4]
  clear hW4 HB3 HC3
  refine (below_any w.heap.size sv i3 h3 14 W4 HC4.out hi3 (HR.out.below HB4.out) (by decide) (by decide)).mono ?_
  rintro e w5 ⟨k5, i5, h5, rfl, hk0, hk1, hi5, hc5, ho5⟩
  have HB5 : Hid (Below w.heap.size w w5) := Lib.hid (HB4.out.trans (ho5.below (Nat.le_refl _)))
  have HC5 := Lib.hid hc5
  have HT5 := Lib.hid (HT4.out.only ho5 (by omega))
  have HA5 := Lib.hid (HA4.out.only ho5 (by omega))
  have z5 : W4.heap.size ≤ w5.heap.size := by rw [ho5.size]; exact Nat.le_refl _
  clear hc5 ho5 HB4 HC4 HT4 HA4
  go_wp2
  go_loopw [9, 10, 11, 12] (fun tv av nv kv wr => ∃ (ev : List Ev) (A1 : Option Addr) (c1 : Nat) (A2 : Option Addr) (c2 : Nat) (i : Nat) (h now k : Int), kv = .int .i64 k ∧ nv = .int .i64 now ∧ tv = .slice A1 ev.length c1 ∧ av = .slice A2 ev.length c2 ∧ 0 ≤ k ∧ ev.length + k ≤ 13 ∧ 0 ≤ now ∧ now ≤ 6 * ev.length ∧ i ≤ lenOf sv ∧
    Hid ((∀ e ∈ ev, 0 ≤ e.1 ∧ e.1 ≤ now) ∧ (∀ e ∈ ev, 0 ≤ e.2 ∧ e.2 ≤ 89) ∧ ev.Pairwise fun a b => a.1 ≤ b.1) ∧
    Hid (owE 3 1 iCells (w.heap.size + 1) wr (.slice A1 ev.length c1) (ev.map (·.1))) ∧ Hid (owE 3 1 iCells (w.heap.size + 1) wr (.slice A2 ev.length c2) (ev.map (·.2))) ∧
    Hid (∀ g, (Value.slice A1 ev.length c1).ownBlock = some g → (Value.slice A2 ev.length c2).ownBlock ≠ some g) ∧ Hid (curAt wr w.heap.size sv i h) ∧ Hid (Below w.heap.size w wr) ∧ w.heap.size < wr.heap.size) (fun _ _ _ kv _ => (intOf kv).toNat)
  case atStart => exact ⟨[], _, _, _, _, i5, h5, 0, k5, rfl, rfl, rfl, rfl, hk0, by simp; omega, Int.le_refl _, by simp, hi5, Lib.hid ⟨by simp, by simp, List.Pairwise.nil⟩, HT5, HA5, Lib.hid (fun g hg e => by simp [Value.ownBlock] at hg e; omega), HC5, HB5, by omega⟩
  case round =>
    obtain ⟨ev, A1, c1, A2, c2, i, h, now, k, rfl, rfl, rfl, rfl, k0, kk, now0, now1, hi', HE, HT, HA, HAP, HC, HB, hz⟩ := hrel
    by_cases hpos : 0 < k
    · have hl : ev.length ≤ 12 := by omega
      have l13 : (ev.length : Int) ≤ 12 := by omega
      go_wp2_with fail
      refine (below_any w.heap.size sv i h 7 wr HC.out hi' (HR.out.below HB.out) (by decide) (by decide)).mono ?_
      rintro e w6 ⟨x, i6, h6, rfl, hx0, hx1, hi6, hc6, ho6⟩
      have HB6 : Hid (Below w.heap.size w w6) := Lib.hid (HB.out.trans (ho6.below (Nat.le_refl _)))
      have HC6 := Lib.hid hc6
      have HT6 := Lib.hid (HT.out.only ho6 (by omega))
      have HA6 := Lib.hid (HA.out.only ho6 (by omega))
      have z6 : w.heap.size < w6.heap.size := by rw [ho6.size]; exact hz
      clear hc6 ho6 HB HC HT HA
      have HL1 : Hid ((ev.map (·.1)).length = ev.length) := Lib.hid (List.length_map ..)
      have HL2 : Hid ((ev.map (·.2)).length = ev.length) := Lib.hid (List.length_map ..)
      have hm1 : (ev.map (·.1)).length ≤ 12 := by rw [HL1.out]; exact hl
      have hm2 : (ev.map (·.2)).length ≤ 12 := by rw [HL2.out]; exact hl
      go_wp2_with (at_builtin; refine app_elem iCells 1 (fun _ => rfl) (by decide) iCells_one 23 3 #[.int .i64 0] 8 Tryd.underlying23 infoIntN rfl _ _ rfl (by rfl) (w.heap.size + 1) w6 (.slice A1 ev.length c1) (ev.map (·.1)) (now + x) _ _ (by rfl) (by rfl) (by rfl) rfl HT6.out (by unfold maxLen; omega) (by omega) (by omega) ?_)
      intro A3 c3 w7 hown7 hc7 hg7 hlies7
      have z7 : w6.heap.size + 1 ≤ w7.heap.size := by have := hg7.size; simpa using this
      have HB7 : Hid (Below w.heap.size w w7) := Lib.hid ((HB6.out.alloc (by omega) _).grown hg7 (by simp; omega) (fun g hg' => by have := (HT6.out.lt g hg').1; omega))
      have HC7 : Hid (curAt w7 w.heap.size sv i6 h6) := Lib.hid (cur_grown (cur_alloc HC6.out _) hg7 (fun e => by have := (HT6.out.lt _ e).1; omega))
      have HA7 := Lib.hid ((HA6.out.alloc (.cells #[Value.int IntKind.i64 (now + x)] 3)).row hg7 (apart_turn HAP.out))
      have HAP7 : Hid (∀ g, (Value.slice A2 ev.length c2).ownBlock = some g → (Value.slice A3 (ev.length + 1) c3).ownBlock ≠ some g) := Lib.hid (apart_next hlies7 (apart_turn HAP.out) (fun g hg' => by have := (HA6.out.lt g hg').2; omega))
      have HT7 : Hid (owE 3 1 iCells (w.heap.size + 1) w7 (.slice A3 (ev.length + 1) c3) (ev.map (·.1) ++ [now + x])) := Lib.hid hown7
      clear hown7 hc7 hg7 hlies7 HA6 HT6 HB6 HC6 HAP
      go_wp2_with fail
      refine (below_any w.heap.size sv i6 h6 90 w7 HC7.out hi6 (HR.out.below HB7.out) (by decide) (by decide)).mono ?_
      rintro e w8 ⟨y, i8, h8, rfl, hy0, hy1, hi8, hc8, ho8⟩
      have HB8 : Hid (Below w.heap.size w w8) := Lib.hid (HB7.out.trans (ho8.below (Nat.le_refl _)))
      have HC8 := Lib.hid hc8
      have HT8 := Lib.hid (HT7.out.only ho8 (by omega))
      have HA8 := Lib.hid (HA7.out.only ho8 (by omega))
      have z8 : w7.heap.size ≤ w8.heap.size := by rw [ho8.size]; exact Nat.le_refl _
      clear hc8 ho8 HB7 HC7 HT7 HA7
      go_wp2_with (at_builtin; refine app_elem iCells 1 (fun _ => rfl) (by decide) iCells_one 23 3 #[.int .i64 0] 8 Tryd.underlying23 infoIntN rfl _ _ rfl (by rfl) (w.heap.size + 1) w8 (.slice A2 ev.length c2) (ev.map (·.2)) y _ _ (by rfl) (by rfl) (by rfl) rfl HA8.out (by unfold maxLen; omega) (by omega) (by omega) ?_)
      intro A4 c4 w9 hown9 hc9 hg9 hlies9
      have z9 : w8.heap.size + 1 ≤ w9.heap.size := by have := hg9.size; simpa using this
      have HB9 : Hid (Below w.heap.size w w9) := Lib.hid ((HB8.out.alloc (by omega) _).grown hg9 (by simp; omega) (fun g hg' => by have := (HA8.out.lt g hg').1; omega))
      have HC9 : Hid (curAt w9 w.heap.size sv i8 h8) := Lib.hid (cur_grown (cur_alloc HC8.out _) hg9 (fun e => by have := (HA8.out.lt _ e).1; omega))
      have HT9 := Lib.hid ((HT8.out.alloc (.cells #[Value.int IntKind.i64 y] 3)).row hg9 (apart_turn HAP7.out))
      have HAP9 : Hid (∀ g, (Value.slice A3 (ev.length + 1) c3).ownBlock = some g → (Value.slice A4 (ev.length + 1) c4).ownBlock ≠ some g) := Lib.hid (apart_next hlies9 (apart_turn HAP7.out) (fun g hg' => by have := (HT8.out.lt g hg').2; omega))
      have HA9 : Hid (owE 3 1 iCells (w.heap.size + 1) w9 (.slice A4 (ev.length + 1) c4) (ev.map (·.2) ++ [y])) := Lib.hid hown9
      clear hown9 hc9 hg9 hlies9 HA8 HT8 HB8 HC8 HAP7
      have HE9 : Hid ((∀ e ∈ ev ++ [((now + x, y) : Ev)], 0 ≤ e.1 ∧ e.1 ≤ now + x) ∧ (∀ e ∈ ev ++ [((now + x, y) : Ev)], 0 ≤ e.2 ∧ e.2 ≤ 89) ∧ (ev ++ [((now + x, y) : Ev)]).Pairwise fun a b => a.1 ≤ b.1) := Lib.hid (by
        obtain ⟨q1, q2, q3⟩ := HE.out
        refine ⟨fun e he => ?_, fun e he => ?_, pair_snoc q3 fun e he => ?_⟩
        · rcases List.mem_append.1 he with he | he
          · have := q1 e he; omega
          · rw [List.mem_singleton.1 he]; show 0 ≤ now + x ∧ now + x ≤ now + x; omega
        · rcases List.mem_append.1 he with he | he
          · exact q2 e he
          · rw [List.mem_singleton.1 he]; show 0 ≤ y ∧ y ≤ 89; omega
        · have := q1 e he; show e.1 ≤ now + x; omega)
      go_wp2
      go_roundw
      case rel => exact ⟨ev ++ [(now + x, y)], A3, c3, A4, c4, i8, h8, now + x, k - 1, by go_num, rfl, by simp, by simp, by omega, by simp; omega, by omega, by simp; omega, hi8, HE9, Lib.hid (by simpa using HT9.out), Lib.hid (by simpa using HA9.out), Lib.hid (by simpa using HAP9.out), HC9, HB9, by omega⟩
      case measure => simp [intOf] <;> omega
    · have hpos' : ¬ (0 < k) := hpos
      have HRT := Lib.hid HT.out.ints.nums.rd
      have HRA := Lib.hid HA.out.ints.nums.rd
      go_wp2
      refine bodyPost_ret (v := .tuple #[.int .i64 (1 + n), .int .i64 (1 + sp), .slice A1 ev.length c1, .slice A2 ev.length c2]) (by simp [results, Tryd.results7, go_sem]) rfl ?_
      obtain ⟨q1, q2, q3⟩ := HE.out
      exact ⟨1 + n, 1 + sp, ev, _, _, rfl, ⟨by omega, by omega, by omega, by omega, by omega, fun e he => by have := q1 e he; omega, q2, q3⟩, HRT.out, HRA.out, HB.out⟩
end Go.Proofs.YteogdfiaobccfaaDoor
