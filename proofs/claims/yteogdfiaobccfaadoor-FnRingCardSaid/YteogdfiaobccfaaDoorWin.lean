/- The program's windows of tallies in memory, and how they roll; no conditions. -/
import Derived.Test.YteogdfiaobccfaaDoorRingRl
import Derived.Test.YteogdfiaobccfaaDoorRingOI
import Derived.Test.YteogdfiaobccfaaDoorOver
set_option linter.unusedVariables false
namespace Go.Proofs.YteogdfiaobccfaaDoor
open Go.ChangeShapes Go.WideShapes Go.ChangeAt Go.RowKit

abbrev TD := Int × Int
def tCells (x : TD) : List Value := [.int .i64 x.1, .int .i64 x.2]
set_option maxRecDepth 100000 in
theorem tCells_len (x : TD) : (tCells x).length = 2 := rfl
set_option maxRecDepth 100000 in
theorem tCells_one (x : TD) : ∀ u ∈ tCells x, u.oneCell' = true := by
  intro u hu
  simp only [tCells, List.mem_cons, List.not_mem_nil, or_false] at hu
  rcases hu with rfl | rfl <;> rfl
set_option maxRecDepth 100000 in
theorem infoTally : (Tryd.prog.info? 53).map (fun i => (i.zero.map (·.cells), i.size, i.bytes)) = some (some #[.int .i64 0, .int .i64 0], 2, 16) := by kernel_rfl
set_option maxRecDepth 100000 in
theorem infoTally2 : (Tryd.prog.info? 53).map (fun i => (i.zero.map (·.cells), i.size)) = some (some #[.int .i64 0, .int .i64 0], 2) := by kernel_rfl
set_option maxRecDepth 100000 in
theorem sizeTally : (Tryd.prog.info? 53).map (·.size) = some 2 := by kernel_rfl
/-- a window at block p: its span, its head, its buckets, a row of its own -/
structure Win (B : Nat) (w : World) (p : Nat) (sp hd : Int) (v : Value) (l : List TD) : Prop where
  at_ : bk w p 68 [.int .i64 sp, .int .i64 hd, v]
  row : owE 53 2 tCells B w v l
  low : B ≤ p
  far : v.ownBlock ≠ some p
def rollT (k : Nat) (l : List TD) : List TD := List.replicate k (0, 0) ++ l.take (l.length - k)
def winHead (sp hd now : Int) : Int := if hd < now / sp then now / sp else hd
def winRoll (sp hd now : Int) (l : List TD) : List TD := if hd < now / sp then rollT (min (now / sp - hd).toNat l.length) l else l
set_option maxRecDepth 100000 in
theorem rollT_len {k : Nat} {l : List TD} (h : k ≤ l.length) : (rollT k l).length = l.length := by
  unfold rollT
  rw [List.length_append, List.length_replicate, List.length_take]; omega
set_option maxRecDepth 100000 in
theorem winRoll_len (sp hd now : Int) (l : List TD) : (winRoll sp hd now l).length = l.length := by
  unfold winRoll
  split
  · exact rollT_len (Nat.min_le_right _ _)
  · rfl
set_option maxRecDepth 100000 in
theorem bk.three {w : World} {g : Nat} {t : TypeId} {a b c : Value} (h : bk w g t [a, b, c]) : (w.cell? ⟨g, 0, none⟩ = some a ∧ w.cell? ⟨g, 1, none⟩ = some b ∧ w.cell? ⟨g, 2, none⟩ = some c) ∧ (w.frozen? ⟨g, 0, none⟩ = false ∧ w.frozen? ⟨g, 1, none⟩ = false ∧ w.frozen? ⟨g, 2, none⟩ = false) :=
  ⟨⟨h.cell 0, h.cell 1, h.cell 2⟩, h.frozen 0, h.frozen 1, h.frozen 2⟩
set_option maxRecDepth 100000 in
theorem owE.turned {α : Type} {T : TypeId} {k B lo hi : Nat} {enc : α → List Value} {w w' : World} {v : Value} {l : List α} (h : owE T k enc B w v l) (ht : Turned lo hi w w') (hv : ∀ g, v.ownBlock = some g → g < lo ∨ hi ≤ g) : owE T k enc B w' v l :=
  h.keep fun g hg => ht.block g (h.lt g hg).2 (by have := hv g hg; omega)

set_option maxRecDepth 100000 in
set_option maxHeartbeats 4000000 in
theorem implRoll_any (B p : Nat) (sp hd now : Int) (v : Value) (l : List TD) (w : World) (hw : Win B w p sp hd v l) (s1 : 1 ≤ sp) (n0 : 0 ≤ now) (n1 : now ≤ 1000000000) (d0 : 0 ≤ hd) (d1 : hd ≤ 1000000000) (l1 : 1 ≤ l.length) (l2 : l.length ≤ 8) :
    Calls Tryd.prog 51 #[.pointer (some ⟨p, 0, none⟩), .int .i64 now] w fun e w' => e = .returned (.tuple #[]) ∧ Win B w' p sp (winHead sp hd now) v (winRoll sp hd now l) ∧ Below B w w' := by
  obtain ⟨b0, ho, hlow, hfar⟩ := hw
  obtain ⟨A, c, rfl, hlc⟩ := ho.form
  obtain ⟨-, n5, n6⟩ := quo_ok n0 n1 s1
  have n2 : (sp == 0) = false := by simp; omega
  have n3 : ¬ sp = 0 := by omega
  obtain ⟨g, rfl, hBg, hgl⟩ : ∃ g, A = some ⟨g, 0, none⟩ ∧ B ≤ g ∧ g < w.heap.size := by
    rcases ho.2 with ⟨h', h0⟩ | ⟨g, cap, cur, h', hB, hg, -⟩
    · omega
    · simp only [Value.slice.injEq] at h'
      exact ⟨g, h'.1, hB, (Array.getElem?_eq_some_iff.1 hg).1⟩
  have hgp : p ≠ g := fun e => hfar (by rw [e]; rfl)
  have HO := Lib.hid ho
  have B0 := Lib.hid b0
  obtain ⟨⟨p0, p1, p2⟩, f0, f1, f2⟩ := b0.three
  have y0 := b0.lt
  clear ho b0 hfar
  by_cases hgo : hd < now / sp
  · have g1 : ¬ now / sp ≤ hd := by omega
    have HH : Hid (winHead sp hd now = now / sp) := Lib.hid (if_pos hgo)
    have HW : Hid (winRoll sp hd now l = rollT (min (now / sp - hd).toNat l.length) l) := Lib.hid (if_pos hgo)
    obtain ⟨q, hq⟩ := Int.eq_ofNat_of_zero_le n5
    obtain ⟨m, hm⟩ : ∃ m : Nat, m = min (now / sp - hd).toNat l.length := ⟨_, rfl⟩
    have m0 : 0 < m := by omega
    have m1 : m ≤ l.length := by omega
    rw [← hm] at HW
    have HM := Lib.hid hm
    clear hm hq
    go_enter Tryd.func51, Tryd.ntmps51
    go_upto_region 2 with fail
    go_cut [5] (fun cv wx => cv = .int .i64 (m : Int) ∧ ∃ n, wx = w.drewN n)
    case first =>
      go_quiet (fail)
      go_wp2
      all_goals go_meet
      all_goals exact ⟨congrArg (Value.int .i64) (by have := HM.out; omega), nq, rfl⟩
    case rest =>
      obtain ⟨rfl, nz, rfl⟩ := hcut
      obtain ⟨W, hW⟩ : ∃ W, W = w.drewN nz := ⟨_, rfl⟩
      have b0 := B0.out.drewN nz
      have ho : owE 53 2 tCells B (w.drewN nz) (.slice (some ⟨g, 0, none⟩) l.length c) l := HO.out
      have hb0 : Below B w (w.drewN nz) := below_drew' (Below.refl B w) nz
      have zs : w.heap.size = (w.drewN nz).heap.size := rfl
      rw [← hW] at b0 ho hb0 zs ⊢
      have HB0 := Lib.hid hb0
      have BB := Lib.hid b0
      have HO1 := Lib.hid ho
      clear hW p0 p1 p2 f0 f1 f2 HO B0 hb0 ho
      obtain ⟨⟨p0, p1, p2⟩, f0, f1, f2⟩ := b0.three
      clear b0
      have m2 : (m : Int) ≤ (l.length : Int) := by omega
      have m3 : 0 ≤ (m : Int) := by omega
      go_upto_region 3 with fail
      refine wp_region_still_tail 10 (by kernel_rfl) (by kernel_rfl) ?_
      simp only [List.take_succ_cons, List.take_zero, List.drop_succ_cons, List.drop_zero]
      repeat still_step
      refine wpStill_nil ?_
      change wpList _ _ _ _ _ W.drew
      obtain ⟨dp, hdp⟩ : ∃ dp, dp = (if c = m then (some ⟨g, 0, none⟩ : Option Addr) else some ⟨g, m * 2, none⟩) := ⟨_, rfl⟩
      rw [← hdp]
      have HDP := Lib.hid hdp
      clear hdp
      refine wpList_copy_over tCells 2 tCells_len tCells_one rfl _ _ _ _ rfl 53 Tryd.underlying66 sizeTally B W.drew g m c _ dp l HO1.out m1 rfl (fun h => by rw [HDP.out, if_neg (by omega)]) rfl ?_
      intro w1 ho1 ht1
      have b1 : bk w1 p 68 _ := BB.out.drew.turned ht1 (by omega)
      have HB1 := Lib.hid (HB0.out.drew.trans (ht1.below hBg (show B ≤ W.heap.size by omega)))
      have z1 := ht1.size
      replace z1 : W.heap.size ≤ w1.heap.size := z1
      have HO2 := Lib.hid ho1
      have B1 := Lib.hid b1
      clear ho1 ht1 p0 p1 p2 f0 f1 f2 BB HO1 HB0
      obtain ⟨⟨p0, p1, p2⟩, f0, f1, f2⟩ := b1.three
      clear b1
      have hl' : (l.take m ++ l.take (l.length - m)).length = l.length := by rw [List.length_append, List.length_take, List.length_take]; omega
      have HLR : Hid (List.replicate m ((0, 0) : TD) ++ (l.take m ++ l.take (l.length - m)).drop m = rollT m l) := Lib.hid (by
        unfold rollT
        rw [List.drop_append_of_le_length (by rw [List.length_take]; omega), List.drop_of_length_le (by rw [List.length_take]; omega), List.nil_append])
      generalize l.take m ++ l.take (l.length - m) = l' at HO2 HLR hl'
      have HL := Lib.hid hl'
      clear hl'
      go_upto_region 5 with (refine wpList_clear_over tCells 2 tCells_len tCells_one rfl _ _ rfl 53 Tryd.underlying66 #[.int .i64 0, .int .i64 0] infoTally2 (0, 0) rfl B w1 g m c _ l.length l' HL.out HO2.out m1 m0 rfl ?_)
      intro w2 ho2 ht2
      rw [HLR.out] at ho2
      have b2 : bk w2 p 68 _ := B1.out.turned ht2 (by omega)
      have z2 := ht2.size
      have HB2 := Lib.hid (HB1.out.trans (ht2.below hBg (show B ≤ w1.heap.size by omega)))
      have HO3 := Lib.hid ho2
      have B2 := Lib.hid b2
      clear ho2 ht2 p0 p1 p2 f0 f1 f2 B1 HO2 HB1 HLR HL
      obtain ⟨⟨p0, p1, p2⟩, f0, f1, f2⟩ := b2.three
      clear b2
      go_wp2
      refine bodyPost_end (results_none rfl _ _ _) rfl ?_
      rw [HH.out, HW.out]
      exact ⟨rfl, ⟨B2.out.set 1 _, HO3.out.set (by simpa [Value.ownBlock] using Ne.symm hgp) 1 _, hlow, by simpa [Value.ownBlock] using Ne.symm hgp⟩, HB2.out.setCell (p := ⟨p, 1, none⟩) hlow _⟩
  · have HH : Hid (winHead sp hd now = hd) := Lib.hid (if_neg hgo)
    have HW : Hid (winRoll sp hd now l = l) := Lib.hid (if_neg hgo)
    have g1 : now / sp ≤ hd := by omega
    go_enter Tryd.func51, Tryd.ntmps51
    go_wp2
    refine bodyPost_ret (results_none rfl _ _ _) rfl ?_
    rw [HH.out, HW.out]
    exact ⟨rfl, ⟨B0.out, HO.out, hlow, by simpa [Value.ownBlock] using Ne.symm hgp⟩, Below.refl _ _⟩
end Go.Proofs.YteogdfiaobccfaaDoor
