/- The program's tallies: what is added to one, where a window keeps its newest. The library's table of type handles holds what its text lays. -/
import Derived.Test.YteogdfiaobccfaaDoorWinO
import Derived.Test.YteogdfiaobccfaaDoorSat
import Derived.Deep.RegionLaw
set_option linter.unusedVariables false
namespace Go.Proofs.YteogdfiaobccfaaDoor
open Go.ChangeShapes Go.WideShapes Go.ChangeAt Go.RowKit

/-- the library's handle of the type error -/
def Handle (w : World) : Prop := w.cell? ⟨1, 0, none⟩ = some (.iface RT (.agg #[.pointer (some ⟨2, ER, none⟩)]))
set_option maxRecDepth 100000 in
theorem Handle.lt {w : World} (h : Handle w) : 1 < w.heap.size := by
  unfold Handle at h
  rcases Nat.lt_or_ge 1 w.heap.size with h' | h'
  · exact h'
  · simp [World.cell?, Array.getElem?_eq_none h'] at h
set_option maxRecDepth 100000 in
theorem Handle.below {w w' : World} {B : Nat} (h : Handle w) (hb : Below B w w') (hB : w.heap.size ≤ B) : Handle w' := (hb.cell (p := ⟨_, _, none⟩) (show 1 < B by have := h.lt; omega)).trans h
set_option maxRecDepth 100000 in
theorem Handle.turned {w w' : World} {lo hi : Nat} (h : Handle w) (ht : Turned lo hi w w') (hb : 1 < lo ∨ hi ≤ 1) : Handle w' := (cell_keep (ht.block _ h.lt hb)).trans h
set_option maxRecDepth 100000 in
theorem Handle.ne {w : World} {b : Nat} {T : TypeId} {CS : List Value} {x : Int} (h : Handle w) (hb : bk w b T CS) (h0 : CS[0]? = some (.int .i64 x)) : b ≠ 1 := fun e => by
  subst e
  have h1 := hb.cell 0
  unfold Handle at h
  rw [h, h0] at h1
  cases h1

set_option maxRecDepth 100000 in
set_option maxHeartbeats 4000000 in
theorem implTally_any (b : Nat) (T : TypeId) (CS : List Value) (x y dx dy : Int) (w : World) (hb : bk w b T CS) (h0 : CS[0]? = some (.int .i64 x)) (h1 : CS[1]? = some (.int .i64 y)) (hg : Handle w) :
    Calls Tryd.prog 32 #[.pointer (some ⟨b, 0, none⟩), .agg #[.int .i64 dx, .int .i64 dy]] w fun e w' => e = .returned (.tuple #[]) ∧ Turned b (b + 1) w w' ∧ bk w' b T ((CS.set 0 (.int .i64 (satVal x dx))).set 1 (.int .i64 (satVal y dy))) := by
  have hne := hg.ne hb h0
  have hlt := hb.lt
  have HG := Lib.hid hg
  have HBK := Lib.hid hb
  have H0 := Lib.hid h0
  have H1 := Lib.hid h1
  clear hg hb h0 h1
  go_enter Tryd.func32, Tryd.ntmps32
  go_upto_region 1 with fail
  obtain ⟨W, hW⟩ : ∃ W, W = w.alloc (.cells #[.int .i64 dx, .int .i64 dy] 53) := ⟨_, rfl⟩
  have b0 : bk W w.heap.size 53 [.int .i64 dx, .int .i64 dy] := by rw [hW]; exact bk.new w _ _
  have HB0 : Hid (Below w.heap.size w W) := Lib.hid (by rw [hW]; exact (Below.refl _ _).alloc (Nat.le_refl _) _)
  have z0 : W.heap.size = w.heap.size + 1 := by rw [hW]; simp
  rw [← hW]
  clear hW
  have HG1 := Lib.hid (HG.out.below HB0.out (Nat.le_refl _))
  have HK1 := Lib.hid (HBK.out.below HB0.out hlt)
  have B0 := Lib.hid b0
  have p0 := b0.cell 0
  have p1 := b0.cell 1
  have c0 := HK1.out.cell 0
  rw [H0.out] at c0
  have g0 := HG1.out
  unfold Handle at g0
  simp only [List.getElem?_cons_zero, List.getElem?_cons_succ] at p0 p1
  have n0 : w.heap.size ≠ b := by omega
  have n3 : b ≠ w.heap.size := by omega
  have n1 := Ne.symm hne
  have n2 : w.heap.size ≠ 1 := by have := HG.out.lt; omega
  clear b0
  go_region_law (go_simp; go_at_call 52; refine (implSat_any x dx W.drew HG1.out).mono ?_; rintro e w2 ⟨rfl, hb2⟩; have b2 := B0.out.drew.below hb2 (show w.heap.size < W.heap.size by omega); have q0 := b2.cell 0; have q1 := b2.cell 1; simp only [List.getElem?_cons_zero, List.getElem?_cons_succ] at q0 q1; have g2 : Handle w2 := Handle.below (w := W.drew) HG1.out hb2 (Nat.le_refl _); have HG2 := Lib.hid g2; unfold Handle at g2; have k2 := HK1.out.drew.below hb2 (show b < W.heap.size by omega); have d0 := k2.cell 0; have f0 := k2.frozen 0; rw [H0.out] at d0; have HK2 := Lib.hid k2; have B2 := Lib.hid b2; have HB2 := Lib.hid hb2; clear b2 k2 hb2)
  all_goals
    obtain ⟨W3, hW3⟩ : ∃ W3, W3 = w2.setCell ⟨b, 0, none⟩ (.int .i64 (satVal x dx)) := ⟨_, rfl⟩
    have z2 : W.heap.size ≤ w2.heap.size := HB2.out.size
    have HT3 := Lib.hid (((Turned.of_below (lo := b) (hi := b + 1) HB0.out).trans (Turned.of_below (lo := b) (hi := b + 1) (Below.refl W.heap.size W).drew)).trans ((Turned.of_below (lo := b) (hi := b + 1) HB2.out).set (b := b) 0 (.int .i64 (satVal x dx)) (Nat.le_refl _) (Nat.lt_succ_self _)))
    have HK3 := Lib.hid (HK2.out.set 0 (.int .i64 (satVal x dx)))
    have B3 := Lib.hid (B2.out.far (p := ⟨b, 0, none⟩) n0 (.int .i64 (satVal x dx)))
    have HG3 : Hid (Handle (w2.setCell ⟨b, 0, none⟩ (.int .i64 (satVal x dx)))) := Lib.hid ((cell_keep (Below.heap_setCell _ _ _ _ n1)).trans HG2.out)
    have z3 : w2.heap.size = (w2.setCell ⟨b, 0, none⟩ (.int .i64 (satVal x dx))).heap.size := by simp
    rw [← hW3] at HT3 HK3 B3 HG3 z3 ⊢
    clear hW3 p0 p1 c0 g0 q0 q1 g2 d0 f0 HK2 B2 HG2 HB2 HK1 B0 HG1
    have p0 := B3.out.cell 0
    have p1 := B3.out.cell 1
    have c1 := HK3.out.cell 1
    rw [List.getElem?_set_ne (by decide), H1.out] at c1
    simp only [List.getElem?_cons_zero, List.getElem?_cons_succ] at p0 p1
    have y3 := HK3.out.lt
    go_upto_region 2 with fail
    go_region_law (go_simp; go_at_call 52; refine (implSat_any y dy W3.drew HG3.out).mono ?_; rintro e w4 ⟨rfl, hb4⟩; have k4 := HK3.out.drew.below hb4 (show b < W3.heap.size from y3); have d1 := k4.cell 1; have f1 := k4.frozen 1; rw [List.getElem?_set_ne (by decide), H1.out] at d1; have HK4 := Lib.hid k4; have HB4 := Lib.hid hb4; clear k4 hb4)
    all_goals
      go_wp2
      refine bodyPost_end (results_none rfl _ _ _) rfl ?_
      exact ⟨rfl, (HT3.out.trans (Turned.of_below (lo := b) (hi := b + 1) (Below.refl W3.heap.size W3).drew)).trans ((Turned.of_below (lo := b) (hi := b + 1) HB4.out).set (b := b) 1 (.int .i64 (satVal y dy)) (Nat.le_refl _) (Nat.lt_succ_self _)), HK4.out.set 1 _⟩
set_option maxRecDepth 100000 in
theorem implNewest_any (B p g c : Nat) (sp hd : Int) (l : List TD) (w : World) (hw : Win B w p sp hd (.slice (some ⟨g, 0, none⟩) l.length c) l) (hl : 1 ≤ l.length) :
    Calls Tryd.prog 31 #[.pointer (some ⟨p, 0, none⟩)] w fun e w' => e = .returned (.pointer (some ⟨g, 0, none⟩)) ∧ w = w' := by
  obtain ⟨⟨p0, p1, p2⟩, -⟩ := hw.at_.three
  have g1 : (0 : Int) < (l.length : Int) := by omega
  clear hw
  go_enter Tryd.func31, Tryd.ntmps31
  go_wp2
  go_ret
  exact ⟨rfl, rfl⟩
set_option maxRecDepth 100000 in
/-- the first element of such a row: its two cells, and what the row is once they are others -/
theorem owE.first {T : TypeId} {B g c n : Nat} {w : World} {t : TD} {l : List TD} (h : owE T 2 tCells B w (.slice (some ⟨g, 0, none⟩) n c) (t :: l)) : ∃ CS, bk w g T CS ∧ CS[0]? = some (.int .i64 t.1) ∧ CS[1]? = some (.int .i64 t.2) ∧ ∀ (w' : World) (x y : Int), bk w' g T ((CS.set 0 (.int .i64 x)).set 1 (.int .i64 y)) → owE T 2 tCells B w' (.slice (some ⟨g, 0, none⟩) n c) ((x, y) :: l) := by
  obtain ⟨h1, h2⟩ := h
  rcases h2 with ⟨h', _⟩ | ⟨g', cap, cur, h', hB, hg, hn, hm, hs, ht⟩
  · simp at h'
  simp only [Value.slice.injEq, Option.some.injEq, Addr.mk.injEq, and_true] at h'
  obtain ⟨rfl, rfl, rfl⟩ := h'
  rw [List.length_cons] at hn ht
  have e2 : (l.length + 1) * 2 = l.length * 2 + 2 := by omega
  rw [e2, List.flatMap_cons] at ht
  have hlen : 2 ≤ cur.toList.length := by rw [Array.length_toList, hs]; omega
  have c0 : cur.toList[0]? = some (.int .i64 t.1) := by
    have := congrArg (fun L => L[0]?) ht
    simpa [tCells] using this
  have c1 : cur.toList[1]? = some (.int .i64 t.2) := by
    have := congrArg (fun L => L[1]?) ht
    simpa [tCells] using this
  refine ⟨cur.toList, by simpa [bk] using hg, c0, c1, fun w' x y hb => ⟨by simp only [List.flatMap_cons, List.length_append, List.length_cons] at h1 ⊢; simpa [tCells] using h1, Or.inr ⟨g, c, ((cur.toList.set 0 (.int .i64 x)).set 1 (.int .i64 y)).toArray, rfl, hB, hb, by rw [List.length_cons]; exact hn, hm, by simpa using hs, ?_⟩⟩⟩
  rw [List.length_cons, e2, List.flatMap_cons]
  show ((cur.toList.set 0 (.int .i64 x)).set 1 (.int .i64 y)).take (l.length * 2 + 2) = _
  rw [List.take_set, List.take_set, ht]
  rfl
end Go.Proofs.YteogdfiaobccfaaDoor
