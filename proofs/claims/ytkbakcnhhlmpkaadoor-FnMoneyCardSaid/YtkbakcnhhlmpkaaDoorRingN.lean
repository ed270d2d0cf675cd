/- RingNew of the reference; no conditions. -/
import Derived.Test.YtkbakcnhhlmpkaaDoorRingS
import Derived.Test.YtkbakcnhhlmpkaaDoorRowS
import Derived.RegionTactic
set_option linter.unusedVariables false
namespace Go.Proofs.YtkbakcnhhlmpkaaDoor
open Go.ChangeShapes Go.WideShapes Go.ChangeAt Go.RowKit

set_option maxRecDepth 100000 in
theorem infoIntN : (Tryd.prog.info? 3).map (fun i => (i.zero.map (·.cells), i.size, i.bytes)) = some (some #[.int .i64 0], 1, 8) := by kernel_rfl
def ringNew (n sp : Int) : RingD × Bool := if (inB n 1 8 && inB sp 1 1000) = true then ((sp, 0, List.replicate n.toNat 0, List.replicate n.toNat 0), true) else ((0, 0, [], []), false)
def ringRes (r : RingD) (ok : Bool) (w : World) (e : Ending) (w' : World) : Prop := ∃ vc vs, e = .returned (.tuple #[.agg #[.int .i64 r.1, .int .i64 r.2.1, vc, vs], .bool ok]) ∧ RingR.mine w.heap.size w'.heap.size w' [.int .i64 r.1, .int .i64 r.2.1, vc, vs] r ∧ Below w.heap.size w w'

set_option maxRecDepth 100000 in
theorem ringNew_len (n sp : Int) : (ringNew n sp).1.2.2.1.length ≤ 8 ∧ (ringNew n sp).1.2.2.2.length ≤ 8 := by
  unfold ringNew
  split
  · rename_i h
    simp only [Bool.and_eq_true, inB, decide_eq_true_eq] at h
    simp only [List.length_replicate]; omega
  · exact ⟨Nat.zero_le _, Nat.zero_le _⟩

set_option maxRecDepth 100000 in
/-- zeros that have just been made -/
theorem made_nums {w : World} {g k lo hi : Nat} {T : TypeId} (u : World) (hu : u.heap.size = g) (h : w.heap[g]? = (u.alloc (.cells (madeCells #[.int .i64 0] k) T)).heap[g]?) (h1 : lo ≤ g) (h2 : g < hi) : nums .i64 lo hi w (.slice (some ⟨g, 0, none⟩) k k) (List.replicate k 0) := by
  subst hu
  have hr := World.rowIs_made u (.int .i64 0) k T
  refine ⟨_, k, by simp, by simp, fun j hj => ⟨u.heap.size, 0, rfl, h1, h2, ?_, ?_⟩⟩
  · rw [List.length_replicate] at hj
    rw [Nat.zero_add, cell_keep h, World.rowIs.cell hr hj, List.getD_eq_getElem?_getD, List.getElem?_replicate, if_pos hj]
    rfl
  · rw [frozen_keep h]; exact World.rowIs.frozen hr _

set_option maxRecDepth 100000 in
set_option maxHeartbeats 4000000 in
theorem specRingNew_any (n sp : Int) (w : World) :
    Calls Tryd.prog 35 #[.int .i64 n, .int .i64 sp] w (ringRes (ringNew n sp).1 (ringNew n sp).2 w) := by
  have HD : Hid (ringNew n sp = if (inB n 1 8 && inB sp 1 1000) = true then ((sp, 0, List.replicate n.toNat 0, List.replicate n.toNat 0), true) else ((0, 0, [], []), false)) := Lib.hid rfl
  have HI1 := Lib.hid (fun w => inB_any n 1 8 w)
  have HI2 := Lib.hid (fun w => inB_any sp 1 1000 w)
  have hn8 : inB n 1 8 = true → 1 ≤ n ∧ n ≤ 8 := fun h => by simpa [inB] using h
  generalize inB n 1 8 = b1 at HI1 HD hn8
  generalize inB sp 1 1000 = b2 at HI2 HD
  have hrow := heap_alloc_new w (.cells #[.int .i64 0, .int .i64 0, .slice none 0 0, .slice none 0 0] 26)
  have HB0 : Hid (Below w.heap.size w (w.alloc (.cells #[.int .i64 0, .int .i64 0, .slice none 0 0, .slice none 0 0] 26))) := Lib.hid ((Below.refl _ _).alloc (Nat.le_refl _) _)
  cases b1
  · clear hn8
    go_enter Tryd.func35, Tryd.ntmps35
    go_wp2_with fail
    refine (HI1.out _).mono ?_
    rintro e w1 ⟨rfl, rfl⟩
    go_wp2
    refine bodyPost_ret (v := .tuple #[.agg #[.int .i64 0, .int .i64 0, .slice none 0 0, .slice none 0 0], .bool false]) (by simp [results, Tryd.results35, go_sem]) rfl ?_
    rw [HD.out]
    exact ⟨_, _, rfl, ring_mine_of (nums_none _ _ _ _) (nums_none _ _ _ _) (by intro b h; cases h), HB0.out⟩
  cases b2
  · clear hn8
    go_enter Tryd.func35, Tryd.ntmps35
    go_wp2_with fail
    refine (HI1.out _).mono ?_
    rintro e w1 ⟨rfl, rfl⟩
    go_wp2_with fail
    refine (HI2.out _).mono ?_
    rintro e w1 ⟨rfl, rfl⟩
    go_wp2
    refine bodyPost_ret (v := .tuple #[.agg #[.int .i64 0, .int .i64 0, .slice none 0 0, .slice none 0 0], .bool false]) (by simp [results, Tryd.results35, go_sem]) rfl ?_
    rw [HD.out]
    exact ⟨_, _, rfl, ring_mine_of (nums_none _ _ _ _) (nums_none _ _ _ _) (by intro b h; cases h), HB0.out⟩
  obtain ⟨h1, h2⟩ := hn8 rfl
  obtain ⟨k, rfl⟩ := Int.eq_ofNat_of_zero_le (show 0 ≤ n by omega)
  have hmk := fun W => make_run (P := Tryd.prog) 24 3 #[.int .i64 0] 1 8 Tryd.underlying24 infoIntN k (by omega) (by omega) W
  clear hn8
  go_enter Tryd.func35, Tryd.ntmps35
  go_wp2_with fail
  refine (HI1.out _).mono ?_
  rintro e w1 ⟨rfl, rfl⟩
  go_wp2_with fail
  refine (HI2.out _).mono ?_
  rintro e w1 ⟨rfl, rfl⟩
  go_wp2
  go_region
  · go_wp2
    refine bodyPost_ret (v := .tuple #[.agg #[.int .i64 sp, .int .i64 0, .slice (some ⟨w.heap.size + 1, 0, none⟩) k k, .slice (some ⟨w.heap.size + 1 + 1, 0, none⟩) k k], .bool true]) (by simp [results, Tryd.results35, go_sem]) rfl ?_
    rw [HD.out]
    refine ⟨_, _, rfl, ring_mine_of (?_) (?_) (by intro b h h'; cases k <;> simp [Proofs.YtkbakcnhhlmpkaaDoor.blk] at h h'; omega), ((((Below.refl _ _).alloc (Nat.le_refl _) _).alloc (by simp) _).alloc (by simp <;> omega) _).drew⟩
    · show nums .i64 _ _ _ _ (List.replicate k 0)
      exact made_nums (w.alloc _) (by simp) (show (((w.alloc _).alloc _).alloc _).heap[_]? = _ from Below.heap_alloc _ _ _ (by simp)) (by omega) (by show _ < (((w.alloc _).alloc _).alloc _).heap.size; simp)
    · show nums .i64 _ _ _ _ (List.replicate k 0)
      exact made_nums ((w.alloc _).alloc _) (by simp) (show (((w.alloc _).alloc _).alloc _).heap[_]? = _ from rfl) (by omega) (by show _ < (((w.alloc _).alloc _).alloc _).heap.size; simp)
  · go_wp2
    refine bodyPost_ret (v := .tuple #[.agg #[.int .i64 sp, .int .i64 0, .slice (some ⟨w.heap.size + 1 + 1, 0, none⟩) k k, .slice (some ⟨w.heap.size + 1, 0, none⟩) k k], .bool true]) (by simp [results, Tryd.results35, go_sem]) rfl ?_
    rw [HD.out]
    refine ⟨_, _, rfl, ring_mine_of (?_) (?_) (by intro b h h'; cases k <;> simp [Proofs.YtkbakcnhhlmpkaaDoor.blk] at h h'; omega), ((((Below.refl _ _).alloc (Nat.le_refl _) _).alloc (by simp) _).alloc (by simp <;> omega) _).drew⟩
    · show nums .i64 _ _ _ _ (List.replicate k 0)
      exact made_nums ((w.alloc _).alloc _) (by simp) (show (((w.alloc _).alloc _).alloc _).heap[_]? = _ from rfl) (by omega) (by show _ < (((w.alloc _).alloc _).alloc _).heap.size; simp)
    · show nums .i64 _ _ _ _ (List.replicate k 0)
      exact made_nums (w.alloc _) (by simp) (show (((w.alloc _).alloc _).alloc _).heap[_]? = _ from Below.heap_alloc _ _ _ (by simp)) (by omega) (by show _ < (((w.alloc _).alloc _).alloc _).heap.size; simp)
end Go.Proofs.YtkbakcnhhlmpkaaDoor
