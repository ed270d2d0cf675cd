/- RingNew of the program; no conditions. -/
import Derived.Test.YteogdfiaobccfaaDoorRingN
import Derived.Test.YteogdfiaobccfaaDoorRingOI
set_option linter.unusedVariables false
namespace Go.Proofs.YteogdfiaobccfaaDoor
open Go.ChangeShapes Go.WideShapes Go.ChangeAt Go.RowKit

set_option maxRecDepth 100000 in
set_option maxHeartbeats 4000000 in
theorem implRingNew_any (n sp : Int) (w : World) :
    Calls Tryd.prog 8 #[.int .i64 n, .int .i64 sp] w (ringRes (ringNew n sp).1 (ringNew n sp).2 w) := by
  have HD : Hid (ringNew n sp = if (inB n 1 8 && inB sp 1 1000) = true then ((sp, 0, List.replicate n.toNat 0, List.replicate n.toNat 0), true) else ((0, 0, [], []), false)) := Lib.hid rfl
  have HI1 := Lib.hid (fun w => implBuckets_any n w)
  have HI2 := Lib.hid (fun w => implSpan_any sp w)
  have hn8 : inB n 1 8 = true → 1 ≤ n ∧ n ≤ 8 := fun h => by simpa [inB] using h
  generalize inB n 1 8 = b1 at HI1 HD hn8
  generalize inB sp 1 1000 = b2 at HI2 HD
  have hrow := heap_alloc_new w (.cells #[.int .i64 0, .int .i64 0, .slice none 0 0, .slice none 0 0] 27)
  have HB0 : Hid (Below w.heap.size w (w.alloc (.cells #[.int .i64 0, .int .i64 0, .slice none 0 0, .slice none 0 0] 27))) := Lib.hid ((Below.refl _ _).alloc (Nat.le_refl _) _)
  cases b1
  · clear hn8
    go_enter Tryd.func8, Tryd.ntmps8
    go_wp2_with fail
    refine (HI1.out _).mono ?_
    rintro e w1 ⟨rfl, rfl⟩
    go_wp2
    refine bodyPost_ret (v := .tuple #[.agg #[.int .i64 0, .int .i64 0, .slice none 0 0, .slice none 0 0], .bool false]) (by simp [results, Tryd.results8, go_sem]) rfl ?_
    rw [HD.out]
    exact ⟨_, _, rfl, ring_mine_of (nums_none _ _ _ _) (nums_none _ _ _ _) (by intro b h; cases h), HB0.out⟩
  cases b2
  · clear hn8
    go_enter Tryd.func8, Tryd.ntmps8
    go_wp2_with fail
    refine (HI1.out _).mono ?_
    rintro e w1 ⟨rfl, rfl⟩
    go_wp2_with fail
    refine (HI2.out _).mono ?_
    rintro e w1 ⟨rfl, rfl⟩
    go_wp2
    refine bodyPost_ret (v := .tuple #[.agg #[.int .i64 0, .int .i64 0, .slice none 0 0, .slice none 0 0], .bool false]) (by simp [results, Tryd.results8, go_sem]) rfl ?_
    rw [HD.out]
    exact ⟨_, _, rfl, ring_mine_of (nums_none _ _ _ _) (nums_none _ _ _ _) (by intro b h; cases h), HB0.out⟩
  obtain ⟨h1, h2⟩ := hn8 rfl
  obtain ⟨k, rfl⟩ := Int.eq_ofNat_of_zero_le (show 0 ≤ n by omega)
  have hmk := fun W => make_run (P := Tryd.prog) 23 3 #[.int .i64 0] 1 8 Tryd.underlying23 infoIntN k (by omega) (by omega) W
  clear hn8
  go_enter Tryd.func8, Tryd.ntmps8
  go_wp2_with fail
  refine (HI1.out _).mono ?_
  rintro e w1 ⟨rfl, rfl⟩
  go_wp2_with fail
  refine (HI2.out _).mono ?_
  rintro e w1 ⟨rfl, rfl⟩
  go_wp2
  go_region
  · go_wp2
    refine bodyPost_ret (v := .tuple #[.agg #[.int .i64 sp, .int .i64 0, .slice (some ⟨w.heap.size + 1, 0, none⟩) k k, .slice (some ⟨w.heap.size + 1 + 1, 0, none⟩) k k], .bool true]) (by simp [results, Tryd.results8, go_sem]) rfl ?_
    rw [HD.out]
    refine ⟨_, _, rfl, ring_mine_of (?_) (?_) (by intro b h h'; cases k <;> simp [Proofs.YteogdfiaobccfaaDoor.blk] at h h'; omega), ((((Below.refl _ _).alloc (Nat.le_refl _) _).alloc (by simp) _).alloc (by simp <;> omega) _).drew⟩
    · show nums .i64 _ _ _ _ (List.replicate k 0)
      exact made_nums (w.alloc _) (by simp) (show (((w.alloc _).alloc _).alloc _).heap[_]? = _ from Below.heap_alloc _ _ _ (by simp)) (by omega) (by show _ < (((w.alloc _).alloc _).alloc _).heap.size; simp)
    · show nums .i64 _ _ _ _ (List.replicate k 0)
      exact made_nums ((w.alloc _).alloc _) (by simp) (show (((w.alloc _).alloc _).alloc _).heap[_]? = _ from rfl) (by omega) (by show _ < (((w.alloc _).alloc _).alloc _).heap.size; simp)
  · go_wp2
    refine bodyPost_ret (v := .tuple #[.agg #[.int .i64 sp, .int .i64 0, .slice (some ⟨w.heap.size + 1 + 1, 0, none⟩) k k, .slice (some ⟨w.heap.size + 1, 0, none⟩) k k], .bool true]) (by simp [results, Tryd.results8, go_sem]) rfl ?_
    rw [HD.out]
    refine ⟨_, _, rfl, ring_mine_of (?_) (?_) (by intro b h h'; cases k <;> simp [Proofs.YteogdfiaobccfaaDoor.blk] at h h'; omega), ((((Below.refl _ _).alloc (Nat.le_refl _) _).alloc (by simp) _).alloc (by simp <;> omega) _).drew⟩
    · show nums .i64 _ _ _ _ (List.replicate k 0)
      exact made_nums ((w.alloc _).alloc _) (by simp) (show (((w.alloc _).alloc _).alloc _).heap[_]? = _ from rfl) (by omega) (by show _ < (((w.alloc _).alloc _).alloc _).heap.size; simp)
    · show nums .i64 _ _ _ _ (List.replicate k 0)
      exact made_nums (w.alloc _) (by simp) (show (((w.alloc _).alloc _).alloc _).heap[_]? = _ from Below.heap_alloc _ _ _ (by simp)) (by omega) (by show _ < (((w.alloc _).alloc _).alloc _).heap.size; simp)
end Go.Proofs.YteogdfiaobccfaaDoor
