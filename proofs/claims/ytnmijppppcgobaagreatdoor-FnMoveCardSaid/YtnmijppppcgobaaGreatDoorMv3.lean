/- What the laws FnMove need besides; no conditions. -/
import Derived.Test.YtnmijppppcgobaaGreatDoorMrg1
import Derived.BigQuiet
import Derived.Deep.QuietTactic
import Derived.OneCell
import Derived.Test.YtnmijppppcgobaaGreatDoorMrg5
import Derived.Test.YtnmijppppcgobaaGreatDoorMrg3
import Derived.Test.YtnmijppppcgobaaGreatDoorMrg2
import Derived.Deep.RegionLaw
import Derived.Test.YtnmijppppcgobaaGreatDoorMrg4
import Derived.Deep.DeepCutAuto
import Derived.Test.YtnmijppppcgobaaGreatDoorMrg6
import Derived.Test.YtnmijppppcgobaaGreatDoorMv1
set_option linter.unusedVariables false
namespace Go.Proofs.YtnmijppppcgobaaGreatDoor
open Go.ChangeShapes Go.WideShapes Go.ChangeAt Go.RowKit

/-- the bytes of a slice can be read; they do not lie in block b -/
def readable (w : World) (b : Nat) : Value → Prop
  | .slice none len _ => len = 0
  | .slice (some a) len _ => len ≤ 9223372036854775807 ∧ ∀ i, i < len → ∃ s off : Nat, a = ⟨s, off, none⟩ ∧ s < b ∧ ∃ z : Int, w.cell? ⟨s, off + i, none⟩ = some (.int .u8 z) ∧ 0 ≤ z ∧ z ≤ 255
  | _ => False
def lenOf : Value → Nat | .slice _ n _ => n | _ => 0

set_option maxRecDepth 100000 in
theorem and_255 (a : Int) : 0 ≤ bits BinOp.and IntKind.i64 a 255 ∧ bits BinOp.and IntKind.i64 a 255 ≤ 255 := by
  unfold bits
  simp only [BitVec.toNat_and]
  have h1 : (BitVec.ofInt IntKind.i64.bits 255).toNat = 255 := by decide
  rw [h1]
  have h2 : (BitVec.ofInt IntKind.i64.bits a).toNat &&& 255 ≤ 255 := Nat.and_le_right
  generalize (BitVec.ofInt IntKind.i64.bits a).toNat &&& 255 = n at h2
  rw [IntWalk.i64_in _ (by omega)]
  omega

/-- block b is a cursor: what it reads, at which place, its number -/
def curAt (w : World) (b : Nat) (sv : Value) (i : Nat) (h : Int) : Prop := w.heap[b]? = some (.cells #[sv, .int .i64 i, .int .i64 h] 76 (0, 0))
/-- nothing but block b turns -/
structure onlyAt (b : Nat) (w w' : World) : Prop where
  os : w'.os = w.os
  tape : w'.tape = w.tape
  output : w'.output = w.output
  size : w'.heap.size = w.heap.size
  block : ∀ k, k ≠ b → w'.heap[k]? = w.heap[k]?

set_option maxRecDepth 100000 in
theorem onlyAt.refl (b : Nat) (w : World) : onlyAt b w w := ⟨rfl, rfl, rfl, rfl, fun _ _ => rfl⟩
set_option maxRecDepth 100000 in
theorem onlyAt.trans {b : Nat} {u v w : World} (h : onlyAt b u v) (g : onlyAt b v w) : onlyAt b u w :=
  ⟨g.os.trans h.os, g.tape.trans h.tape, g.output.trans h.output, g.size.trans h.size, fun k hk => (g.block k hk).trans (h.block k hk)⟩
set_option maxRecDepth 100000 in
theorem onlyAt.drewN {b : Nat} {u v : World} (h : onlyAt b u v) (n : Nat) : onlyAt b u (v.drewN n) := h.trans ⟨rfl, rfl, rfl, rfl, fun _ _ => rfl⟩
set_option maxRecDepth 100000 in
theorem onlyAt.set {b : Nat} {u v : World} (h : onlyAt b u v) (o : Nat) (x : Value) : onlyAt b u (v.setCell ⟨b, o, none⟩ x) :=
  h.trans ⟨rfl, rfl, rfl, by simp [World.setCell], fun k hk => Below.heap_setCell _ _ _ _ hk⟩
set_option maxRecDepth 100000 in
theorem onlyAt.below {b B : Nat} {u v : World} (h : onlyAt b u v) (hB : B ≤ b) : Below B u v := ⟨h.os, h.tape, h.output, by rw [h.size]; exact Nat.le_refl _, fun k hk => h.block k (by omega)⟩
set_option maxRecDepth 100000 in
theorem onlyAt.cell {b : Nat} {u v : World} (h : onlyAt b u v) {p : Addr} (hp : p.block ≠ b) : v.cell? p = u.cell? p := World.cell?_of_block (h.block p.block hp)
set_option maxRecDepth 100000 in
theorem readable.only {b : Nat} {u v : World} {sv : Value} (hr : readable u b sv) (h : onlyAt b u v) : readable v b sv := by
  unfold readable at hr ⊢
  split at hr
  · exact hr
  · obtain ⟨h1, h3⟩ := hr
    refine ⟨h1, fun i hi => ?_⟩
    obtain ⟨s, off, rfl, h2, z, hz, h4⟩ := h3 i hi
    exact ⟨s, off, rfl, h2, z, (h.cell (p := ⟨_, _, none⟩) (Nat.ne_of_lt h2)).trans hz, h4⟩
  · exact hr
set_option maxRecDepth 100000 in
theorem readable.le {w : World} {b c : Nat} {sv : Value} (hr : readable w b sv) (h : b ≤ c) : readable w c sv := by
  unfold readable at hr ⊢
  split at hr
  · exact hr
  · refine ⟨hr.1, fun i hi => ?_⟩
    obtain ⟨s, off, e, h2, h3⟩ := hr.2 i hi
    exact ⟨s, off, e, Nat.lt_of_lt_of_le h2 h, h3⟩
  · exact hr
set_option maxRecDepth 100000 in
theorem cur_set {w : World} {b : Nat} {xs : Array Value} {t : TypeId} (h : w.heap[b]? = some (.cells xs t (0, 0))) (o : Nat) (x : Value) : (w.setCell ⟨b, o, none⟩ x).heap[b]? = some (.cells (xs.setIfInBounds o x) t (0, 0)) := by
  have hlt := lt_of_block h
  have h' : w.heap[b] = .cells xs t (0, 0) := by simpa [Array.getElem?_eq_getElem hlt] using h
  show (w.heap.modify b _)[b]? = _
  rw [Array.getElem?_eq_getElem (by simpa using hlt), Array.getElem_modify_self, h']
  rfl
set_option maxRecDepth 100000 in
theorem cur_cell {w : World} {b : Nat} {xs : Array Value} {t : TypeId} (h : w.heap[b]? = some (.cells xs t (0, 0))) (o : Nat) (x : Value) (hx : xs[o]? = some x) : w.cell? ⟨b, o, none⟩ = some x := by simp [World.cell?, h, hx]
set_option maxRecDepth 100000 in
theorem cur_free {w : World} {b : Nat} {xs : Array Value} {t : TypeId} (h : w.heap[b]? = some (.cells xs t (0, 0))) (o : Nat) : w.frozen? ⟨b, o, none⟩ = false := by simp [World.frozen?, h]

/-- what a step of the cursor comes to -/
def stepped (b : Nat) (sv : Value) (lo hi : Int) (w : World) (e : Ending) (w' : World) : Prop :=
  ∃ (x : Int) (i' : Nat) (h' : Int), e = .returned (.int .i64 x) ∧ lo ≤ x ∧ x ≤ hi ∧ i' ≤ lenOf sv ∧ curAt w' b sv i' h' ∧ onlyAt b w w'

set_option maxRecDepth 100000 in
theorem cur_h {w : World} {b : Nat} {sv : Value} {i : Nat} {h : Int} (hc : curAt w b sv i h) (h' : Int) : curAt (w.setCell ⟨b, 2, none⟩ (.int .i64 h')) b sv i h' := cur_set hc 2 _
set_option maxRecDepth 100000 in
theorem cur_i {w : World} {b : Nat} {sv : Value} {i : Nat} {h : Int} (hc : curAt w b sv i h) (i' : Nat) (n : Int) (hn : n = i') : curAt (w.setCell ⟨b, 1, none⟩ (.int .i64 n)) b sv i' h := by subst hn; exact cur_set hc 1 _
set_option maxRecDepth 100000 in
theorem step_end {b : Nat} {sv : Value} {w W : World} {i : Nat} {h a : Int} (hc : curAt W b sv i h) (hi : i ≤ lenOf sv) (ho : onlyAt b w W) : stepped b sv 0 255 w (.returned (.int .i64 (bits BinOp.and IntKind.i64 a 255))) W :=
  ⟨_, i, h, rfl, (and_255 _).1, (and_255 _).2, hi, hc, ho⟩

set_option maxRecDepth 100000 in
set_option maxHeartbeats 800000 in
theorem byte_any (b : Nat) (sv : Value) (i : Nat) (h : Int) (w : World) (hc : curAt w b sv i h) (hi : i ≤ lenOf sv) (hr : readable w b sv) :
    Calls Tryz.prog 119 #[.pointer (some ⟨b, 0, none⟩)] w (stepped b sv 0 255 w) := by
  have c0 : w.cell? ⟨b, 0, none⟩ = some sv := cur_cell hc 0 _ rfl
  have c1 : w.cell? ⟨b, 1, none⟩ = some (.int .i64 i) := cur_cell hc 1 _ rfl
  have c2 : w.cell? ⟨b, 2, none⟩ = some (.int .i64 h) := cur_cell hc 2 _ rfl
  have f1 : w.frozen? ⟨b, 1, none⟩ = false := cur_free hc 1
  have f2 : w.frozen? ⟨b, 2, none⟩ = false := cur_free hc 2
  have HC := Lib.hid hc
  have HR := Lib.hid hr
  clear hc hr
  match sv, HR, hi with
  | .slice none len cap, HR, hi =>
    obtain rfl : len = 0 := HR.out
    obtain rfl : i = 0 := by simpa [lenOf] using hi
    go_enter Tryz.func119, Tryz.ntmps119
    go_wp2
    go_quiet (fail)
    go_wp2
    go_quiet (fail)
    go_wp2
    go_ret
    exact step_end (cur_h HC.out _) (Nat.zero_le _) ((((onlyAt.refl _ _).set 2 _).drewN _).drewN _)
  | .slice (some a) len cap, HR, hi =>
    obtain ⟨hl, hz⟩ := HR.out
    have hi' : i ≤ len := hi
    by_cases hlt : i < len
    · obtain ⟨s, off, rfl, hsb, z, hz1, hz2, hz3⟩ := hz i hlt
      have hne : s ≠ b := Nat.ne_of_lt hsb
      have HZ := Lib.hid hz
      clear hz hi
      go_enter Tryz.func119, Tryz.ntmps119
      go_wp2
      go_quiet (fail)
      go_wp2
      go_quiet (fail)
      go_wp2
      go_quiet (fail)
      go_wp2
      go_ret
      exact step_end (cur_i (cur_h HC.out _) (i + 1) _ (by omega)) (by show i + 1 ≤ len; omega) ((((onlyAt.refl _ _).set 2 _).set 1 _).drewN _)
    · have HZ := Lib.hid hz
      clear hz hi
      go_enter Tryz.func119, Tryz.ntmps119
      go_wp2
      go_quiet (fail)
      go_wp2
      go_quiet (fail)
      go_wp2
      go_ret
      exact step_end (cur_h HC.out _) hi' ((((onlyAt.refl _ _).set 2 _).drewN _).drewN _)

set_option maxRecDepth 100000 in
theorem stepped_mod {b : Nat} {sv : Value} {w : World} {W : World} {x n : Int} {i : Nat} {h : Int} (hx : 0 ≤ x) (hn : 0 < n) (hi : i ≤ lenOf sv) (hc : curAt W b sv i h) (ho : onlyAt b w W) : stepped b sv 0 (n - 1) w (.returned (.int .i64 (x % n))) W :=
  ⟨_, i, h, rfl, Int.emod_nonneg _ (by omega), by have := Int.emod_lt_of_pos x hn; omega, hi, hc, ho⟩

set_option maxRecDepth 100000 in
set_option maxHeartbeats 800000 in
/-- from 0 to n - 1 -/
theorem below_any (b : Nat) (sv : Value) (i : Nat) (h n : Int) (w : World) (hc : curAt w b sv i h) (hi : i ≤ lenOf sv) (hr : readable w b sv) (hn : 0 < n) (hm : n ≤ 9223372036854775807) :
    Calls Tryz.prog 53 #[.pointer (some ⟨b, 0, none⟩), .int .i64 n] w (stepped b sv 0 (n - 1) w) := by
  by_cases h256 : n ≤ 256
  · go_enter Tryz.func53, Tryz.ntmps53
    go_wp2_with fail
    refine (byte_any b sv i h w hc hi hr).mono ?_
    rintro e w1 ⟨x, i1, h1, rfl, hx0, hx1, hi1, hc1, ho1⟩
    go_wp2
    go_ret
    exact stepped_mod hx0 hn hi1 hc1 ho1
  · go_enter Tryz.func53, Tryz.ntmps53
    go_wp2_with fail
    refine (byte_any b sv i h w hc hi hr).mono ?_
    rintro e w1 ⟨x1, i1, h1, rfl, hx10, hx11, hi1, hc1, ho1⟩
    go_wp2_with fail
    refine (byte_any b sv i1 h1 w1 hc1 hi1 (hr.only ho1)).mono ?_
    rintro e w2 ⟨x2, i2, h2, rfl, hx20, hx21, hi2, hc2, ho2⟩
    go_wp2_with fail
    refine (byte_any b sv i2 h2 w2 hc2 hi2 ((hr.only ho1).only ho2)).mono ?_
    rintro e w3 ⟨x3, i3, h3, rfl, hx30, hx31, hi3, hc3, ho3⟩
    go_wp2_with fail
    refine (byte_any b sv i3 h3 w3 hc3 hi3 (((hr.only ho1).only ho2).only ho3)).mono ?_
    rintro e w4 ⟨x4, i4, h4, rfl, hx40, hx41, hi4, hc4, ho4⟩
    go_wp2
    go_ret
    exact stepped_mod (by omega) hn hi4 hc4 (((ho1.trans ho2).trans ho3).trans ho4)

/-- what the making of a cursor comes to -/
def made (sv : Value) (w : World) (e : Ending) (w' : World) : Prop :=
  ∃ h : Int, e = .returned (.pointer (some ⟨w.heap.size, 0, none⟩)) ∧ w' = w.alloc (.cells #[sv, .int .i64 0, .int .i64 h] 76)
set_option maxRecDepth 100000 in
theorem made_cur (sv : Value) (w : World) (h : Int) : curAt (w.alloc (.cells #[sv, .int .i64 0, .int .i64 h] 76)) w.heap.size sv 0 h := by
  show (w.heap.push _)[w.heap.size]? = _
  simp
set_option maxRecDepth 100000 in
theorem readable.alloc {w : World} {b : Nat} {sv : Value} (hr : readable w b sv) (o : Obj) : readable (w.alloc o) b sv := by
  unfold readable at hr ⊢
  split at hr
  · exact hr
  · obtain ⟨h1, h3⟩ := hr
    refine ⟨h1, fun i hi => ?_⟩
    obtain ⟨s, off, rfl, h2, z, hz, h4⟩ := h3 i hi
    exact ⟨s, off, rfl, h2, z, cell?_alloc_old o hz, h4⟩
  · exact hr

set_option maxRecDepth 100000 in
set_option maxHeartbeats 800000 in
theorem new_any (sv : Value) (w : World) (hr : readable w w.heap.size sv) (hlen : lenOf sv ≤ 1048576) :
    Calls Tryz.prog 50 #[sv] w (made sv w) := by
  match sv, hr, hlen with
  | .slice none len cap, hr, hlen =>
    obtain rfl : len = 0 := hr
    go_enter Tryz.func50, Tryz.ntmps50
    go_wp2
    go_loop [3, 4] (fun hv iv => ∃ hh : Int, iv = .int .i64 0 ∧ hv = .int .i64 hh) (fun _ _ => 0)
    case atStart => exact ⟨_, rfl, rfl⟩
    case round =>
      obtain ⟨hh, rfl, rfl⟩ := hrel
      go_wp2
      go_ret
      exact ⟨_, rfl, rfl⟩
  | .slice (some a) len cap, hr, hlen =>
    obtain ⟨hl, hz⟩ := hr
    rcases Nat.eq_zero_or_pos len with h0 | h0
    · subst h0
      clear hz hlen
      go_enter Tryz.func50, Tryz.ntmps50
      go_wp2
      go_loop [3, 4] (fun hv iv => ∃ hh : Int, iv = .int .i64 0 ∧ hv = .int .i64 hh) (fun _ _ => 0)
      case atStart => exact ⟨_, rfl, rfl⟩
      case round =>
        obtain ⟨hh, rfl, rfl⟩ := hrel
        go_wp2
        go_ret
        exact ⟨_, rfl, rfl⟩
    obtain ⟨s, off, rfl, _, _⟩ := hz 0 h0
    have hz : ∀ i, i < len → ∃ z : Int, w.cell? ⟨s, off + i, none⟩ = some (.int .u8 z) ∧ 0 ≤ z ∧ z ≤ 255 := fun i hi => by
      obtain ⟨s', off', e, _, h⟩ := hz i hi
      simp only [Addr.mk.injEq, and_true] at e
      obtain ⟨rfl, rfl⟩ := e
      exact h
    have HZ := Lib.hid hz
    have hlen' : len ≤ 1048576 := hlen
    clear hz hlen
    go_enter Tryz.func50, Tryz.ntmps50
    go_wp2
    go_loop [3, 4] (fun hv iv => ∃ (k : Nat) (hh : Int), k ≤ len ∧ iv = .int .i64 k ∧ hv = .int .i64 hh) (fun _ iv => len - (intOf iv).toNat)
    case atStart => exact ⟨0, _, Nat.zero_le _, rfl, rfl⟩
    case round =>
      obtain ⟨k, hh, hk, rfl, rfl⟩ := hrel
      by_cases hlt : k < len
      · obtain ⟨z, hz1, hz2, hz3⟩ := HZ.out k hlt
        by_cases h4 : (k : Int) < 4000
        · go_wp2
          go_round
          case rel => exact ⟨k + 1, _, by omega, by go_num, rfl⟩
          case measure => simp [intOf] <;> omega
        · go_wp2
          go_ret
          exact ⟨_, rfl, rfl⟩
      · go_wp2
        go_ret
        exact ⟨_, rfl, rfl⟩
end Go.Proofs.YtnmijppppcgobaaGreatDoor
set_option linter.unusedVariables false
namespace Go.Proofs.YtnmijppppcgobaaGreatDoor
open Go.ChangeShapes Go.WideShapes Go.ChangeAt Go.RowKit Go.WideElems

set_option maxRecDepth 100000 in
theorem cellsU8 : Tryz.prog.cellsOf 5 = 1 := by kernel_rfl
set_option maxRecDepth 100000 in
theorem open_readable {H : Type} {enc : TypeId × Value → H} {W : World} {base : Nat} {v : Value} {d : DataW H} {p : List MemPlace} (hval : Value.okWide Tryz.prog W .any base 22 v) (h : DataW.Trod enc Tryz.prog W 0 (fun _ => true) true 22 v d p) : ∃ ao len cap, v = .slice ao len cap ∧ readable W W.heap.size (.slice ao len cap) := by
  obtain ⟨ao, len, cap, rfl⟩ := okWide_slice Tryz.underlying22 hval
  obtain ⟨fuel, hf⟩ := h
  refine ⟨ao, len, cap, rfl, ?_⟩
  rcases open_ints Tryz.underlying22 Tryz.underlying5 cellsU8 hf with ⟨hcs, hx⟩ | ⟨a, len', cap', zs, hcs, _, hl, hm, hz, hx, hcell, hwz⟩
  · simp only [Value.cells, List.cons.injEq, Value.slice.injEq, and_true] at hcs
    obtain ⟨rfl, rfl, rfl⟩ := hcs
    rfl
  · simp only [Value.cells, List.cons.injEq, Value.slice.injEq, and_true] at hcs
    obtain ⟨rfl, rfl, rfl⟩ := hcs
    simp only [if_true] at hz
    refine ⟨by unfold maxLen at hm; omega, fun i hi => ?_⟩
    obtain ⟨b, off, rfl, hc⟩ := ints_at hcell (by omega)
    have hb : b < W.heap.size := by
      have h0 := hc i (by omega)
      rcases Nat.lt_or_ge b W.heap.size with h' | h'
      · exact h'
      · simp [World.cell?, Array.getElem?_eq_none h'] at h0
    refine ⟨b, off, rfl, hb, zs.getD i 0, hc i (by omega), ?_⟩
    have hw := hwz (zs.getD i 0) (by rw [List.getD_eq_getElem?_getD, List.getElem?_eq_getElem (by omega)]; exact List.getElem_mem _)
    exact bounds_u8 hw
end Go.Proofs.YtnmijppppcgobaaGreatDoor
set_option linter.unusedVariables false
namespace Go.Proofs.YtnmijppppcgobaaGreatDoor
open Go.ChangeShapes Go.WideShapes Go.ChangeAt Go.RowKit

set_option maxRecDepth 100000 in
theorem readable.below {w w' : World} {b : Nat} {sv : Value} (hr : readable w b sv) (hb : Below w.heap.size w w') : readable w' b sv := by
  unfold readable at hr ⊢
  split at hr
  · exact hr
  · obtain ⟨h1, h3⟩ := hr
    refine ⟨h1, fun i hi => ?_⟩
    obtain ⟨s, off, rfl, h2, z, hz, h4⟩ := h3 i hi
    have hlt : ∀ (s o : Nat) (v : Value), w.cell? ⟨s, o, none⟩ = some v → s < w.heap.size := fun s o v h => by
      rcases Nat.lt_or_ge s w.heap.size with h' | h'
      · exact h'
      · simp [World.cell?, Array.getElem?_eq_none h'] at h
    exact ⟨s, off, rfl, h2, z, (hb.cell (p := ⟨_, _, none⟩) (hlt _ _ _ hz)).trans hz, h4⟩
  · exact hr
set_option maxRecDepth 100000 in
theorem cur_alloc {w : World} {b : Nat} {sv : Value} {i : Nat} {h : Int} (hc : curAt w b sv i h) (o : Obj) : curAt (w.alloc o) b sv i h := by
  have hlt := lt_of_block hc
  show (w.heap.push o)[b]? = _
  rw [Array.getElem?_push, if_neg (by omega)]
  exact hc
end Go.Proofs.YtnmijppppcgobaaGreatDoor
set_option linter.unusedVariables false
namespace Go.Proofs.YtnmijppppcgobaaGreatDoor
open Go.ChangeShapes Go.WideShapes Go.ChangeAt Go.RowKit

/-- block p holds these texts -/
def textsAt (w : World) (p : Nat) (L : List (List UInt8)) : Prop := ∀ (j : Nat) (x : List UInt8), L[j]? = some x → w.cell? ⟨p, j, none⟩ = some (.string ⟨x.toArray⟩)
set_option maxRecDepth 100000 in
theorem onlyAt.grown {b : Nat} {u v : World} (h : onlyAt b u v) : u.grownBy v (some b) := ⟨h.os, h.tape, h.output, by rw [h.size]; exact Nat.le_refl _, fun k _ hne => h.block k (fun e => hne (by rw [e]))⟩
set_option maxRecDepth 100000 in
theorem grown_trans {u v w : World} {b : Nat} (h : u.grownBy v (some b)) (g : v.grownBy w (some b)) : u.grownBy w (some b) :=
  ⟨g.os.trans h.os, g.tape.trans h.tape, g.output.trans h.output, Nat.le_trans h.size g.size, fun k hk hne => (g.block k (Nat.lt_of_lt_of_le hk h.size) hne).trans (h.block k hk hne)⟩
set_option maxRecDepth 100000 in
theorem grown_below {u v : World} {b : Nat} (h : Below u.heap.size u v) : u.grownBy v (some b) := ⟨h.os, h.tape, h.output, h.size, fun k hk _ => h.block k hk⟩
set_option maxRecDepth 100000 in
theorem grown_alloc {u v : World} {b : Nat} (h : u.grownBy v (some b)) (o : Obj) : u.grownBy (v.alloc o) (some b) := grown_trans h (grown_below ((Below.refl _ _).alloc (Nat.le_refl _) _))
set_option maxRecDepth 100000 in
theorem readable.grownAt {w w' : World} {b : Nat} {sv : Value} (hr : readable w b sv) (hg : w.grownBy w' (some b)) (hb : b ≤ w.heap.size) : readable w' b sv := by
  unfold readable at hr ⊢
  split at hr
  · exact hr
  · obtain ⟨h1, h3⟩ := hr
    refine ⟨h1, fun i hi => ?_⟩
    obtain ⟨s, off, rfl, h2, z, hz, h4⟩ := h3 i hi
    exact ⟨s, off, rfl, h2, z, (World.cell?_of_block (a := ⟨s, _, none⟩) (hg.block s (by omega) (fun e => by simp at e; omega))).trans hz, h4⟩
  · exact hr
set_option maxRecDepth 100000 in
theorem lt_of_cur {w : World} {b : Nat} {sv : Value} {i : Nat} {h : Int} (hc : curAt w b sv i h) : b < w.heap.size := lt_of_block hc

set_option maxRecDepth 100000 in
set_option maxHeartbeats 800000 in
/-- one of the texts of a list -/
theorem pickStr_any (b : Nat) (sv : Value) (i : Nat) (h : Int) (p n : Nat) (L : List (List UInt8)) (w : World) (hc : curAt w b sv i h) (hi : i ≤ lenOf sv) (hr : readable w b sv) (hp : p ≠ b) (hL : textsAt w p L) (hn : L.length = n) (h0 : 0 < n) (h1 : n ≤ 256) :
    Calls Tryz.prog 118 #[.pointer (some ⟨b, 0, none⟩), .slice (some ⟨p, 0, none⟩) n n] w fun e w' => ∃ (x : List UInt8) (i' : Nat) (h' : Int), x ∈ L ∧ e = .returned (.string ⟨x.toArray⟩) ∧ i' ≤ lenOf sv ∧ curAt w' b sv i' h' ∧ onlyAt b w w' := by
  have HL := Lib.hid hL
  have HN := Lib.hid hn
  clear hL hn
  go_enter Tryz.func118, Tryz.ntmps118
  go_wp2_with fail
  refine (below_any b sv i h n w hc hi hr (by omega) (by omega)).mono ?_
  rintro e w1 ⟨x, i1, h1, rfl, hx0, hx1, hi1, hc1, ho1⟩
  obtain ⟨k, rfl⟩ := Int.eq_ofNat_of_zero_le hx0
  have hk : k < L.length := by have := HN.out; omega
  have hk' : k < n := by omega
  have hcell : w1.cell? ⟨p, k, none⟩ = some (.string ⟨(L[k]).toArray⟩) := (ho1.cell (p := ⟨p, k, none⟩) hp).trans (HL.out k _ (List.getElem?_eq_getElem hk))
  have HM := Lib.hid (List.getElem_mem hk)
  generalize L[k] = t at hcell HM
  go_wp2
  go_ret
  exact ⟨t, i1, h1, HM.out, rfl, hi1, hc1, ho1⟩
end Go.Proofs.YtnmijppppcgobaaGreatDoor
set_option linter.unusedVariables false
namespace Go.Proofs.YtnmijppppcgobaaGreatDoor
open Go.ChangeShapes Go.WideShapes Go.ChangeAt Go.RowKit

set_option maxRecDepth 100000 in
set_option maxHeartbeats 800000 in
/-- once in n -/
theorem once_any (b : Nat) (sv : Value) (i : Nat) (h n : Int) (w : World) (hc : curAt w b sv i h) (hi : i ≤ lenOf sv) (hr : readable w b sv) (hn : 0 < n) (hm : n ≤ 9223372036854775807) :
    Calls Tryz.prog 116 #[.pointer (some ⟨b, 0, none⟩), .int .i64 n] w fun e w' => ∃ (x : Bool) (i' : Nat) (h' : Int), e = .returned (.bool x) ∧ i' ≤ lenOf sv ∧ curAt w' b sv i' h' ∧ onlyAt b w w' := by
  go_enter Tryz.func116, Tryz.ntmps116
  go_wp2_with fail
  refine (below_any b sv i h n w hc hi hr hn hm).mono ?_
  rintro e w1 ⟨x, i1, h1, rfl, hx0, hx1, hi1, hc1, ho1⟩
  go_wp2
  go_ret
  exact ⟨_, i1, h1, rfl, hi1, hc1, ho1⟩

set_option maxRecDepth 100000 in
theorem nums.keep {K : IntKind} {lo hi : Nat} {w w' : World} {v : Value} {l : List Int} (h : nums K lo hi w v l) (hk : ∀ b, lo ≤ b → b < hi → w'.heap[b]? = w.heap[b]?) : nums K lo hi w' v l := by
  obtain ⟨A, c, rfl, hc, hj⟩ := h
  refine ⟨A, c, rfl, hc, fun j hl => ?_⟩
  obtain ⟨b, off, e, h1, h2, h3, h4⟩ := hj j hl
  exact ⟨b, off, e, h1, h2, (cell_keep (hk b h1 h2)).trans h3, (frozen_keep (hk b h1 h2)).trans h4⟩
set_option maxRecDepth 100000 in
theorem grown_then {w u v : World} {b B : Nat} (h : w.grownBy u (some b)) (g : Below B u v) (hB : w.heap.size ≤ B) : w.grownBy v (some b) :=
  ⟨g.os.trans h.os, g.tape.trans h.tape, g.output.trans h.output, Nat.le_trans h.size g.size, fun k hk hne => (g.block k (by omega)).trans (h.block k hk hne)⟩
set_option maxRecDepth 100000 in
theorem rd.grownAt {K : IntKind} {hi g lo : Nat} {w w' : World} {v : Value} {l : List Int} (h : nums K lo hi w v l) (hg : w.grownBy w' (some g)) (hgl : g < lo ∨ hi ≤ g) (hh : hi ≤ w.heap.size) : nums K lo hi w' v l := h.grown hg hh (fun k hk => by cases hk; exact hgl)
set_option maxRecDepth 100000 in
theorem texts_at (w : World) (T : TypeId) (L : List (List UInt8)) (us : Array Value) (n : Nat) (hu : us = (L.map fun x => Value.string ⟨x.toArray⟩).toArray) (hn : n = w.heap.size) : textsAt (w.alloc (.cells us T)) n L := by
  subst hn
  subst hu
  intro j x hx
  rw [cell_of_row _ _ j _ _ (0, 0) (heap_alloc_new _ _)]
  simp [hx]
/-- block p holds these numbers -/
def intsAt (w : World) (p : Nat) (L : List Int) : Prop := ∀ (j : Nat) (x : Int), L[j]? = some x → w.cell? ⟨p, j, none⟩ = some (.int .i64 x)
set_option maxRecDepth 100000 in
theorem ints_at (w : World) (T : TypeId) (L : List Int) (us : Array Value) (n : Nat) (hu : us = (L.map fun x => Value.int .i64 x).toArray) (hn : n = w.heap.size) : intsAt (w.alloc (.cells us T)) n L := by
  subst hn
  subst hu
  intro j x hx
  rw [cell_of_row _ _ j _ _ (0, 0) (heap_alloc_new _ _)]
  simp [hx]
set_option maxRecDepth 100000 in
set_option maxHeartbeats 800000 in
/-- one of the numbers of a list -/
theorem pickInt_any (b : Nat) (sv : Value) (i : Nat) (h : Int) (p n : Nat) (L : List Int) (w : World) (hc : curAt w b sv i h) (hi : i ≤ lenOf sv) (hr : readable w b sv) (hp : p ≠ b) (hL : intsAt w p L) (hn : L.length = n) (h0 : 0 < n) (h1 : n ≤ 256) :
    Calls Tryz.prog 111 #[.pointer (some ⟨b, 0, none⟩), .slice (some ⟨p, 0, none⟩) n n] w fun e w' => ∃ (x : Int) (i' : Nat) (h' : Int), x ∈ L ∧ e = .returned (.int .i64 x) ∧ i' ≤ lenOf sv ∧ curAt w' b sv i' h' ∧ onlyAt b w w' := by
  have HL := Lib.hid hL
  have HN := Lib.hid hn
  clear hL hn
  go_enter Tryz.func111, Tryz.ntmps111
  go_wp2_with fail
  refine (below_any b sv i h n w hc hi hr (by omega) (by omega)).mono ?_
  rintro e w1 ⟨x, i1, h1, rfl, hx0, hx1, hi1, hc1, ho1⟩
  obtain ⟨k, rfl⟩ := Int.eq_ofNat_of_zero_le hx0
  have hk : k < L.length := by have := HN.out; omega
  have hk' : k < n := by omega
  have hcell : w1.cell? ⟨p, k, none⟩ = some (.int .i64 L[k]) := (ho1.cell (p := ⟨p, k, none⟩) hp).trans (HL.out k _ (List.getElem?_eq_getElem hk))
  have HM := Lib.hid (List.getElem_mem hk)
  generalize L[k] = t at hcell HM
  go_wp2
  go_ret
  exact ⟨t, i1, h1, HM.out, rfl, hi1, hc1, ho1⟩
end Go.Proofs.YtnmijppppcgobaaGreatDoor
set_option linter.unusedVariables false
namespace Go.Proofs.YtnmijppppcgobaaGreatDoor
open Go.ChangeShapes Go.WideShapes Go.ChangeAt Go.RowKit

set_option maxRecDepth 100000 in
theorem turned_of_grown {w w' : World} {b : Nat} (h : w.grownBy w' (some b)) : Turned b (b + 1) w w' := ⟨h.os, h.tape, h.output, h.size, fun k hk hne => h.block k hk (fun e => by simp at e; omega)⟩
set_option maxRecDepth 100000 in
theorem turned_then {w u v : World} {b lo hi : Nat} (h : w.grownBy u (some b)) (ht : Turned lo hi u v) (hlo : w.heap.size ≤ lo) : w.grownBy v (some b) :=
  ⟨ht.os.trans h.os, ht.tape.trans h.tape, ht.output.trans h.output, Nat.le_trans h.size ht.size, fun k hk hne => (ht.block k (Nat.lt_of_lt_of_le hk h.size) (.inl (by omega))).trans (h.block k hk hne)⟩
/-- the cursor behind a draw -/
def curOn (b : Nat) (sv : Value) (w w' : World) : Prop := ∃ (i : Nat) (h : Int), i ≤ lenOf sv ∧ curAt w' b sv i h ∧ w.grownBy w' (some b)
def ringDrawn (b : Nat) (sv : Value) (w : World) (e : Ending) (w' : World) : Prop := ∃ (r : RingD) (vc vs : Value), e = .returned (.agg #[.int .i64 r.1, .int .i64 r.2.1, vc, vs]) ∧ ringOk r = true ∧ RingR.mine w.heap.size w'.heap.size w' [.int .i64 r.1, .int .i64 r.2.1, vc, vs] r ∧ curOn b sv w w'
set_option maxRecDepth 100000 in
set_option maxHeartbeats 3200000 in
theorem ringDraw_any (b : Nat) (sv : Value) (i0 : Nat) (h0 : Int) (w : World) (hc : curAt w b sv i0 h0) (hi : i0 ≤ lenOf sv) (hr : readable w b sv) :
    Calls Tryz.prog 112 #[.pointer (some ⟨b, 0, none⟩)] w (ringDrawn b sv w) := by
  have hblt := lt_of_cur hc
  have HR : Hid (∀ w' : World, w.grownBy w' (some b) → readable w' b sv) := Lib.hid fun w' hg => hr.grownAt hg (by omega)
  go_enter Tryz.func112, Tryz.ntmps112
  go_upto_region 1 with fail
  obtain ⟨W, hW⟩ : ∃ W, W = w.alloc (.cells #[.int .i64 0, .int .i64 0, .slice none 0 0, .slice none 0 0] 26) := ⟨_, rfl⟩
  have B0 : Hid (bk W w.heap.size 26 [.int .i64 0, .int .i64 0, .slice none 0 0, .slice none 0 0]) := Lib.hid (by rw [hW]; exact bk.new w _ _)
  have HC0 : Hid (curAt W b sv i0 h0) := Lib.hid (by rw [hW]; exact cur_alloc hc _)
  have HG0 : Hid (w.grownBy W (some b)) := Lib.hid (by rw [hW]; exact grown_alloc (grown_refl _ _) _)
  have z0 : w.heap.size + 1 ≤ W.heap.size := by rw [hW]; simp
  rw [← hW]
  clear hW hc hr
  go_wp2_with fail
  refine (below_any b sv i0 h0 5 W HC0.out hi (HR.out _ HG0.out) (by decide) (by decide)).mono ?_
  rintro e w1 ⟨x, i1, h1, rfl, hx0, hx1, hi1, hc1, ho1⟩
  have HC1 := Lib.hid hc1
  have HG1 := Lib.hid (grown_trans HG0.out ho1.grown)
  have B1 : Hid (bk w1 w.heap.size 26 [.int .i64 0, .int .i64 0, .slice none 0 0, .slice none 0 0]) := Lib.hid ((ho1.block w.heap.size (by omega)).trans B0.out)
  have z1 : W.heap.size ≤ w1.heap.size := by rw [ho1.size]; exact Nat.le_refl _
  clear hc1 ho1 B0 HC0 HG0
  go_wp2_with fail
  refine (below_any b sv i1 h1 6 w1 HC1.out hi1 (HR.out _ HG1.out) (by decide) (by decide)).mono ?_
  rintro e w2 ⟨y, i2, h2, rfl, hy0, hy1, hi2, hc2, ho2⟩
  have HC2 := Lib.hid hc2
  have HG2 := Lib.hid (grown_trans HG1.out ho2.grown)
  have B2 : Hid (bk w2 w.heap.size 26 [.int .i64 0, .int .i64 0, .slice none 0 0, .slice none 0 0]) := Lib.hid ((ho2.block w.heap.size (by omega)).trans B1.out)
  have z2 : w1.heap.size ≤ w2.heap.size := by rw [ho2.size]; exact Nat.le_refl _
  clear hc2 ho2 B1 HC1 HG1
  obtain ⟨hn2, hok⟩ := ringNew_right (n := 1 + x) (sp := 1 + y) (by omega) (by omega) (by omega) (by omega)
  go_wp2_with fail
  refine (specRingNew_any (1 + x) (1 + y) w2).mono ?_
  rintro e w3 ⟨vc, vs, rfl, hm3, hb3⟩
  rw [hn2]
  generalize (ringNew (1 + x) (1 + y)).1 = r0 at hm3 hok
  obtain ⟨A1, c1, rfl, -⟩ := (ring2 hm3.rd).1.form
  obtain ⟨A2, c2, rfl, -⟩ := (ring2 hm3.rd).2.form
  have HC3 : Hid (curAt w3 b sv i2 h2) := Lib.hid ((hb3.block b (by omega)).trans HC2.out)
  have HG3 := Lib.hid (grown_then HG2.out hb3 (by omega))
  have B3 : Hid (bk w3 w.heap.size 26 [.int .i64 0, .int .i64 0, .slice none 0 0, .slice none 0 0]) := Lib.hid (B2.out.below hb3 (by omega))
  have HM3 := Lib.hid hm3
  have z3 : w2.heap.size ≤ w3.heap.size := hb3.size
  clear hm3 hb3 B2 HC2 HG2
  go_upto_region 2 with fail
  obtain ⟨W4, hW4⟩ : ∃ W4, W4 = w3.alloc (.cells #[.int .i64 r0.1, .int .i64 r0.2.1, .slice A1 r0.2.2.1.length c1, .slice A2 r0.2.2.2.length c2] 26) := ⟨_, rfl⟩
  have K4 : Hid (bk W4 w3.heap.size 26 [.int .i64 r0.1, .int .i64 r0.2.1, .slice A1 r0.2.2.1.length c1, .slice A2 r0.2.2.2.length c2]) := Lib.hid (by rw [hW4]; exact bk.new w3 _ _)
  have B4 : Hid (bk W4 w.heap.size 26 [.int .i64 0, .int .i64 0, .slice none 0 0, .slice none 0 0]) := Lib.hid (by rw [hW4]; exact B3.out.alloc _)
  have HC4 : Hid (curAt W4 b sv i2 h2) := Lib.hid (by rw [hW4]; exact cur_alloc HC3.out _)
  have HG4 : Hid (w.grownBy W4 (some b)) := Lib.hid (by rw [hW4]; exact grown_alloc HG3.out _)
  have HM4 : Hid (RingR.mine (w.heap.size + 1) w3.heap.size W4 [.int .i64 r0.1, .int .i64 r0.2.1, .slice A1 r0.2.2.1.length c1, .slice A2 r0.2.2.2.length c2] r0) := Lib.hid (by rw [hW4]; exact (HM3.out.mono (by omega) (Nat.le_refl _)).below ((Below.refl w3.heap.size w3).alloc (Nat.le_refl _) _) (Nat.le_refl _))
  have z4 : w3.heap.size + 1 = W4.heap.size := by rw [hW4]; simp
  rw [← hW4]
  clear hW4 B3 HC3 HG3 HM3
  go_wp2_with fail
  refine (below_any b sv i2 h2 5 W4 HC4.out hi2 (HR.out _ HG4.out) (by decide) (by decide)).mono ?_
  rintro e w5 ⟨k5, i5, h5, rfl, hk0, hk1, hi5, hc5, ho5⟩
  have HC5 := Lib.hid hc5
  have HG5 := Lib.hid (grown_trans HG4.out ho5.grown)
  have B5 : Hid (bk w5 w.heap.size 26 [.int .i64 0, .int .i64 0, .slice none 0 0, .slice none 0 0]) := Lib.hid ((ho5.block w.heap.size (by omega)).trans B4.out)
  have K5 : Hid (bk w5 w3.heap.size 26 [.int .i64 r0.1, .int .i64 r0.2.1, .slice A1 r0.2.2.1.length c1, .slice A2 r0.2.2.2.length c2]) := Lib.hid ((ho5.block w3.heap.size (by omega)).trans K4.out)
  have HM5 := Lib.hid (HM4.out.turned (turned_of_grown ho5.grown) (.inr (by omega)) (by omega))
  have z5 : W4.heap.size = w5.heap.size := ho5.size.symm
  clear hc5 ho5 B4 K4 HC4 HG4 HM4
  obtain ⟨p, hp⟩ : ∃ p, p = w3.heap.size := ⟨_, rfl⟩
  rw [← hp] at K5 HM5 ⊢
  have hpw : w.heap.size < p := by omega
  have hp5 : p + 1 ≤ w5.heap.size := by omega
  have hz5 : w.heap.size + 1 ≤ w5.heap.size := by omega
  clear hp
  go_wp2
  go_loopw [5, 6] (fun nv kv wr => ∃ (now k : Int) (i : Nat) (h : Int) (r : RingD) (A1 : Option Addr) (c1 : Nat) (A2 : Option Addr) (c2 : Nat), nv = .int .i64 now ∧ kv = .int .i64 k ∧ 0 ≤ k ∧ 0 ≤ now ∧ now + 8 * k ≤ 32 ∧ i ≤ lenOf sv ∧ Hid (ringOk r = true) ∧ Hid (curAt wr b sv i h) ∧ Hid (w.grownBy wr (some b)) ∧ Hid (bk wr w.heap.size 26 [.int .i64 0, .int .i64 0, .slice none 0 0, .slice none 0 0]) ∧ Hid (bk wr p 26 [.int .i64 r.1, .int .i64 r.2.1, .slice A1 r.2.2.1.length c1, .slice A2 r.2.2.2.length c2]) ∧ Hid (∃ l0 l1, w.heap.size + 1 ≤ l0 ∧ (l1 ≤ p ∨ p + 1 ≤ l0) ∧ l1 ≤ wr.heap.size ∧ RingR.mine l0 l1 wr [.int .i64 r.1, .int .i64 r.2.1, .slice A1 r.2.2.1.length c1, .slice A2 r.2.2.2.length c2] r) ∧ p + 1 ≤ wr.heap.size) (fun _ kv _ => (intOf kv).toNat)
  case atStart => exact ⟨0, k5, i5, h5, r0, A1, c1, A2, c2, rfl, rfl, hk0, Int.le_refl _, by omega, hi5, Lib.hid hok, HC5, HG5, B5, K5, Lib.hid ⟨_, _, Nat.le_refl _, .inl (Nat.le_refl _), by omega, HM5.out⟩, hp5⟩
  case round =>
    obtain ⟨now, k, i, h, r, A1, c1, A2, c2, rfl, rfl, k0, n0, nk, hir, HOK, HC, HG, BB, BK, HM, hz⟩ := hrel
    by_cases hpos : 0 < k
    · go_wp2_with fail
      refine (below_any b sv i h 9 wr HC.out hir (HR.out _ HG.out) (by decide) (by decide)).mono ?_
      rintro e w6 ⟨x, i6, h6, rfl, hx0, hx1, hi6, hc6, ho6⟩
      have HC6 := Lib.hid hc6
      have HG6 := Lib.hid (grown_trans HG.out ho6.grown)
      have BB6 : Hid (bk w6 w.heap.size 26 [.int .i64 0, .int .i64 0, .slice none 0 0, .slice none 0 0]) := Lib.hid ((ho6.block w.heap.size (by omega)).trans BB.out)
      have BK6 : Hid (bk w6 p 26 [.int .i64 r.1, .int .i64 r.2.1, .slice A1 r.2.2.1.length c1, .slice A2 r.2.2.2.length c2]) := Lib.hid ((ho6.block p (by omega)).trans BK.out)
      have z6 : wr.heap.size = w6.heap.size := ho6.size.symm
      have HM6 : Hid (∃ l0 l1, w.heap.size + 1 ≤ l0 ∧ (l1 ≤ p ∨ p + 1 ≤ l0) ∧ l1 ≤ w6.heap.size ∧ RingR.mine l0 l1 w6 [.int .i64 r.1, .int .i64 r.2.1, .slice A1 r.2.2.1.length c1, .slice A2 r.2.2.2.length c2] r) := Lib.hid (by
        obtain ⟨l0, l1, q1, q2, q3, q4⟩ := HM.out
        exact ⟨l0, l1, q1, q2, by omega, q4.turned (turned_of_grown ho6.grown) (.inr (by omega)) (by omega)⟩)
      clear hc6 ho6 HC HG BB BK HM
      go_upto_region 7 with fail
      have HD6 : Hid (w6.grownBy w6.drew (some b)) := Lib.hid (grown_below (Below.drew (Below.refl w6.heap.size w6)))
      have hrl := ring_ok_len HOK.out
      have HRA : Hid (∀ W7, Turned b (b + 1) w6 W7 → ∀ y : Int, Calls Tryz.prog 93 #[.agg #[.int .i64 r.1, .int .i64 r.2.1, .slice A1 r.2.2.1.length c1, .slice A2 r.2.2.2.length c2], .int .i64 (now + x), .int .i64 (1 + y)] W7 (ringOne (ringAdd r (now + x) (1 + y)) W7)) := Lib.hid (fun W7 ht y => by
        obtain ⟨l0, l1, q1, q2, q3, q4⟩ := HM6.out
        have q5 := q4.turned ht (.inr (by omega)) (by omega)
        exact specRingAdd_any l1 _ _ r (now + x) (1 + y) W7 (ring2 q5.rd).1 (ring2 q5.rd).2 (by have := ht.size; omega) (by omega) (by omega))
      have HOA := Lib.hid (fun y : Int => ringAdd_ok (r := r) (now := now + x) (amount := 1 + y) HOK.out)
      have HKA := Lib.hid (fun W7 (ht : Turned b (b + 1) w6 W7) => BK6.out.under ht (by omega))
      have HBA := Lib.hid (fun W7 (ht : Turned b (b + 1) w6 W7) => BB6.out.under ht (by omega))
      obtain ⟨⟨p0, p1, p2, p3⟩, -⟩ := BK6.out.cells
      clear hrl HM6 BB6
      go_region_law (first
        | (go_simp; go_at_call 53; refine (below_any b sv i6 h6 90 w6.drew HC6.out hi6 (HR.out _ (grown_trans HG6.out HD6.out)) (by decide) (by decide)).mono ?_; rintro e w7 ⟨y, i7, h7, rfl, hy0, hy1, hi7, hc7, ho7⟩; have HG7 := Lib.hid (grown_trans HG6.out (grown_trans HD6.out ho7.grown)); have HT7 : Hid (Turned b (b + 1) w6 w7) := Lib.hid (turned_of_grown (grown_trans HD6.out ho7.grown)); have HC7 := Lib.hid hc7; have z7 : w6.heap.size = w7.heap.size := ho7.size.symm; have hw7 : IntKind.i64.wrap (1 + y) = 1 + y := IntWalk.i64_in _ (by omega); obtain ⟨⟨q0, q1, q2, q3⟩, -⟩ := (HKA.out w7 HT7.out).cells; clear hc7 ho7)
        | (go_simp; go_at_call 93; (with_reducible refine (HRA.out w7 HT7.out y).mono ?_); rintro e w8 ⟨vc8, vs8, rfl, hm8, hb8⟩; have hok8 := HOA.out y; generalize ringAdd r (now + x) (1 + y) = r8 at hm8 hok8 ⊢; obtain ⟨A8, d8, rfl, -⟩ := (ring2 hm8.rd).1.form; obtain ⟨A9, d9, rfl, -⟩ := (ring2 hm8.rd).2.form; have HB8 := Lib.hid hb8; have HOK8 := Lib.hid hok8; have HM8 := Lib.hid hm8; have BK8 := Lib.hid ((HKA.out w7 HT7.out).below hb8 (show p < w7.heap.size by omega)); have z8 : w7.heap.size ≤ w8.heap.size := hb8.size; obtain ⟨⟨s0, s1, s2, s3⟩, f0, f1, f2, f3⟩ := BK8.out.cells; clear hm8 hb8 hok8))
      all_goals
        go_wp2
        go_roundw
        case rel =>
          have ht := ((((Turned.refl p (p + 1) w8).set (b := p) 0 (.int .i64 r8.1) (by omega) (by omega)).set (b := p) 1 (.int .i64 r8.2.1) (by omega) (by omega)).set (b := p) 2 (.slice A8 r8.2.2.1.length d8) (by omega) (by omega)).set (b := p) 3 (.slice A9 r8.2.2.2.length d9) (by omega) (by omega)
          have hsz := ht.size
          exact ⟨now + x, k - 1, i7, h7, r8, A8, d8, A9, d9, by go_num, rfl, by omega, by omega, by omega, hi7, HOK8, Lib.hid ((ht.block b (by omega) (.inl (by omega))).trans ((HB8.out.block b (by omega)).trans HC7.out)), Lib.hid (turned_then (grown_then HG7.out HB8.out (by omega)) ht (by omega)), Lib.hid (((HBA.out w7 HT7.out).below HB8.out (by omega)).under ht (by omega)), Lib.hid ((((BK8.out.set 0 _).set 1 _).set 2 _).set 3 _), Lib.hid ⟨_, _, show w.heap.size + 1 ≤ w7.heap.size by omega, .inr (by omega), by omega, HM8.out.turned ht (.inr (by omega)) (Nat.le_refl _)⟩, by omega⟩
        case measure => simp [intOf] <;> omega
    · obtain ⟨⟨p0, p1, p2, p3⟩, -⟩ := BK.out.cells
      obtain ⟨⟨q0, q1, q2, q3⟩, f0, f1, f2, f3⟩ := BB.out.cells
      go_wp2
      refine bodyPost_ret (v := .agg #[.int .i64 r.1, .int .i64 r.2.1, .slice A1 r.2.2.1.length c1, .slice A2 r.2.2.2.length c2]) (by simp [results, Tryz.results112, go_sem, q0, q1, q2, q3]) rfl ?_
      have ht := ((((Turned.refl w.heap.size (w.heap.size + 1) wr).set (b := w.heap.size) 0 (.int .i64 r.1) (by omega) (by omega)).set (b := w.heap.size) 1 (.int .i64 r.2.1) (by omega) (by omega)).set (b := w.heap.size) 2 (.slice A1 r.2.2.1.length c1) (by omega) (by omega)).set (b := w.heap.size) 3 (.slice A2 r.2.2.2.length c2) (by omega) (by omega)
      have hsz := ht.size
      obtain ⟨l0, l1, u1, u2, u3, u4⟩ := HM.out
      exact ⟨r, _, _, rfl, HOK.out, (u4.turned ht (.inr (by omega)) (by omega)).mono (by omega) (by omega), i, h, hir, (ht.block b (by omega) (.inl (by omega))).trans HC.out, turned_then HG.out ht (by omega)⟩
end Go.Proofs.YtnmijppppcgobaaGreatDoor
set_option linter.unusedVariables false
namespace Go.Proofs.YtnmijppppcgobaaGreatDoor
open Go.ChangeShapes Go.WideShapes Go.ChangeAt Go.RowKit

set_option maxRecDepth 100000 in
theorem curOn.rest {b : Nat} {sv : Value} {w u v : World} {lo hi : Nat} (h : curOn b sv w u) (hb : b < w.heap.size) (ht : Turned lo hi u v) (hlo : w.heap.size ≤ lo) : curOn b sv w v := by
  obtain ⟨i, x, h1, h2, h3⟩ := h
  exact ⟨i, x, h1, (ht.block b (Nat.lt_of_lt_of_le hb h3.size) (.inl (by omega))).trans h2, turned_then h3 ht hlo⟩
set_option maxRecDepth 100000 in
theorem curOn.then {b : Nat} {sv : Value} {w u v : World} (h : curOn b sv w u) (g : curOn b sv u v) : curOn b sv w v := by
  obtain ⟨i, x, h1, h2, h3⟩ := h
  obtain ⟨j, y, g1, g2, g3⟩ := g
  exact ⟨j, y, g1, g2, grown_trans h3 g3⟩
set_option maxRecDepth 100000 in
theorem curOn.below {b B : Nat} {sv : Value} {w u v : World} (h : curOn b sv w u) (hb : b < w.heap.size) (hB : Below B u v) (hw : w.heap.size ≤ B) : curOn b sv w v := by
  obtain ⟨i, x, h1, h2, h3⟩ := h
  exact ⟨i, x, h1, (hB.block b (by omega)).trans h2, grown_then h3 hB hw⟩
set_option maxRecDepth 100000 in
theorem curOn.only {b : Nat} {sv : Value} {w u v : World} {i : Nat} {x : Int} (h : curOn b sv w u) (h1 : i ≤ lenOf sv) (h2 : curAt v b sv i x) (h3 : onlyAt b u v) : curOn b sv w v := by
  obtain ⟨j, y, g1, g2, g3⟩ := h
  exact ⟨i, x, h1, h2, grown_trans g3 h3.grown⟩
set_option maxRecDepth 100000 in
theorem curOn.start {b : Nat} {sv : Value} {w : World} {i : Nat} {x : Int} (hc : curAt w b sv i x) (hi : i ≤ lenOf sv) : curOn b sv w w := ⟨i, x, hi, hc, grown_refl _ _⟩
set_option maxRecDepth 100000 in
theorem curOn.alloc {b : Nat} {sv : Value} {w u : World} (h : curOn b sv w u) (o : Obj) : curOn b sv w (u.alloc o) := by
  obtain ⟨i, x, h1, h2, h3⟩ := h
  exact ⟨i, x, h1, cur_alloc h2 _, grown_alloc h3 _⟩
set_option maxRecDepth 100000 in
theorem curOn.size {b : Nat} {sv : Value} {w u : World} (h : curOn b sv w u) : w.heap.size ≤ u.heap.size := by
  obtain ⟨i, x, h1, h2, h3⟩ := h
  exact h3.size
set_option maxRecDepth 100000 in
theorem curOn.grown {b : Nat} {sv : Value} {w u : World} (h : curOn b sv w u) : w.grownBy u (some b) := by
  obtain ⟨i, x, h1, h2, h3⟩ := h
  exact h3
def idTexts : List (List UInt8) := [[97], [98], [99], [104, 49], [122, 57]]
set_option maxRecDepth 100000 in
theorem id_small {x : List UInt8} (h : x ∈ idTexts) : x.length ≤ 2 := by
  simp only [idTexts, List.mem_cons, List.not_mem_nil, or_false] at h
  rcases h with rfl | rfl | rfl | rfl | rfl <;> decide
set_option maxRecDepth 100000 in
theorem id_ok {x : List UInt8} (h : x ∈ idTexts) : idOk ⟨x.toArray⟩ = true := by
  simp only [idTexts, List.mem_cons, List.not_mem_nil, or_false] at h
  rcases h with rfl | rfl | rfl | rfl | rfl <;> rfl
def idDrawn (b : Nat) (sv : Value) (w : World) (e : Ending) (w' : World) : Prop := ∃ x : ByteArray, e = .returned (.string x) ∧ x.size ≤ 2 ∧ idOk x = true ∧ curOn b sv w w'
set_option maxRecDepth 100000 in
theorem idDraw_any (b : Nat) (sv : Value) (i0 : Nat) (h0 : Int) (w : World) (hc : curAt w b sv i0 h0) (hi : i0 ≤ lenOf sv) (hr : readable w b sv) :
    Calls Tryz.prog 72 #[.pointer (some ⟨b, 0, none⟩)] w (idDrawn b sv w) := by
  have hblt := lt_of_cur hc
  have HC := Lib.hid hc
  have HR := Lib.hid hr
  clear hc hr
  go_enter Tryz.func72, Tryz.ntmps72
  go_wp2_with fail
  refine (pickStr_any b sv i0 h0 w.heap.size 5 idTexts _ (cur_alloc HC.out _) hi (HR.out.alloc _) (by omega) (texts_at w _ idTexts _ _ (by rfl) rfl) rfl (by omega) (by omega)).mono ?_
  rintro e w1 ⟨x, i1, h1, hx, rfl, hi1, hc1, ho1⟩
  have HO : Hid (curOn b sv w w1) := Lib.hid ⟨i1, h1, hi1, hc1, grown_trans (grown_alloc (grown_refl _ _) _) ho1.grown⟩
  have hxs := Lib.hid (And.intro (id_small hx) (id_ok hx))
  clear hc1 ho1 hx
  go_wp2
  go_ret
  exact ⟨_, rfl, hxs.out.1, hxs.out.2, HO.out⟩
def holdDrawn (b : Nat) (sv : Value) (w : World) (e : Ending) (w' : World) : Prop := ∃ x : HoldD, e = .returned (.agg #[.string x.1, .int .i64 x.2.1, .int .i64 x.2.2]) ∧ x.1.size ≤ 2 ∧ curOn b sv w w'
set_option maxRecDepth 100000 in
set_option maxHeartbeats 1600000 in
theorem holdDraw_any (b : Nat) (sv : Value) (i0 : Nat) (h0 : Int) (w : World) (hc : curAt w b sv i0 h0) (hi : i0 ≤ lenOf sv) (hr : readable w b sv) :
    Calls Tryz.prog 191 #[.pointer (some ⟨b, 0, none⟩)] w (holdDrawn b sv w) := by
  have hblt := lt_of_cur hc
  have HR : Hid (∀ w' : World, w.grownBy w' (some b) → readable w' b sv) := Lib.hid fun w' hg => hr.grownAt hg (by omega)
  go_enter Tryz.func191, Tryz.ntmps191
  go_upto_region 1 with fail
  obtain ⟨W, hW⟩ : ∃ W, W = w.alloc (.cells #[.string ⟨#[]⟩, .int .i64 0, .int .i64 0] 33) := ⟨_, rfl⟩
  have B0 : Hid (bk W w.heap.size 33 [.string ⟨#[]⟩, .int .i64 0, .int .i64 0]) := Lib.hid (by rw [hW]; exact bk.new w _ _)
  have HO0 : Hid (curOn b sv w W) := Lib.hid (by rw [hW]; exact (curOn.start hc hi).alloc _)
  have HC0 : Hid (curAt W b sv i0 h0) := Lib.hid (by rw [hW]; exact cur_alloc hc _)
  have z0 : w.heap.size + 1 = W.heap.size := by rw [hW]; simp
  rw [← hW]
  clear hW hc hr
  go_wp2_with fail
  refine (idDraw_any b sv i0 h0 W HC0.out hi (HR.out _ HO0.out.grown)).mono ?_
  rintro e w1 ⟨x, rfl, hxs, -, ho1⟩
  have HO1 := Lib.hid (HO0.out.then ho1)
  have B1 : Hid (bk w1 w.heap.size 33 [.string ⟨#[]⟩, .int .i64 0, .int .i64 0]) := Lib.hid ((ho1.grown.block w.heap.size (by omega) (fun e => by simp at e; omega)).trans B0.out)
  have z1 := ho1.size
  clear ho1 HO0 HC0 B0
  obtain ⟨i1, h1, hi1, hc1, hg1⟩ := HO1.out
  have HC1 := Lib.hid hc1
  clear hc1 hg1
  go_wp2_with fail
  refine (below_any b sv i1 h1 60 w1 HC1.out hi1 (HR.out _ HO1.out.grown) (by decide) (by decide)).mono ?_
  rintro e w2 ⟨y, i2, h2, rfl, hy0, hy1, hi2, hc2, ho2⟩
  have HO2 := Lib.hid (HO1.out.only hi2 hc2 ho2)
  have HC2 := Lib.hid hc2
  have B2 : Hid (bk w2 w.heap.size 33 [.string ⟨#[]⟩, .int .i64 0, .int .i64 0]) := Lib.hid ((ho2.block w.heap.size (by omega)).trans B1.out)
  have z2 : w1.heap.size = w2.heap.size := ho2.size.symm
  clear hc2 ho2 HO1 HC1 B1
  go_wp2_with fail
  refine (below_any b sv i2 h2 30 w2 HC2.out hi2 (HR.out _ HO2.out.grown) (by decide) (by decide)).mono ?_
  rintro e w3 ⟨u, i3, h3, rfl, hu0, hu1, hi3, hc3, ho3⟩
  have HO3 := Lib.hid (HO2.out.only hi3 hc3 ho3)
  have B3 : Hid (bk w3 w.heap.size 33 [.string ⟨#[]⟩, .int .i64 0, .int .i64 0]) := Lib.hid ((ho3.block w.heap.size (by omega)).trans B2.out)
  have z3 : w2.heap.size = w3.heap.size := ho3.size.symm
  clear hc3 ho3 HO2 HC2 B2
  go_upto_region 2 with fail
  obtain ⟨W4, hW4⟩ : ∃ W4, W4 = w3.alloc (.cells #[.string x, .int .i64 (1 + y), .int .i64 u] 33) := ⟨_, rfl⟩
  have K4 : bk W4 w3.heap.size 33 [.string x, .int .i64 (1 + y), .int .i64 u] := by rw [hW4]; exact bk.new w3 _ _
  have B4 : bk W4 w.heap.size 33 [.string ⟨#[]⟩, .int .i64 0, .int .i64 0] := by rw [hW4]; exact B3.out.alloc _
  have HO4 : Hid (curOn b sv w W4) := Lib.hid (by rw [hW4]; exact HO3.out.alloc _)
  have z4 : w3.heap.size + 1 = W4.heap.size := by rw [hW4]; simp
  rw [← hW4]
  clear hW4 B3 HO3
  obtain ⟨p0, p1, p2⟩ := K4.cells3
  obtain ⟨q0, q1, q2⟩ := B4.cells3
  have f0 := B4.frozen 0
  have f1 := B4.frozen 1
  have f2 := B4.frozen 2
  clear K4 B4
  go_wp2
  refine bodyPost_ret (v := .agg #[.string x, .int .i64 (1 + y), .int .i64 u]) (by simp [results, Tryz.results191, go_sem, q0, q1, q2]) rfl ?_
  have ht := (((Turned.refl w.heap.size (w.heap.size + 1) W4).set (b := w.heap.size) 0 (.string x) (by omega) (by omega)).set (b := w.heap.size) 1 (.int .i64 (1 + y)) (by omega) (by omega)).set (b := w.heap.size) 2 (.int .i64 u) (by omega) (by omega)
  exact ⟨(x, 1 + y, u), rfl, hxs, HO4.out.rest hblt ht (Nat.le_refl _)⟩
def holdsDrawn (b : Nat) (sv : Value) (w : World) (e : Ending) (w' : World) : Prop := ∃ (l : List HoldD) (A : Option Addr) (c : Nat), e = .returned (.slice A l.length c) ∧ holdsOk l = true ∧ HoldsR.mine w.heap.size w'.heap.size w' [.slice A l.length c] l ∧ curOn b sv w w'
set_option maxRecDepth 100000 in
set_option maxHeartbeats 1600000 in
theorem holdsDraw_any (b : Nat) (sv : Value) (i0 : Nat) (h0 : Int) (w : World) (hc : curAt w b sv i0 h0) (hi : i0 ≤ lenOf sv) (hr : readable w b sv) :
    Calls Tryz.prog 113 #[.pointer (some ⟨b, 0, none⟩)] w (holdsDrawn b sv w) := by
  have hblt := lt_of_cur hc
  have HR : Hid (∀ w' : World, w.grownBy w' (some b) → readable w' b sv) := Lib.hid fun w' hg => hr.grownAt hg (by omega)
  go_enter Tryz.func113, Tryz.ntmps113
  go_upto_region 2 with fail
  obtain ⟨W, hW⟩ : ∃ W, W = w.alloc (.cells #[] 33) := ⟨_, rfl⟩
  have HO0 : Hid (curOn b sv w W) := Lib.hid (by rw [hW]; exact (curOn.start hc hi).alloc _)
  have HC0 : Hid (curAt W b sv i0 h0) := Lib.hid (by rw [hW]; exact cur_alloc hc _)
  have z0 : w.heap.size + 1 = W.heap.size := by rw [hW]; simp
  rw [← hW]
  clear hW hc hr
  go_wp2_with fail
  refine (below_any b sv i0 h0 4 W HC0.out hi (HR.out _ HO0.out.grown) (by decide) (by decide)).mono ?_
  rintro e w1 ⟨k1, i1, h1, rfl, hk0, hk1, hi1, hc1, ho1⟩
  have HO1 := Lib.hid (HO0.out.only hi1 hc1 ho1)
  have z1 : W.heap.size = w1.heap.size := ho1.size.symm
  clear hc1 ho1 HO0 HC0
  go_wp2
  go_loopw [3, 4] (fun lv kv wr => ∃ (l : List HoldD) (A : Option Addr) (c : Nat) (k : Int), lv = .slice A l.length c ∧ kv = .int .i64 k ∧ 0 ≤ k ∧ k ≤ 3 ∧ Hid (holdsOk l = true) ∧ Hid (HoldsR.mine w.heap.size wr.heap.size wr [.slice A l.length c] l) ∧ Hid (curOn b sv w wr)) (fun _ kv _ => (intOf kv).toNat)
  case atStart => exact ⟨[], some ⟨w.heap.size, 0, none⟩, 0, k1, rfl, rfl, hk0, by omega, Lib.hid (by decide), Lib.hid ⟨[], ⟨_, 0, rfl, Nat.le_refl _, .inl ⟨rfl, rfl⟩⟩, List.nodup_nil, by simp⟩, HO1⟩
  case round =>
    obtain ⟨l, A, c, k, rfl, rfl, k0, k3, HK, HM, HO⟩ := hrel
    by_cases hpos : 0 < k
    · obtain ⟨i2, h2, hi2, hc2, hg2⟩ := HO.out
      have HC2 := Lib.hid hc2
      clear hc2 hg2
      go_wp2_with fail
      refine (holdDraw_any b sv i2 h2 wr HC2.out hi2 (HR.out _ HO.out.grown)).mono ?_
      rintro e w3 ⟨x, rfl, hxs, ho3⟩
      have HO3 := Lib.hid (HO.out.then ho3)
      have z3 := ho3.size
      have HM3 := Lib.hid (HM.out.turned (turned_of_grown ho3.grown) (.inr (by omega)) (Nat.le_refl _))
      obtain ⟨hl4, hls⟩ := holdsOk_small HK.out
      have HP := Lib.hid (specHoldPut_any wr.heap.size _ l x w3 (by omega) (fun y hy => by have := hls y hy; unfold maxLen; omega) (by unfold maxLen; omega) HM3.out.rd z3)
      have HPK := Lib.hid (@putH_ok l x)
      clear ho3 HC2 hls HM HO
      obtain ⟨q, hq⟩ : ∃ q, q = putH l x := ⟨_, rfl⟩
      rw [← hq] at HP HPK
      obtain ⟨l2, ok⟩ := q
      clear hq
      simp only at HP HPK
      go_wp2_with fail
      refine HP.out.mono ?_
      rintro e w4 ⟨u, rfl, hm4, hb4⟩
      obtain ⟨A4, c4, rfl, -⟩ := Rep.slice_form hm4.rd
      have HO4 := Lib.hid (HO3.out.below hblt hb4 HO3.out.size)
      have z4 := hb4.size
      have z5 := HO3.out.size
      have HM4 := Lib.hid hm4
      have HM5 := Lib.hid (HM3.out.below hb4 z3)
      clear hm4 hb4 HP HO3 HM3
      cases ok
      · go_wp2
        go_roundw
        case rel => exact ⟨l, A, c, k - 1, rfl, rfl, by omega, by omega, HK, Lib.hid (HM5.out.mono (Nat.le_refl _) (by omega)), HO4⟩
        case measure => simp [intOf] <;> omega
      · have HK4 := Lib.hid (HPK.out (by trivial))
        go_wp2
        go_roundw
        case rel => exact ⟨l2, A4, c4, k - 1, rfl, rfl, by omega, by omega, HK4, Lib.hid (HM4.out.mono z5 (Nat.le_refl _)), HO4⟩
        case measure => simp [intOf] <;> omega
    · go_wp2
      go_ret
      exact ⟨l, A, c, rfl, HK.out, HM.out, HO.out⟩
end Go.Proofs.YtnmijppppcgobaaGreatDoor
set_option linter.unusedVariables false
namespace Go.Proofs.YtnmijppppcgobaaGreatDoor
open Go.ChangeShapes Go.WideShapes Go.ChangeAt Go.RowKit

section
variable {P : Program} (w : World)
end
set_option maxRecDepth 100000 in
theorem ow_at {W : World} {n : Nat} {c : Int} {T : TypeId} {K : IntKind} {B : Nat} (h : W.heap[n]? = some (.cells #[.int K c] T (0, 0))) (hB : B ≤ n) : ow T K B W (.slice (some ⟨n, 0, none⟩) 1 1) [c] :=
  ⟨rfl, Or.inr ⟨n, 1, #[.int K c], rfl, hB, h, Nat.le_refl _, by decide, rfl, rfl⟩⟩
end Go.Proofs.YtnmijppppcgobaaGreatDoor
set_option linter.unusedVariables false
namespace Go.Proofs.YtnmijppppcgobaaGreatDoor
open Go.ChangeShapes Go.WideShapes Go.ChangeAt Go.RowKit

set_option maxRecDepth 100000 in
theorem ow_fresh (T : TypeId) (K : IntKind) (B : Nat) (w : World) (hB : B ≤ w.heap.size) : ow T K B (w.alloc (.cells #[] T)) (.slice (some ⟨w.heap.size, 0, none⟩) 0 0) [] :=
  ⟨rfl, Or.inr ⟨w.heap.size, 0, #[], rfl, hB, heap_alloc_new _ _, Nat.le_refl _, Nat.zero_le _, by simp, by simp⟩⟩
set_option maxRecDepth 100000 in
theorem infoU8d : (Tryz.prog.info? 5).map (fun i => (i.zero, i.size, i.bytes)) = some (some (.int .u8 0), 1, 1) := by kernel_rfl
/-- what a draw of bytes comes to, in a row that may be appended to -/
def bytesDrawn (most : Nat) (b : Nat) (sv : Value) (w : World) (e : Ending) (w' : World) : Prop := ∃ (A : Option Addr) (c : Nat) (L : List Int), e = .returned (.slice A L.length c) ∧ ow 5 .u8 w.heap.size w' (.slice A L.length c) L ∧ L.length ≤ most ∧ curOn b sv w w'
set_option maxRecDepth 100000 in
set_option maxHeartbeats 1600000 in
theorem bytesDraw_any (most : Nat) (hmost : most ≤ 200) (b : Nat) (sv : Value) (i0 : Nat) (h0 : Int) (w : World) (hc : curAt w b sv i0 h0) (hi : i0 ≤ lenOf sv) (hr : readable w b sv) :
    Calls Tryz.prog 236 #[.pointer (some ⟨b, 0, none⟩), .int .i64 (most : Int)] w (bytesDrawn most b sv w) := by
  have hblt := lt_of_cur hc
  have HR : Hid (∀ w' : World, w.grownBy w' (some b) → readable w' b sv) := Lib.hid fun w' hg => hr.grownAt hg (by omega)
  go_enter Tryz.func236, Tryz.ntmps236
  go_wp2_with fail
  refine (below_any b sv i0 h0 ((most : Int) + 1) _ (cur_alloc hc _) hi (hr.alloc _) (by omega) (by omega)).mono ?_
  rintro e w1 ⟨x, i1, h1, rfl, hx0, hx1, hi1, hc1, ho1⟩
  have HO1 : Hid (curOn b sv w w1) := Lib.hid (((curOn.start hc hi).alloc _).only hi1 hc1 ho1)
  have hz1 : w.heap.size + 1 ≤ w1.heap.size := by have := ho1.size; simp at this; omega
  have HW1 : Hid (ow 5 .u8 w.heap.size w1 (.slice (some ⟨w.heap.size, 0, none⟩) 0 0) []) := Lib.hid (ow.grownRow (ow_fresh 5 .u8 w.heap.size w (Nat.le_refl _)) ho1.grown (fun g hg e => by cases e; simp [Value.ownBlock] at hg <;> omega))
  clear hc1 ho1 hc hi hr
  go_wp2
  go_loopw [5, 6] (fun bv nv wr => ∃ (k : Int) (A : Option Addr) (c : Nat) (L : List Int), nv = .int .i64 k ∧ bv = .slice A L.length c ∧ 0 ≤ k ∧ (L.length : Int) + k ≤ most ∧ Hid (ow 5 .u8 w.heap.size wr (.slice A L.length c) L) ∧ Hid (curOn b sv w wr)) (fun _ nv _ => (intOf nv).toNat)
  case atStart => exact ⟨x, _, 0, [], rfl, rfl, hx0, by simp; omega, HW1, HO1⟩
  case round =>
    obtain ⟨k, A, c, L, rfl, rfl, hk0, hk, HW, HO⟩ := hrel
    by_cases hpos : 0 < k
    · obtain ⟨i3, h3, hi3, hc3, -⟩ := HO.out
      have HC3 := Lib.hid hc3
      have hz := HO.out.size
      clear hc3
      go_wp2_with fail
      refine (byte_any b sv i3 h3 wr HC3.out hi3 (HR.out _ HO.out.grown)).mono ?_
      rintro e w4 ⟨y, i4, h4, rfl, hy0, hy1, hi4, hc4, ho4⟩
      have hy256 : IntKind.u8.wrap y = y := IntWalk.u8_in _ (by omega)
      have HO4 := Lib.hid (HO.out.only hi4 hc4 ho4)
      have HW4 : Hid (ow 5 .u8 w.heap.size w4 (.slice A L.length c) L) := Lib.hid (ow.grownRow HW.out ho4.grown (fun g hg e => by cases e; have := (HW.out.from) b hg; omega))
      have hz4 : wr.heap.size ≤ w4.heap.size := by rw [ho4.size]; exact Nat.le_refl _
      have HW5 := Lib.hid (HW4.out.below ((Below.refl w4.heap.size w4).alloc (Nat.le_refl _) (.cells #[.int .u8 y] 5)) (Nat.le_refl _))
      have HS5 := Lib.hid (ow_at (W := w4.alloc (.cells #[.int .u8 y] 5)) (K := .u8) (B := w.heap.size) (heap_alloc_new w4 (.cells #[.int .u8 y] 5)) (by omega)).nums.rd
      clear hc4 ho4 HC3 HW HO
      go_wp2_with (at_builtin; refine app_all (w4.alloc (.cells #[.int .u8 y] 5)) rfl _ _ 22 rfl w.heap.size 5 .u8 1 Tryz.underlying22 infoU8d _ L rfl HW5.out _ _ [y] (by rfl) HS5.out (by unfold maxLen; simp <;> omega) (by simp <;> omega) (by simp; omega) ?_)
      intro v6 w6 hown6 hg6 hb6
      obtain ⟨A6, c6, rfl, hc6⟩ := hown6.nums.form
      have HW6 := Lib.hid hown6
      have HO6 : Hid (curOn b sv w w6) := Lib.hid ((HO4.out.alloc _).below hblt hb6 (Nat.le_refl _))
      clear hown6 hg6 hb6
      go_wp2
      go_roundw
      case rel => exact ⟨k - 1, A6, c6, L ++ [y], rfl, rfl, by omega, by simp; omega, HW6, HO6⟩
      case measure => simp [intOf] <;> omega
    · go_wp2
      go_ret
      exact ⟨A, c, L, rfl, HW.out, by omega, HO.out⟩
def traceTexts : List (List UInt8) := [[48, 48, 48, 48, 48, 49], [48, 48, 48, 48, 48, 50], [48, 48, 48, 48, 48, 51], [49, 50, 51, 52, 53, 54]]
def mti3Texts : List (List UInt8) := [[48, 49, 48, 48], [48, 50, 50, 48], [48, 50, 48, 48]]
set_option maxRecDepth 100000 in
theorem trace_small {x : List UInt8} (h : x ∈ traceTexts) : x.length ≤ 6 := by
  simp only [traceTexts, List.mem_cons, List.not_mem_nil, or_false] at h
  rcases h with rfl | rfl | rfl | rfl <;> decide
set_option maxRecDepth 100000 in
theorem mti3_small {x : List UInt8} (h : x ∈ mti3Texts) : x.length ≤ 4 := by
  simp only [mti3Texts, List.mem_cons, List.not_mem_nil, or_false] at h
  rcases h with rfl | rfl | rfl <;> decide
def slotDrawn (b : Nat) (sv : Value) (w : World) (e : Ending) (w' : World) : Prop := ∃ (x : SlotD) (A : Option Addr) (c : Nat), e = .returned (.agg #[.string x.1, .string x.2.1, .slice A x.2.2.length c]) ∧ x.1.size ≤ 6 ∧ x.2.1.size ≤ 4 ∧ x.2.2.length ≤ 4 ∧ rd .u8 w'.heap.size w' (.slice A x.2.2.length c) x.2.2 ∧ curOn b sv w w'
set_option maxRecDepth 100000 in
set_option maxHeartbeats 1600000 in
theorem slotDraw_any (b : Nat) (sv : Value) (i0 : Nat) (h0 : Int) (w : World) (hc : curAt w b sv i0 h0) (hi : i0 ≤ lenOf sv) (hr : readable w b sv) :
    Calls Tryz.prog 195 #[.pointer (some ⟨b, 0, none⟩)] w (slotDrawn b sv w) := by
  have hblt := lt_of_cur hc
  have HR : Hid (∀ w' : World, w.grownBy w' (some b) → readable w' b sv) := Lib.hid fun w' hg => hr.grownAt hg (by omega)
  go_enter Tryz.func195, Tryz.ntmps195
  go_upto_region 1 with fail
  obtain ⟨W, hW⟩ : ∃ W, W = w.alloc (.cells #[.string ⟨#[]⟩, .string ⟨#[]⟩, .slice none 0 0] 176) := ⟨_, rfl⟩
  have B0 : Hid (bk W w.heap.size 176 [.string ⟨#[]⟩, .string ⟨#[]⟩, .slice none 0 0]) := Lib.hid (by rw [hW]; exact bk.new w _ _)
  have HO0 : Hid (curOn b sv w W) := Lib.hid (by rw [hW]; exact (curOn.start hc hi).alloc _)
  have HC0 : Hid (curAt W b sv i0 h0) := Lib.hid (by rw [hW]; exact cur_alloc hc _)
  have z0 : w.heap.size + 1 = W.heap.size := by rw [hW]; simp
  rw [← hW]
  clear hW hc hr
  go_wp2_with fail
  refine (pickStr_any b sv i0 h0 W.heap.size 4 traceTexts _ (cur_alloc HC0.out _) hi ((HR.out _ HO0.out.grown).alloc _) (by omega) (texts_at W _ traceTexts _ _ (by rfl) rfl) rfl (by omega) (by omega)).mono ?_
  rintro e w1 ⟨x, i1, h1, hx, rfl, hi1, hc1, ho1⟩
  have HO1 : Hid (curOn b sv w w1) := Lib.hid ((HO0.out.alloc _).only hi1 hc1 ho1)
  have hxs := trace_small hx
  have HC1 := Lib.hid hc1
  have z1 : W.heap.size + 1 = w1.heap.size := by have := ho1.size; simp at this; omega
  have B1 : Hid (bk w1 w.heap.size 176 [.string ⟨#[]⟩, .string ⟨#[]⟩, .slice none 0 0]) := Lib.hid ((ho1.block w.heap.size (by omega)).trans (B0.out.alloc _))
  clear hc1 ho1 hx HO0 HC0 B0
  go_wp2_with fail
  refine (pickStr_any b sv i1 h1 w1.heap.size 3 mti3Texts _ (cur_alloc HC1.out _) hi1 ((HR.out _ HO1.out.grown).alloc _) (by omega) (texts_at w1 _ mti3Texts _ _ (by rfl) rfl) rfl (by omega) (by omega)).mono ?_
  rintro e w2 ⟨y, i2, h2, hy, rfl, hi2, hc2, ho2⟩
  have HO2 : Hid (curOn b sv w w2) := Lib.hid ((HO1.out.alloc _).only hi2 hc2 ho2)
  have hys := mti3_small hy
  have HC2 := Lib.hid hc2
  have z2 : w1.heap.size + 1 = w2.heap.size := by have := ho2.size; simp at this; omega
  have B2 : Hid (bk w2 w.heap.size 176 [.string ⟨#[]⟩, .string ⟨#[]⟩, .slice none 0 0]) := Lib.hid ((ho2.block w.heap.size (by omega)).trans (B1.out.alloc _))
  clear hc2 ho2 hy HO1 HC1 B1
  go_wp2_with fail
  refine (bytesDraw_any 3 (by decide) b sv i2 h2 w2 HC2.out hi2 (HR.out _ HO2.out.grown)).mono ?_
  rintro e w3 ⟨A, c, L, rfl, hw3, hl3, ho3⟩
  have HO3 := Lib.hid (HO2.out.then ho3)
  have z3 := ho3.size
  have B3 : Hid (bk w3 w.heap.size 176 [.string ⟨#[]⟩, .string ⟨#[]⟩, .slice none 0 0]) := Lib.hid ((ho3.grown.block w.heap.size (by omega) (fun e => by simp at e; omega)).trans B2.out)
  have HW4 := Lib.hid (hw3.below ((Below.refl w3.heap.size w3).alloc (Nat.le_refl _) (.cells #[.int .u8 1] 5)) (Nat.le_refl _))
  have HS4 := Lib.hid (ow_at (W := w3.alloc (.cells #[.int .u8 1] 5)) (K := .u8) (B := w2.heap.size) (heap_alloc_new w3 (.cells #[.int .u8 1] 5)) (by omega)).nums.rd
  clear ho3 hw3 HO2 HC2 B2
  go_wp2_with (at_builtin; refine app_all (w3.alloc (.cells #[.int .u8 1] 5)) rfl _ _ 22 rfl w2.heap.size 5 .u8 1 Tryz.underlying22 infoU8d _ L rfl HW4.out _ _ [1] (by rfl) HS4.out (by unfold maxLen; simp <;> omega) (by simp <;> omega) (by simp; omega) ?_)
  intro v6 w6 hown6 hg6 hb6
  obtain ⟨A6, c6, rfl, hc6⟩ := hown6.nums.form
  have HW6 := Lib.hid hown6.nums
  have HO6 : Hid (curOn b sv w w6) := Lib.hid ((HO3.out.alloc _).below hblt hb6 (by omega))
  have B6 : Hid (bk w6 w.heap.size 176 [.string ⟨#[]⟩, .string ⟨#[]⟩, .slice none 0 0]) := Lib.hid ((B3.out.alloc _).below hb6 (by omega))
  have z6 : w3.heap.size + 1 ≤ w6.heap.size := by have := hg6.size; simpa using this
  have hl6 : (L ++ [(1 : Int)]).length ≤ 4 := by simp; omega
  obtain ⟨L6, hL6⟩ : ∃ L6, L6 = L ++ [(1 : Int)] := ⟨_, rfl⟩
  have hn6 : L.length + 1 = L6.length := by rw [hL6]; simp
  have hn7 : (L ++ [(1 : Int)]).length = L6.length := by rw [hL6]
  rw [← hL6] at HW6 hl6
  clear hown6 hg6 hb6 hL6 HO3 B3 HW4 HS4
  go_upto_region 2 with fail
  first | rw [hn7] | rw [hn6] | skip
  obtain ⟨W7, hW7⟩ : ∃ W7, W7 = w6.alloc (.cells #[.string ⟨x.toArray⟩, .string ⟨y.toArray⟩, .slice A6 L6.length c6] 176) := ⟨_, rfl⟩
  have K7 : bk W7 w6.heap.size 176 [.string ⟨x.toArray⟩, .string ⟨y.toArray⟩, .slice A6 L6.length c6] := by rw [hW7]; exact bk.new w6 _ _
  have B7 : bk W7 w.heap.size 176 [.string ⟨#[]⟩, .string ⟨#[]⟩, .slice none 0 0] := by rw [hW7]; exact B6.out.alloc _
  have HO7 : Hid (curOn b sv w W7) := Lib.hid (by rw [hW7]; exact HO6.out.alloc _)
  have HW7 : Hid (nums .u8 w2.heap.size w6.heap.size W7 (.slice A6 L6.length c6) L6) := Lib.hid (by rw [hW7]; exact HW6.out.below ((Below.refl w6.heap.size w6).alloc (Nat.le_refl _) _) (Nat.le_refl _))
  have z7 : w6.heap.size + 1 = W7.heap.size := by rw [hW7]; simp
  rw [← hW7]
  clear hW7 B6 HO6 HW6
  obtain ⟨p0, p1, p2⟩ := K7.cells3
  obtain ⟨q0, q1, q2⟩ := B7.cells3
  have f0 := B7.frozen 0
  have f1 := B7.frozen 1
  have f2 := B7.frozen 2
  clear K7 B7
  go_wp2
  refine bodyPost_ret (v := .agg #[.string ⟨x.toArray⟩, .string ⟨y.toArray⟩, .slice A6 L6.length c6]) (by simp [results, Tryz.results195, go_sem, q0, q1, q2]) rfl ?_
  have ht := (((Turned.refl w.heap.size (w.heap.size + 1) W7).set (b := w.heap.size) 0 (.string ⟨x.toArray⟩) (by omega) (by omega)).set (b := w.heap.size) 1 (.string ⟨y.toArray⟩) (by omega) (by omega)).set (b := w.heap.size) 2 (.slice A6 L6.length c6) (by omega) (by omega)
  have hsz := ht.size
  exact ⟨(⟨x.toArray⟩, ⟨y.toArray⟩, L6), A6, c6, rfl, hxs, hys, hl6, ((HW7.out.turned ht (.inr (by omega)) (by omega)).mono (Nat.le_refl _) (show w6.heap.size ≤ _ by omega)).rd, HO7.out.rest hblt ht (Nat.le_refl _)⟩
def slotsDrawn (b : Nat) (sv : Value) (w : World) (e : Ending) (w' : World) : Prop := ∃ (l : List SlotD) (A : Option Addr) (c : Nat), e = .returned (.slice A l.length c) ∧ slotsOk l = true ∧ SlotsR.mine w.heap.size w'.heap.size w' [.slice A l.length c] l ∧ curOn b sv w w'
set_option maxRecDepth 100000 in
set_option maxHeartbeats 1600000 in
theorem slotsDraw_any (b : Nat) (sv : Value) (i0 : Nat) (h0 : Int) (w : World) (hc : curAt w b sv i0 h0) (hi : i0 ≤ lenOf sv) (hr : readable w b sv) :
    Calls Tryz.prog 117 #[.pointer (some ⟨b, 0, none⟩)] w (slotsDrawn b sv w) := by
  have hblt := lt_of_cur hc
  have HR : Hid (∀ w' : World, w.grownBy w' (some b) → readable w' b sv) := Lib.hid fun w' hg => hr.grownAt hg (by omega)
  go_enter Tryz.func117, Tryz.ntmps117
  go_upto_region 2 with fail
  obtain ⟨W, hW⟩ : ∃ W, W = w.alloc (.cells #[] 176) := ⟨_, rfl⟩
  have HO0 : Hid (curOn b sv w W) := Lib.hid (by rw [hW]; exact (curOn.start hc hi).alloc _)
  have HC0 : Hid (curAt W b sv i0 h0) := Lib.hid (by rw [hW]; exact cur_alloc hc _)
  have z0 : w.heap.size + 1 = W.heap.size := by rw [hW]; simp
  rw [← hW]
  clear hW hc hr
  go_wp2_with fail
  refine (below_any b sv i0 h0 5 W HC0.out hi (HR.out _ HO0.out.grown) (by decide) (by decide)).mono ?_
  rintro e w1 ⟨k1, i1, h1, rfl, hk0, hk1, hi1, hc1, ho1⟩
  have HO1 := Lib.hid (HO0.out.only hi1 hc1 ho1)
  have z1 : W.heap.size = w1.heap.size := ho1.size.symm
  clear hc1 ho1 HO0 HC0
  go_wp2
  go_loopw [3, 4] (fun lv kv wr => ∃ (l : List SlotD) (A : Option Addr) (c : Nat) (k : Int), lv = .slice A l.length c ∧ kv = .int .i64 k ∧ 0 ≤ k ∧ k ≤ 4 ∧ Hid (slotsOk l = true) ∧ Hid (SlotsR.mine w.heap.size wr.heap.size wr [.slice A l.length c] l) ∧ Hid (curOn b sv w wr)) (fun _ kv _ => (intOf kv).toNat)
  case atStart => exact ⟨[], some ⟨w.heap.size, 0, none⟩, 0, k1, rfl, rfl, hk0, by omega, Lib.hid (by decide), Lib.hid ⟨[], ⟨_, 0, rfl, Nat.le_refl _, .inl ⟨rfl, rfl⟩⟩, List.nodup_nil, by simp⟩, HO1⟩
  case round =>
    obtain ⟨l, A, c, k, rfl, rfl, k0, k3, HK, HM, HO⟩ := hrel
    by_cases hpos : 0 < k
    · obtain ⟨i2, h2, hi2, hc2, hg2⟩ := HO.out
      have HC2 := Lib.hid hc2
      clear hc2 hg2
      go_wp2_with fail
      refine (slotDraw_any b sv i2 h2 wr HC2.out hi2 (HR.out _ HO.out.grown)).mono ?_
      rintro e w3 ⟨x, AX, cX, rfl, hx1, hx2, hx3, hxr, ho3⟩
      have HO3 := Lib.hid (HO.out.then ho3)
      have z3 := ho3.size
      have HM3 := Lib.hid (HM.out.turned (turned_of_grown ho3.grown) (.inr (by omega)) (Nat.le_refl _))
      obtain ⟨hl4, hls⟩ := slotsOk_small HK.out
      have HP := Lib.hid (specSlotPut_any w3.heap.size _ _ l x w3 (by omega) (fun y hy => by have := (hls y hy).2.2; omega) (fun y hy => by have := hls y hy; unfold maxLen; omega) (by omega) (by unfold maxLen; omega) (by unfold maxLen; omega) (HM3.out.mono (Nat.le_refl _) z3).rd hxr (Nat.le_refl _))
      have HPK := Lib.hid (@slotPut_ok l x)
      clear ho3 HC2 hls HM HO hxr
      obtain ⟨q, hq⟩ : ∃ q, q = slotPutL l x := ⟨_, rfl⟩
      rw [← hq] at HP HPK
      obtain ⟨l2, ok⟩ := q
      clear hq
      simp only at HP HPK
      go_wp2_with fail
      refine HP.out.mono ?_
      rintro e w4 ⟨u, rfl, hm4, hb4⟩
      obtain ⟨A4, c4, rfl, -⟩ := Rep.slice_form hm4.rd
      have HO4 := Lib.hid (HO3.out.below hblt hb4 HO3.out.size)
      have z4 := hb4.size
      have z5 := HO3.out.size
      have HM4 := Lib.hid hm4
      have HM5 := Lib.hid (HM3.out.below hb4 z3)
      clear hm4 hb4 HP HO3 HM3
      cases ok
      · go_wp2
        go_roundw
        case rel => exact ⟨l, A, c, k - 1, rfl, rfl, by omega, by omega, HK, Lib.hid (HM5.out.mono (Nat.le_refl _) (by omega)), HO4⟩
        case measure => simp [intOf] <;> omega
      · have HK4 := Lib.hid (HPK.out (by trivial))
        go_wp2
        go_roundw
        case rel => exact ⟨l2, A4, c4, k - 1, rfl, rfl, by omega, by omega, HK4, Lib.hid (HM4.out.mono z5 (Nat.le_refl _)), HO4⟩
        case measure => simp [intOf] <;> omega
    · go_wp2
      go_ret
      exact ⟨l, A, c, rfl, HK.out, HM.out, HO.out⟩
end Go.Proofs.YtnmijppppcgobaaGreatDoor
set_option linter.unusedVariables false
namespace Go.Proofs.YtnmijppppcgobaaGreatDoor
open Go.ChangeShapes Go.WideShapes Go.ChangeAt Go.RowKit

/-- a time and an amount -/
abbrev Ev := Int × Int
/-- what the weights of those with p come to -/
def tot (g : Ev → Int) (p : Ev → Bool) (ev : List Ev) : Int := ((ev.filter p).map g).sum
set_option maxRecDepth 100000 in
theorem tot_nil (g : Ev → Int) (p : Ev → Bool) : tot g p [] = 0 := rfl
set_option maxRecDepth 100000 in
theorem tot_cons (g : Ev → Int) (p : Ev → Bool) (e : Ev) (l : List Ev) : tot g p (e :: l) = (if p e = true then g e else 0) + tot g p l := by
  unfold tot
  rw [List.filter_cons]
  split <;> simp
set_option maxRecDepth 100000 in
theorem tot_snoc (g : Ev → Int) (p : Ev → Bool) (e : Ev) (l : List Ev) : tot g p (l ++ [e]) = tot g p l + (if p e = true then g e else 0) := by
  induction l with
  | nil => rw [List.nil_append, tot_cons, tot_nil]; omega
  | cons a l ih => rw [List.cons_append, tot_cons, tot_cons, ih]; omega
set_option maxRecDepth 100000 in
theorem tot_pos {g : Ev → Int} {p : Ev → Bool} {l : List Ev} (h : ∀ e ∈ l, 0 ≤ g e) : 0 ≤ tot g p l := by
  induction l with
  | nil => exact Int.le_refl 0
  | cons a l ih =>
    rw [tot_cons]
    have h1 := ih fun e he => h e (List.mem_cons_of_mem _ he)
    have h2 := h a (List.mem_cons_self ..)
    split <;> omega
set_option maxRecDepth 100000 in
theorem tot_le {g : Ev → Int} {p : Ev → Bool} {l : List Ev} {M : Int} (h : ∀ e ∈ l, 0 ≤ g e ∧ g e ≤ M) : tot g p l ≤ M * l.length := by
  induction l with
  | nil => rw [tot_nil]; simp
  | cons a l ih =>
    rw [tot_cons]
    have h1 := ih fun e he => h e (List.mem_cons_of_mem _ he)
    have h2 := h a (List.mem_cons_self ..)
    rw [List.length_cons]
    have h3 : M * ((l.length + 1 : Nat) : Int) = M * l.length + M := by rw [Int.natCast_add, Int.mul_add]; simp
    rw [h3]
    split <;> omega
set_option maxRecDepth 100000 in
theorem tot_none {g : Ev → Int} {p : Ev → Bool} {l : List Ev} (h : ∀ e ∈ l, p e = false) : tot g p l = 0 := by
  induction l with
  | nil => rfl
  | cons a l ih =>
    rw [tot_cons, ih fun e he => h e (List.mem_cons_of_mem _ he), h a (List.mem_cons_self ..)]
    rfl
/-- the bucket k of those whose time is in it -/
def atB (sp k : Int) (e : Ev) : Bool := decide (e.1 / sp = k)
def win (g : Ev → Int) (sp : Int) (n : Nat) (ev : List Ev) (H : Int) : List Int := (List.range n).map fun i => tot g (atB sp (H - (i : Nat))) ev
set_option maxRecDepth 100000 in
theorem winB_len (g : Ev → Int) (sp : Int) (n : Nat) (ev : List Ev) (H : Int) : (win g sp n ev H).length = n := by simp [win]
set_option maxRecDepth 100000 in
theorem win_at {g : Ev → Int} {sp : Int} {n i : Nat} {ev : List Ev} {H : Int} (h : i < n) : (win g sp n ev H)[i]? = some (tot g (atB sp (H - (i : Nat))) ev) := by
  unfold win
  rw [List.getElem?_map, List.getElem?_range h]; rfl
set_option maxRecDepth 100000 in
theorem win_getD {g : Ev → Int} {sp : Int} {n i : Nat} {ev : List Ev} {H : Int} (h : i < n) : (win g sp n ev H).getD i 0 = tot g (atB sp (H - (i : Nat))) ev := by
  rw [List.getD_eq_getElem?_getD, win_at h]; rfl
set_option maxRecDepth 100000 in
theorem win_shift {g : Ev → Int} {sp : Int} {n : Nat} {ev : List Ev} {H : Int} (k : Nat) (h : ∀ e ∈ ev, e.1 / sp ≤ H) : shiftL k (win g sp n ev H) = win g sp n ev (H + k) := by
  apply List.ext_getElem?
  intro i
  by_cases hi : i < n
  · rw [shiftL_at (by rw [winB_len]; exact hi), win_at hi]
    congr 1
    by_cases hk : k ≤ i
    · rw [if_pos hk, win_getD (by omega)]
      congr 2
      omega
    · rw [if_neg hk]
      refine (tot_none fun e he => ?_).symm
      have := h e he
      simp only [atB, decide_eq_false_iff_not]
      omega
  · rw [List.getElem?_eq_none (by rw [shiftL_len, winB_len]; omega), List.getElem?_eq_none (by rw [winB_len]; omega)]
set_option maxRecDepth 100000 in
/-- the program's sum is the sum where nothing is too big -/
theorem sat_exact {a b : Int} (ha : 0 ≤ a) (hb : 0 ≤ b) (h : a + b ≤ 4611686018427387904) : satVal a b = a + b := by
  have c1 : clampM a = a := by unfold clampM; rw [if_neg (by omega), if_neg (by omega)]
  have c2 : clampM b = b := by unfold clampM; rw [if_neg (by omega), if_neg (by omega)]
  unfold satVal
  rw [c1, c2, if_pos]
  simp only [addOk, isMon, Bool.and_eq_true, decide_eq_true_eq]
  omega
set_option maxRecDepth 100000 in
theorem win_add {g : Ev → Int} {sp : Int} {n : Nat} {ev : List Ev} {e : Ev} {H : Int} (hn : 1 ≤ n) (hH : e.1 / sp = H) (h0 : ∀ x ∈ ev, 0 ≤ g x) (he : 0 ≤ g e) (hM : tot g (atB sp H) ev + g e ≤ 4611686018427387904) :
    addOne (win g sp n ev H) (g e) = win g sp n (ev ++ [e]) H := by
  apply List.ext_getElem?
  intro i
  unfold addOne
  have h00 : H - ((0 : Nat) : Int) = H := by omega
  by_cases hi : i < n
  · rw [win_at hi, tot_snoc]
    by_cases hz : i = 0
    · subst hz
      rw [List.getElem?_set_self (by rw [winB_len]; exact hi), win_getD hi, h00, sat_exact (tot_pos h0) he hM, if_pos (by simp [atB, hH])]
    · rw [List.getElem?_set_ne (fun h => hz h.symm), win_at hi, if_neg (by simp only [atB, decide_eq_true_eq]; omega), Int.add_zero]
  · rw [List.getElem?_eq_none (by rw [List.length_set, winB_len]; omega), List.getElem?_eq_none (by rw [winB_len]; omega)]
/-- a ring that has been fed with these -/
def ringOf (sp : Int) (n : Nat) (ev : List Ev) (H : Int) : RingD := (sp, H, win (fun _ => 1) sp n ev H, win Prod.snd sp n ev H)
/-- what is asked of the events: none after H, amounts that are money, and few -/
structure Fed (sp : Int) (ev : List Ev) (H : Int) : Prop where
  head : 0 ≤ H ∧ H ≤ 1000000000
  le : ∀ e ∈ ev, e.1 / sp ≤ H
  amt : ∀ e ∈ ev, 0 ≤ e.2 ∧ e.2 ≤ 1000
  few : ev.length ≤ 1000
set_option maxRecDepth 100000 in
theorem Fed.one {sp : Int} {ev : List Ev} {H : Int} (h : Fed sp ev H) (p : Ev → Bool) : 0 ≤ tot (fun _ => 1) p ev ∧ tot (fun _ => 1) p ev ≤ 1000 := by
  refine ⟨tot_pos fun _ _ => by omega, ?_⟩
  have h1 := tot_le (g := fun _ => 1) (p := p) (l := ev) (M := 1) fun _ _ => by omega
  have h2 := h.few
  omega
set_option maxRecDepth 100000 in
theorem Fed.two {sp : Int} {ev : List Ev} {H : Int} (h : Fed sp ev H) (p : Ev → Bool) : 0 ≤ tot Prod.snd p ev ∧ tot Prod.snd p ev ≤ 1000000 := by
  refine ⟨tot_pos fun e he => (h.amt e he).1, ?_⟩
  have h1 := tot_le (g := Prod.snd) (p := p) (l := ev) (M := 1000) h.amt
  have h2 := h.few
  omega
set_option maxRecDepth 100000 in
theorem Fed.ok {sp : Int} {n : Nat} {ev : List Ev} {H : Int} (h : Fed sp ev H) (s1 : 1 ≤ sp) (s2 : sp ≤ 1000) (n1 : 1 ≤ n) (n2 : n ≤ 8) : ringOk (ringOf sp n ev H) = true := by
  have a1 : inB sp 1 1000 = true := decide_eq_true ⟨s1, s2⟩
  have a2 : inB ((win (fun _ => 1) sp n ev H).length : Int) 1 8 = true := by rw [winB_len]; exact decide_eq_true (by omega)
  have a3 : decide ((win Prod.snd sp n ev H).length = (win (fun _ => 1) sp n ev H).length) = true := decide_eq_true (by rw [winB_len, winB_len])
  have a4 : timeB H = true := decide_eq_true h.head
  have a5 : (win (fun _ => 1) sp n ev H).all isMon = true := List.all_eq_true.2 fun x hx => by
    obtain ⟨i, -, rfl⟩ := List.mem_map.1 hx
    have := h.one (atB sp (H - (i : Nat)))
    simp only [isMon, Bool.and_eq_true, decide_eq_true_eq]; omega
  have a6 : (win Prod.snd sp n ev H).all isMon = true := List.all_eq_true.2 fun x hx => by
    obtain ⟨i, -, rfl⟩ := List.mem_map.1 hx
    have := h.two (atB sp (H - (i : Nat)))
    simp only [isMon, Bool.and_eq_true, decide_eq_true_eq]; omega
  show ((inB sp 1 1000 && (inB ((win (fun _ => 1) sp n ev H).length : Int) 1 8 && (decide ((win Prod.snd sp n ev H).length = (win (fun _ => 1) sp n ev H).length) && timeB H))) && ((win (fun _ => 1) sp n ev H).all isMon && (win Prod.snd sp n ev H).all isMon)) = true
  rw [a1, a2, a3, a4, a5, a6]; rfl
set_option maxRecDepth 100000 in
theorem Fed.up {sp : Int} {ev : List Ev} {H K : Int} (h : Fed sp ev H) (h1 : H ≤ K) (h2 : K ≤ 1000000000) : Fed sp ev K := ⟨⟨by have := h.head; omega, h2⟩, fun e he => by have := h.le e he; omega, h.amt, h.few⟩
set_option maxRecDepth 100000 in
theorem Fed.take {sp : Int} {ev : List Ev} {H : Int} (h : Fed sp ev H) (i : Nat) : Fed sp (ev.take i) H := ⟨h.head, fun e he => h.le e (List.mem_of_mem_take he), fun e he => h.amt e (List.mem_of_mem_take he), by rw [List.length_take]; have := h.few; omega⟩
set_option maxRecDepth 100000 in
/-- it rolls to where the time is, never back -/
theorem Fed.roll {sp : Int} {n : Nat} {ev : List Ev} {H : Int} (h : Fed sp ev H) (s1 : 1 ≤ sp) (s2 : sp ≤ 1000) (n1 : 1 ≤ n) (n2 : n ≤ 8) {now : Int} (t : timeB now = true) : ringRoll (ringOf sp n ev H) now = ringOf sp n ev (if H < now / sp then now / sp else H) := by
  have hgo : ringGo (ringOf sp n ev H) now = decide (H < now / sp) := by
    unfold ringGo
    rw [h.ok s1 s2 n1 n2, t]; rfl
  unfold ringRoll
  rw [hgo]
  by_cases hl : H < now / sp
  · rw [decide_eq_true hl, if_pos rfl, if_pos hl]
    show (sp, now / sp, shiftL (now / sp - H).toNat (win (fun _ => 1) sp n ev H), shiftL (now / sp - H).toNat (win Prod.snd sp n ev H)) = (sp, now / sp, win (fun _ => 1) sp n ev (now / sp), win Prod.snd sp n ev (now / sp))
    rw [win_shift _ h.le, win_shift _ h.le]
    have : H + ((now / sp - H).toNat : Int) = now / sp := by omega
    rw [this]
  · rw [decide_eq_false hl, if_neg Bool.false_ne_true, if_neg hl]
set_option maxRecDepth 100000 in
theorem time_of {t : Int} (h : timeB t = true) : 0 ≤ t ∧ t ≤ 1000000000 := by simpa [timeB, inB] using h
set_option maxRecDepth 100000 in
theorem time_div {t sp : Int} (h : timeB t = true) (s1 : 1 ≤ sp) : 0 ≤ t / sp ∧ t / sp ≤ 1000000000 := by
  have h1 := time_of h
  have l0 : 0 ≤ t / sp := Int.ediv_nonneg h1.1 (by omega)
  have l1 : t / sp ≤ t := Int.ediv_le_self sp h1.1
  omega
set_option maxRecDepth 100000 in
/-- one more -/
theorem Fed.add {sp : Int} {n : Nat} {ev : List Ev} {H : Int} (h : Fed sp ev H) (s1 : 1 ≤ sp) (s2 : sp ≤ 1000) (n1 : 1 ≤ n) (n2 : n ≤ 8) {t a : Int} (ht : timeB t = true) (hl : H ≤ t / sp) (ha0 : 0 ≤ a) (ha1 : a ≤ 1000) (hf : ev.length + 1 ≤ 1000) :
    ringAdd (ringOf sp n ev H) t a = ringOf sp n (ev ++ [(t, a)]) (t / sp) ∧ Fed sp (ev ++ [(t, a)]) (t / sp) := by
  have hd := time_div ht s1
  have hu := h.up hl hd.2
  have hF : Fed sp (ev ++ [(t, a)]) (t / sp) := by
    refine ⟨hd, fun e he => ?_, fun e he => ?_, by rw [List.length_append]; exact hf⟩
    · rcases List.mem_append.1 he with he | he
      · exact hu.le e he
      · rw [List.mem_singleton.1 he]; exact Int.le_refl _
    · rcases List.mem_append.1 he with he | he
      · exact h.amt e he
      · rw [List.mem_singleton.1 he]; exact ⟨ha0, ha1⟩
  refine ⟨?_, hF⟩
  have hr : ringRoll (ringOf sp n ev H) t = ringOf sp n ev (t / sp) := by
    rw [h.roll s1 s2 n1 n2 ht]
    congr 1
    split <;> omega
  unfold ringAdd ringIn
  have hm : isMon a = true := by simp only [isMon, Bool.and_eq_true, decide_eq_true_eq]; omega
  rw [h.ok s1 s2 n1 n2, ht, hm, hr, show (true && (true && true)) = true from rfl, if_pos rfl]
  simp only [ringOf]
  have q1 := hu.one (atB sp (t / sp))
  have q2 := hu.two (atB sp (t / sp))
  have e1 := win_add (g := fun _ => 1) (sp := sp) (n := n) (ev := ev) (e := (t, a)) (H := t / sp) n1 rfl (fun _ _ => by omega) (by omega) (by omega)
  have e2 := win_add (g := Prod.snd) (sp := sp) (n := n) (ev := ev) (e := (t, a)) (H := t / sp) n1 rfl (fun e he => (h.amt e he).1) ha0 (by show tot Prod.snd _ _ + a ≤ _; omega)
  rw [e1, e2]
end Go.Proofs.YtnmijppppcgobaaGreatDoor
set_option linter.unusedVariables false
namespace Go.Proofs.YtnmijppppcgobaaGreatDoor
open Go.ChangeShapes Go.WideShapes Go.ChangeAt Go.RowKit

set_option maxRecDepth 100000 in
theorem acctIdB_small {s : ByteArray} (h : acctIdB s = true) : s.size ≤ 19 := by
  unfold acctIdB at h
  simp only [Bool.and_eq_true, decide_eq_true_eq] at h
  exact h.1
set_option maxRecDepth 100000 in
theorem satVal_zero {s : Int} (h : isMon s = true) : satVal s 0 = s := by
  obtain ⟨h0, h1⟩ := isMon_true h
  rw [sat_exact h0 (Int.le_refl _) (by omega)]; omega
set_option maxRecDepth 100000 in
theorem stored_from : ∀ (l : List HoldD) (n : Int), isMon n = true → isMon (l.foldl (fun n x => satVal n x.2.1) n) = true
  | [], n, h => h
  | x :: l, n, _ => stored_from l _ (satVal_mon _ _)
set_option maxRecDepth 100000 in
theorem storedL_mon (l : List HoldD) : isMon (storedL l) = true := stored_from l 0 (by decide)
set_option maxRecDepth 100000 in
theorem acctNew_right {id : ByteArray} {lim most sum n sp : Int} (hid : acctIdB id = true) (h1 : 0 ≤ lim ∧ lim ≤ 9007199254740992) (h2 : 0 ≤ most ∧ most ≤ 1000) (h3 : 0 ≤ sum ∧ sum ≤ 9007199254740992) (h4 : 1 ≤ n) (h5 : n ≤ 8) (h6 : 1 ≤ sp) (h7 : sp ≤ 1000) :
    acctNew id lim most sum n sp = (acctFresh id lim most sum (ringNew n sp).1, true) := by
  obtain ⟨r1, r2⟩ := ringNew_right h4 h5 h6 h7
  have hok : acctOk (acctFresh id lim most sum (ringNew n sp).1) = true := by
    unfold acctOk acctHead acctTail
    have e1 : inB lim 0 9007199254740992 = true := decide_eq_true h1
    have e2 : inB most 0 1000 = true := decide_eq_true h2
    have e3 : inB sum 0 9007199254740992 = true := decide_eq_true h3
    have e4 : satVal 0 0 = 0 := satVal_zero (by decide)
    have e5 : slotsOk [] = true := by decide
    have e6 : holdsOk [] = true := by decide
    have e7 : isMon 0 = true := by decide
    have e8 : storedL [] = 0 := rfl
    simp only [aId, aLim, aPos, aMost, aSum, aH, aR, aS, hid, e1, e2, e3, e5, e6, e7, r2, e8, e4, Bool.and_true, Bool.true_and]
    exact decide_eq_true h1.1
  unfold acctNew
  rw [r1, hok]
  rfl
set_option maxRecDepth 100000 in
theorem acct_right {id : ByteArray} {lim most sum y : Int} {H : List HoldD} {r : RingD} {sl : List SlotD} (hid : acctIdB id = true) (h1 : 0 ≤ lim ∧ lim ≤ 9007199254740992) (h2 : 0 ≤ most ∧ most ≤ 1000) (h3 : 0 ≤ sum ∧ sum ≤ 9007199254740992) (hy : 0 ≤ y) (hl : y + storedL H ≤ lim) (hH : holdsOk H = true) (hr : ringOk r = true) (hs : slotsOk sl = true) : acctOk (id, lim, y, most, sum, H, r, sl) = true := by
  have hst := (isMon_true (storedL_mon H)).1
  unfold acctOk acctHead acctTail
  have e1 : inB lim 0 9007199254740992 = true := decide_eq_true h1
  have e2 : inB most 0 1000 = true := decide_eq_true h2
  have e3 : inB sum 0 9007199254740992 = true := decide_eq_true h3
  have e4 : isMon y = true := by unfold isMon; rw [decide_eq_true hy, decide_eq_true (by omega)]; rfl
  have e5 : satVal y (storedL H) = y + storedL H := sat_exact hy hst (by omega)
  simp only [aId, aLim, aPos, aMost, aSum, aH, aR, aS, hid, e1, e2, e3, e4, e5, hH, hr, hs, Bool.and_true, Bool.true_and]
  exact decide_eq_true hl
set_option maxRecDepth 100000 in
theorem slots_nil {lo hi : Nat} {w : World} (A : Option Addr) (c : Nat) : SlotsR.mine lo hi w [.slice A 0 c] [] := ⟨[], ⟨A, c, rfl, Nat.zero_le _, .inl ⟨rfl, rfl⟩⟩, List.nodup_nil, by simp⟩
set_option maxRecDepth 100000 in
theorem holds_nil {lo hi : Nat} {w : World} (A : Option Addr) (c : Nat) : HoldsR.mine lo hi w [.slice A 0 c] [] := ⟨[], ⟨A, c, rfl, Nat.zero_le _, .inl ⟨rfl, rfl⟩⟩, List.nodup_nil, by simp⟩
/-- an account as it is drawn -/
def acctDrawn (b : Nat) (sv : Value) (id : ByteArray) (w : World) (e : Ending) (w' : World) : Prop := ∃ (a : AcctD) (vh vc vs vl : Value), e = .returned (.agg #[.string (aId a), .int .i64 (aLim a), .int .i64 (aPos a), .int .i64 (aMost a), .int .i64 (aSum a), vh, .int .i64 (aR a).1, .int .i64 (aR a).2.1, vc, vs, vl]) ∧ acctOk a = true ∧ aId a = id ∧ AcctI w.heap.size w'.heap.size w' vh vc vs vl a ∧ curOn b sv w w'
set_option maxRecDepth 100000 in
set_option maxHeartbeats 3200000 in
theorem acctDraw_any (b : Nat) (sv : Value) (id : ByteArray) (i0 : Nat) (h0 : Int) (w : World) (hid : acctIdB id = true) (hc : curAt w b sv i0 h0) (hi : i0 ≤ lenOf sv) (hr : readable w b sv) :
    Calls Tryz.prog 51 #[.pointer (some ⟨b, 0, none⟩), .string id] w (acctDrawn b sv id w) := by
  have hblt := lt_of_cur hc
  have HR : Hid (∀ w' : World, w.grownBy w' (some b) → readable w' b sv) := Lib.hid fun w' hg => hr.grownAt hg (by omega)
  have HID := Lib.hid hid
  go_enter Tryz.func51, Tryz.ntmps51
  go_upto_region 1 with fail
  obtain ⟨w0, hW⟩ : ∃ w0, w0 = w.alloc (.cells #[.string ⟨#[]⟩, .int .i64 0, .int .i64 0, .int .i64 0, .int .i64 0, .slice none 0 0, .int .i64 0, .int .i64 0, .slice none 0 0, .slice none 0 0, .slice none 0 0] 29) := ⟨_, rfl⟩
  have B0 : Hid (bk w0 w.heap.size 29 [.string ⟨#[]⟩, .int .i64 0, .int .i64 0, .int .i64 0, .int .i64 0, .slice none 0 0, .int .i64 0, .int .i64 0, .slice none 0 0, .slice none 0 0, .slice none 0 0]) := Lib.hid (by rw [hW]; exact bk.new w _ _)
  have HO0 : Hid (curOn b sv w w0) := Lib.hid (by rw [hW]; exact (curOn.start hc hi).alloc _)
  have HC0 : Hid (curAt w0 b sv i0 h0) := Lib.hid (by rw [hW]; exact cur_alloc hc _)
  have z0 : w.heap.size + 1 = w0.heap.size := by rw [hW]; simp
  have hi0 := hi
  rw [← hW]
  clear hW hc hr hid hi
  go_wp2_with fail
  refine (pickInt_any b sv i0 h0 w0.heap.size 5 [100, 200, 60, 0, 9007199254740992] _ (cur_alloc HC0.out _) hi0 ((HR.out _ HO0.out.grown).alloc _) (by omega) (ints_at w0 _ [100, 200, 60, 0, 9007199254740992] _ _ (by rfl) rfl) rfl (by omega) (by omega)).mono ?_
  rintro e w1 ⟨lim, i1, h1, hm1, rfl, hi1, hc1, ho1⟩
  have blim : 0 ≤ lim ∧ lim ≤ 9007199254740992 := by
    simp only [List.mem_cons, List.not_mem_nil, or_false] at hm1
    omega
  have HO1 : Hid (curOn b sv w w1) := Lib.hid ((HO0.out.alloc _).only hi1 hc1 ho1)
  have HC1 := Lib.hid hc1
  have z1 : w0.heap.size + 1 = w1.heap.size := by have := ho1.size; simp at this; omega
  have B1 : Hid (bk w1 w.heap.size 29 [.string ⟨#[]⟩, .int .i64 0, .int .i64 0, .int .i64 0, .int .i64 0, .slice none 0 0, .int .i64 0, .int .i64 0, .slice none 0 0, .slice none 0 0, .slice none 0 0]) := Lib.hid ((ho1.block w.heap.size (by omega)).trans (B0.out.alloc _))
  clear hc1 ho1 hm1 HO0 HC0 B0
  go_wp2_with fail
  refine (pickInt_any b sv i1 h1 w1.heap.size 4 [2, 3, 5, 1000] _ (cur_alloc HC1.out _) hi1 ((HR.out _ HO1.out.grown).alloc _) (by omega) (ints_at w1 _ [2, 3, 5, 1000] _ _ (by rfl) rfl) rfl (by omega) (by omega)).mono ?_
  rintro e w2 ⟨most, i2, h2, hm2, rfl, hi2, hc2, ho2⟩
  have bmost : 0 ≤ most ∧ most ≤ 1000 := by
    simp only [List.mem_cons, List.not_mem_nil, or_false] at hm2
    omega
  have HO2 : Hid (curOn b sv w w2) := Lib.hid ((HO1.out.alloc _).only hi2 hc2 ho2)
  have HC2 := Lib.hid hc2
  have z2 : w1.heap.size + 1 = w2.heap.size := by have := ho2.size; simp at this; omega
  have B2 : Hid (bk w2 w.heap.size 29 [.string ⟨#[]⟩, .int .i64 0, .int .i64 0, .int .i64 0, .int .i64 0, .slice none 0 0, .int .i64 0, .int .i64 0, .slice none 0 0, .slice none 0 0, .slice none 0 0]) := Lib.hid ((ho2.block w.heap.size (by omega)).trans (B1.out.alloc _))
  clear hc2 ho2 hm2 HO1 HC1 B1
  go_wp2_with fail
  refine (pickInt_any b sv i2 h2 w2.heap.size 4 [60, 120, 1000, 9007199254740992] _ (cur_alloc HC2.out _) hi2 ((HR.out _ HO2.out.grown).alloc _) (by omega) (ints_at w2 _ [60, 120, 1000, 9007199254740992] _ _ (by rfl) rfl) rfl (by omega) (by omega)).mono ?_
  rintro e w3 ⟨sum, i3, h3, hm3, rfl, hi3, hc3, ho3⟩
  have bsum : 0 ≤ sum ∧ sum ≤ 9007199254740992 := by
    simp only [List.mem_cons, List.not_mem_nil, or_false] at hm3
    omega
  have HO3 : Hid (curOn b sv w w3) := Lib.hid ((HO2.out.alloc _).only hi3 hc3 ho3)
  have HC3 := Lib.hid hc3
  have z3 : w2.heap.size + 1 = w3.heap.size := by have := ho3.size; simp at this; omega
  have B3 : Hid (bk w3 w.heap.size 29 [.string ⟨#[]⟩, .int .i64 0, .int .i64 0, .int .i64 0, .int .i64 0, .slice none 0 0, .int .i64 0, .int .i64 0, .slice none 0 0, .slice none 0 0, .slice none 0 0]) := Lib.hid ((ho3.block w.heap.size (by omega)).trans (B2.out.alloc _))
  clear hc3 ho3 hm3 HO2 HC2 B2
  go_wp2_with fail
  refine (below_any b sv i3 h3 4 w3 HC3.out hi3 (HR.out _ HO3.out.grown) (by decide) (by decide)).mono ?_
  rintro e w4 ⟨n, i4, h4, rfl, n0, n1, hi4, hc4, ho4⟩
  have HO4 : Hid (curOn b sv w w4) := Lib.hid (HO3.out.only hi4 hc4 ho4)
  have HC4 := Lib.hid hc4
  have z4 : w3.heap.size = w4.heap.size := ho4.size.symm
  have B4 : Hid (bk w4 w.heap.size 29 [.string ⟨#[]⟩, .int .i64 0, .int .i64 0, .int .i64 0, .int .i64 0, .slice none 0 0, .int .i64 0, .int .i64 0, .slice none 0 0, .slice none 0 0, .slice none 0 0]) := Lib.hid ((ho4.block w.heap.size (by omega)).trans B3.out)
  clear hc4 ho4 HO3 HC3 B3
  go_wp2_with fail
  refine (below_any b sv i4 h4 5 w4 HC4.out hi4 (HR.out _ HO4.out.grown) (by decide) (by decide)).mono ?_
  rintro e w5 ⟨sp, i5, h5, rfl, sp0, sp1, hi5, hc5, ho5⟩
  have HO5 : Hid (curOn b sv w w5) := Lib.hid (HO4.out.only hi5 hc5 ho5)
  have HC5 := Lib.hid hc5
  have z5 : w4.heap.size = w5.heap.size := ho5.size.symm
  have B5 : Hid (bk w5 w.heap.size 29 [.string ⟨#[]⟩, .int .i64 0, .int .i64 0, .int .i64 0, .int .i64 0, .slice none 0 0, .int .i64 0, .int .i64 0, .slice none 0 0, .slice none 0 0, .slice none 0 0]) := Lib.hid ((ho5.block w.heap.size (by omega)).trans B4.out)
  clear hc5 ho5 HO4 HC4 B4
  have hnew := acctNew_right (lim := lim) (most := most) (sum := sum) (n := 1 + n) (sp := 1 + sp) HID.out blim bmost bsum (by omega) (by omega) (by omega) (by omega)
  go_wp2_with fail
  refine (specAcctNew_any id lim most sum (1 + n) (1 + sp) w5 (by have := acctIdB_small HID.out; unfold maxLen; omega)).mono ?_
  rw [hnew]
  rintro e w6 ⟨vh, vc, vs, vl, rfl, hm6, hb6⟩
  obtain ⟨vh', vc', vs', vl', hcs, r1, r2, r3, r4⟩ := acct_rd hm6.rd
  simp only [aCells, List.cons.injEq, and_true, true_and] at hcs
  obtain ⟨rfl, rfl, rfl, rfl⟩ := hcs
  obtain ⟨AH, cH, rfl, -⟩ := Rep.slice_form r1
  obtain ⟨AL, cL, rfl, -⟩ := Rep.slice_form r4
  obtain ⟨AC, cC, rfl, -⟩ := r2.form
  obtain ⟨AS, cS, rfl, -⟩ := r3.form
  simp only [aId, aLim, aPos, aMost, aSum, aH, aR, aS, List.length_nil] at r2 r3 ⊢
  generalize (ringNew (1 + n) (1 + sp)).1 = rg at *
  have HO6 := Lib.hid (HO5.out.below hblt hb6 HO5.out.size)
  have B6 : Hid (bk w6 w.heap.size 29 [.string ⟨#[]⟩, .int .i64 0, .int .i64 0, .int .i64 0, .int .i64 0, .slice none 0 0, .int .i64 0, .int .i64 0, .slice none 0 0, .slice none 0 0, .slice none 0 0]) := Lib.hid (B5.out.below hb6 (by omega))
  have z6 : w5.heap.size ≤ w6.heap.size := hb6.size
  clear hm6 hb6 r1 r2 r3 r4 hnew HO5 HC5 B5
  go_upto_region 2 with fail
  obtain ⟨p, hp⟩ : ∃ p, p = w6.heap.size := ⟨_, rfl⟩
  obtain ⟨w7, hW⟩ : ∃ w7, w7 = w6.alloc (.cells #[.string id, .int .i64 lim, .int .i64 0, .int .i64 most, .int .i64 sum, .slice AH 0 cH, .int .i64 rg.1, .int .i64 rg.2.1, .slice AC rg.2.2.1.length cC, .slice AS rg.2.2.2.length cS, .slice AL 0 cL] 29) := ⟨_, rfl⟩
  have K7 : Hid (bk w7 p 29 [.string id, .int .i64 lim, .int .i64 0, .int .i64 most, .int .i64 sum, .slice AH 0 cH, .int .i64 rg.1, .int .i64 rg.2.1, .slice AC rg.2.2.1.length cC, .slice AS rg.2.2.2.length cS, .slice AL 0 cL]) := Lib.hid (by rw [hW, hp]; exact bk.new w6 _ _)
  have HO7 : Hid (curOn b sv w w7) := Lib.hid (by rw [hW]; exact HO6.out.alloc _)
  have B7 : Hid (bk w7 w.heap.size 29 [.string ⟨#[]⟩, .int .i64 0, .int .i64 0, .int .i64 0, .int .i64 0, .slice none 0 0, .int .i64 0, .int .i64 0, .slice none 0 0, .slice none 0 0, .slice none 0 0]) := Lib.hid (by rw [hW]; exact B6.out.alloc _)
  have z7 : p + 1 = w7.heap.size := by rw [hW, hp]; simp
  have hpw : w.heap.size < p := by omega
  rw [← hW, ← hp]
  have hz7 : w.heap.size + 1 ≤ w7.heap.size := by omega
  clear hW hp HO6 B6 z0 z1 z2 z3 z4 z5 z6
  obtain ⟨i7, h7, hi7, hc7, -⟩ := HO7.out
  have HC7 := Lib.hid hc7
  clear hc7
  go_wp2_with fail
  refine (ringDraw_any b sv i7 h7 w7 HC7.out hi7 (HR.out _ HO7.out.grown)).mono ?_
  rintro e w8 ⟨r, vc8, vs8, rfl, hrok, hm8, ho8⟩
  obtain ⟨A8, c8, rfl, -⟩ := (ring2 hm8.rd).1.form
  obtain ⟨D8, d8, rfl, -⟩ := (ring2 hm8.rd).2.form
  have HROK := Lib.hid hrok
  have HT8 := turned_of_grown ho8.grown
  have K8 := Lib.hid (K7.out.under HT8 (by omega))
  have B8 := Lib.hid (B7.out.under HT8 (by omega))
  have HO8 := Lib.hid (HO7.out.then ho8)
  have HM8 := Lib.hid hm8
  have z8 := ho8.size
  clear ho8 hm8 hrok HT8 HO7 HC7 K7 B7
  obtain ⟨⟨p0, p1, p2, p3, p4, p5, p6, p7, p8, p9, p10⟩, f0, f1, f2, f3, f4, f5, f6, f7, f8, f9, f10⟩ := K8.out.eleven
  go_wp2_with fail
  obtain ⟨w9, hW⟩ : ∃ w9, w9 = (((w8.setCell ⟨p, 6, none⟩ (.int .i64 r.1)).setCell ⟨p, 7, none⟩ (.int .i64 r.2.1)).setCell ⟨p, 8, none⟩ (.slice A8 r.2.2.1.length c8)).setCell ⟨p, 9, none⟩ (.slice D8 r.2.2.2.length d8) := ⟨_, rfl⟩
  have ht9 : Turned p (p + 1) w8 w9 := by rw [hW]; exact ((((Turned.refl p (p + 1) w8).set (b := p) 6 _ (by omega) (by omega)).set (b := p) 7 _ (by omega) (by omega)).set (b := p) 8 _ (by omega) (by omega)).set (b := p) 9 _ (by omega) (by omega)
  have K9 : Hid (bk w9 p 29 [.string id, .int .i64 lim, .int .i64 0, .int .i64 most, .int .i64 sum, .slice AH 0 cH, .int .i64 r.1, .int .i64 r.2.1, .slice A8 r.2.2.1.length c8, .slice D8 r.2.2.2.length d8, .slice AL 0 cL]) := Lib.hid (by rw [hW]; exact (((K8.out.set 6 _).set 7 _).set 8 _).set 9 _)
  rw [← hW]
  have B9 := Lib.hid (B8.out.under ht9 (by omega))
  have HO9 := Lib.hid (HO8.out.rest hblt ht9 (by omega))
  have HM9 := Lib.hid (HM8.out.turned ht9 (.inr (by omega)) (Nat.le_refl _))
  have z9 := ht9.size
  clear hW ht9 p0 p1 p2 p3 p4 p5 p6 p7 p8 p9 p10 f0 f1 f2 f3 f4 f5 f6 f7 f8 f9 f10 K8 B8 HO8 HM8
  obtain ⟨i9, h9, hi9, hc9, -⟩ := HO9.out
  have HC9 := Lib.hid hc9
  clear hc9
  refine (holdsDraw_any b sv i9 h9 w9 HC9.out hi9 (HR.out _ HO9.out.grown)).mono ?_
  rintro e w10 ⟨hs, A10, c10, rfl, hhok, hm10, ho10⟩
  have HHOK := Lib.hid hhok
  have HT10 := turned_of_grown ho10.grown
  have K10 := Lib.hid (K9.out.under HT10 (by omega))
  have B10 := Lib.hid (B9.out.under HT10 (by omega))
  have HO10 := Lib.hid (HO9.out.then ho10)
  have HM10 := Lib.hid (HM9.out.turned HT10 (.inr (by omega)) (by omega))
  have HH10 := Lib.hid hm10
  have z10 := ho10.size
  obtain ⟨hs4, hs6⟩ := holdsOk_small hhok
  have HST : Hid (∀ W, Ext w10 W → Calls Tryz.prog 115 #[.slice A10 hs.length c10] W fun e w' => e = .returned (.int .i64 (storedL hs)) ∧ Below W.heap.size W w') := Lib.hid fun W hW => specStored_any w10.heap.size _ hs W (by omega) (Rep.below (R := HoldsR) HH10.out.rd hW.below (Nat.le_refl _)) hW.below.size
  have hstm := storedL_mon hs
  have HSA : Hid (∀ W, Ext w10 W → Calls Tryz.prog 114 #[.int .i64 (storedL hs), .int .i64 0] W fun e w' => e = .returned (.int .i64 (storedL hs)) ∧ Below W.heap.size W w') := Lib.hid fun W hW => (specSat_any (storedL hs) 0 W).mono fun e w' h => ⟨by rw [h.1, satVal_zero hstm], h.2 ▸ Below.refl _ _⟩
  clear ho10 hm10 hhok HT10 HO9 HC9 K9 B9 HM9 hs6
  have hst0 := (isMon_true hstm).1
  clear hstm
  go_upto_region 4 with fail
  have P1 := Lib.hid (K10.out.cell 1)
  simp only [List.getElem?_cons_zero, List.getElem?_cons_succ] at P1
  have hpz : p < w10.heap.size := by omega
  obtain ⟨st, hst⟩ : ∃ st, st = storedL hs := ⟨_, rfl⟩
  rw [← hst] at HST HSA hst0
  have HSTV := Lib.hid hst
  clear hst
  go_cut [38] (fun cv wx => cv = .bool (decide (st ≤ lim)) ∧ Below w10.heap.size w10 wx)
  case first =>
    have HX : Hid (Ext w10 w10.drew) := Lib.hid (Ext.refl w10).drew
    refine quiet_region (C := Ext w10) (by kernel_rfl) (by kernel_rfl) HX.out ?_
    repeat (first
      | go_big_quiet_skip
      | (go_big_quiet_want; go_big_quiet_op; go_big_quiet_on)
      | (go_big_quiet_want; go_big_quiet_op; apply Exists.intro; refine ⟨fun _ _ => rfl, ?_⟩; go_big_quiet_on)
      | (go_big_quiet_want
         apply Exists.intro
         refine ⟨fun W hW => ?_, ?_⟩
         (have q0 := hW.cell P1.out (by omega)
          unfold Oper.quietAt
          go_simp
          rfl)
         simp only [Act.put, List.setIfInBounds_toArray, List.set_cons_zero, List.set_cons_succ]
         go_big_quiet_on)
      | (go_big_quiet_want
         apply Exists.intro
         refine ⟨fun W hW => ?_, ?_⟩
         (unfold Oper.quietAt
          go_simp
          go_at_call 115
          refine (HST.out W hW).mono ?_
          rintro e w4 ⟨rfl, hb4⟩
          exact ⟨rfl, hW.step hb4⟩)
         simp only [Act.put, List.setIfInBounds_toArray, List.set_cons_zero, List.set_cons_succ]
         go_big_quiet_on)
      | (go_big_quiet_want
         apply Exists.intro
         refine ⟨fun W hW => ?_, ?_⟩
         (unfold Oper.quietAt
          go_simp
          go_at_call 114
          refine (HSA.out W hW).mono ?_
          rintro e w4 ⟨rfl, hb4⟩
          exact ⟨rfl, hW.step hb4⟩)
         simp only [Act.put, List.setIfInBounds_toArray, List.set_cons_zero, List.set_cons_succ]
         go_big_quiet_on))
    refine wpQuiet_nil ?_
    intro W4 hW4
    go_wp2
    go_meet
    exact ⟨rfl, hW4⟩
  case rest =>
    obtain ⟨rfl, hbc⟩ := hcut
    have Kc := Lib.hid (K10.out.below hbc (by omega))
    have Bc := Lib.hid (B10.out.below hbc (by omega))
    have HOc := Lib.hid (HO10.out.below hblt hbc (by omega))
    have HMc := Lib.hid (HM10.out.below hbc (by omega))
    have HHc := Lib.hid (HH10.out.below hbc (by omega))
    have zc := hbc.size
    clear hbc HST HSA P1 K10 B10 HO10 HM10 HH10
    obtain ⟨w11, hw11⟩ : ∃ w11, w11 = wc := ⟨_, rfl⟩
    subst hw11
    have z11 : w.heap.size + 1 ≤ w11.heap.size := by omega
    go_upto_if 38 with fail
    obtain ⟨⟨p0, p1, p2, p3, p4, p5, p6, p7, p8, p9, p10⟩, f0, f1, f2, f3, f4, f5, f6, f7, f8, f9, f10⟩ := Kc.out.eleven
    go_cut [] (fun wx => ∃ (H : List HoldD) (AX : Option Addr) (cX : Nat), Hid (holdsOk H = true) ∧ Hid (storedL H ≤ lim) ∧ Hid (bk wx p 29 [.string id, .int .i64 lim, .int .i64 0, .int .i64 most, .int .i64 sum, .slice AX H.length cX, .int .i64 r.1, .int .i64 r.2.1, .slice A8 r.2.2.1.length c8, .slice D8 r.2.2.2.length d8, .slice AL 0 cL]) ∧ Hid (HoldsR.mine w9.heap.size w10.heap.size wx [.slice AX H.length cX] H) ∧ Turned p (p + 1) w11 wx)
    case first =>
      cases hd : decide (st ≤ lim)
      · clear hd
        go_wp2_with fail
        go_meet
        exact ⟨[], AH, cH, Lib.hid (by decide), Lib.hid blim.1, Kc, Lib.hid (holds_nil AH cH), Turned.refl _ _ _⟩
      · have hle := Lib.hid (of_decide_eq_true hd)
        clear hd
        go_wp2_with fail
        go_meet
        have ht := (Turned.refl p (p + 1) w11).set (b := p) 5 (.slice A10 hs.length c10) (by omega) (by omega)
        exact ⟨hs, A10, c10, HHOK, Lib.hid (by rw [← HSTV.out]; exact hle.out), Lib.hid (Kc.out.set 5 _), Lib.hid (HHc.out.turned ht (.inr (by omega)) (by omega)), ht⟩
    case rest =>
      obtain ⟨H, AX, cX, HHK, HHL, KX, HHX, htx⟩ := hcut
      obtain ⟨w12, hw12⟩ : ∃ w12, w12 = wc := ⟨_, rfl⟩
      subst hw12
      have BX := Lib.hid (Bc.out.under htx (by omega))
      have HOX := Lib.hid (HOc.out.rest hblt htx (by omega))
      have HMX := Lib.hid (HMc.out.turned htx (.inr (by omega)) (by omega))
      have z12 := htx.size
      clear htx Kc Bc HOc HMc HHc p0 p1 p2 p3 p4 p5 p6 p7 p8 p9 p10 f0 f1 f2 f3 f4 f5 f6 f7 f8 f9 f10 HHOK HSTV hs4 hst0
      obtain ⟨hH4, hH6⟩ := holdsOk_small HHK.out
      have HST : Hid (∀ W u, W.heap.size ≥ w12.heap.size → Turned b (b + 1) w12 W → u = .slice AX H.length cX → Calls Tryz.prog 115 #[u] W fun e w' => e = .returned (.int .i64 (storedL H)) ∧ Below W.heap.size W w') := Lib.hid fun W u hz hW hu => by
        subst hu
        exact specStored_any w10.heap.size _ H W (by omega) (HHX.out.turned hW (.inr (by omega)) (by omega)).rd (by omega)
      have hstm := storedL_mon H
      have hst0 := (isMon_true hstm).1
      clear hstm hH6
      obtain ⟨s2, hs2⟩ : ∃ s2, s2 = storedL H := ⟨_, rfl⟩
      rw [← hs2] at HST hst0 HHL
      have HS2 := Lib.hid hs2
      clear hs2
      have HSE : Hid (∀ W, Ext w12 W → Calls Tryz.prog 115 #[.slice AX H.length cX] W fun e w' => e = .returned (.int .i64 s2) ∧ Below W.heap.size W w') := Lib.hid fun W hW => HST.out W _ hW.below.size (Turned.of_below hW.below) rfl
      have HD12 : Hid (Turned b (b + 1) w12 w12.drew) := Lib.hid (turned_of_grown (grown_below (Below.drew (Below.refl w12.heap.size w12))))
      have hlim0 := HHL.out
      obtain ⟨i12, h12, hi12, hc12, hg12⟩ := HOX.out
      have HC12 := Lib.hid hc12
      clear hc12 hg12
      go_upto_region 6 with fail
      go_cut [50] (fun cv wx => ∃ x : Bool, cv = .bool x ∧ (x = true → s2 < lim) ∧ Hid (curOn b sv w wx) ∧ Turned b (b + 1) w12 wx)
      case first =>
        by_cases hlt : s2 < lim
        · obtain ⟨⟨p0, p1, p2, p3, p4, p5, p6, p7, p8, p9, p10⟩, -⟩ := KX.out.eleven
          clear p0 p2 p3 p4 p6 p7 p8 p9 p10
          go_region_law (first
            | (go_simp; go_at_call 115; refine (HST.out w12.drew _ (Nat.le_refl _) HD12.out rfl).mono ?_; rintro e w13 ⟨rfl, hb13⟩; have HB13 : Hid (Below w12.heap.size w12.drew w13) := Lib.hid hb13; have HT13 : Hid (Turned b (b + 1) w12 w13) := Lib.hid (HD12.out.trans (Turned.of_below hb13)); have HC13 : Hid (curAt w13 b sv i12 h12) := Lib.hid ((hb13.block b (show b < w12.heap.size by omega)).trans HC12.out); have HO13 : Hid (curOn b sv w w13) := Lib.hid (HOX.out.below hblt (Below.trans (Below.drew (Below.refl w12.heap.size w12)) hb13) (show w.heap.size ≤ w12.heap.size by omega)); have z13 : w12.heap.size ≤ w13.heap.size := hb13.size; have q1 := (KX.out.under HT13.out (show p < b ∨ b + 1 ≤ p by omega)).cell 1; simp only [List.getElem?_cons_zero, List.getElem?_cons_succ] at q1; clear hb13)
            | (go_simp; go_at_call 116; refine (once_any b sv i12 h12 2 w13 HC13.out hi12 (HR.out _ HO13.out.grown) (by decide) (by decide)).mono ?_; rintro e w14 ⟨x, i14, h14, rfl, hi14, hc14, ho14⟩; have HT14 : Hid (Turned b (b + 1) w12 w14) := Lib.hid (HT13.out.trans (turned_of_grown ho14.grown)); have HO14 : Hid (curOn b sv w w14) := Lib.hid (HO13.out.only hi14 hc14 ho14); clear hc14 ho14))
          all_goals
            go_wp2
            go_meet
            exact ⟨x, rfl, fun _ => hlt, HO14, HT14.out⟩
        · have P1 := Lib.hid (KX.out.cell 1)
          have P5 := Lib.hid (KX.out.cell 5)
          simp only [List.getElem?_cons_zero, List.getElem?_cons_succ] at P1 P5
          have hp12 : p < w12.heap.size := by omega
          have HX : Hid (Ext w12 w12.drew) := Lib.hid (Ext.refl w12).drew
          refine quiet_region (C := Ext w12) (by kernel_rfl) (by kernel_rfl) HX.out ?_
          repeat (first
            | go_big_quiet_skip
            | (go_big_quiet_want; go_big_quiet_op; go_big_quiet_on)
            | (go_big_quiet_want; go_big_quiet_op; apply Exists.intro; refine ⟨fun _ _ => rfl, ?_⟩; go_big_quiet_on)
            | (go_big_quiet_want
               apply Exists.intro
               refine ⟨fun W hW => ?_, ?_⟩
               (have q1 := hW.cell P1.out hp12
                have q5 := hW.cell P5.out hp12
                unfold Oper.quietAt
                go_simp
                rfl)
               simp only [Act.put, List.setIfInBounds_toArray, List.set_cons_zero, List.set_cons_succ]
               go_big_quiet_on)
            | (go_big_quiet_want
               apply Exists.intro
               refine ⟨fun W hW => ?_, ?_⟩
               (unfold Oper.quietAt
                go_simp
                go_at_call 115
                refine (HSE.out W hW).mono ?_
                rintro e w4 ⟨rfl, hb4⟩
                exact ⟨rfl, hW.step hb4⟩)
               simp only [Act.put, List.setIfInBounds_toArray, List.set_cons_zero, List.set_cons_succ]
               go_big_quiet_on))
          refine wpQuiet_nil ?_
          intro W4 hW4
          go_wp2
          go_meet
          exact ⟨false, by first | rfl | simp, fun h => absurd h (by simp), Lib.hid (HOX.out.below hblt hW4.below (by omega)), Turned.of_below hW4.below⟩
      case rest =>
        obtain ⟨x, rfl, hx, HO13, ht13⟩ := hcut
        obtain ⟨w13, hw13⟩ : ∃ w13, w13 = wc := ⟨_, rfl⟩
        subst hw13
        have z13 := ht13.size
        have K13 := Lib.hid (KX.out.under ht13 (by omega))
        have HD13 : Hid (Turned b (b + 1) w12 w13.drew) := Lib.hid (ht13.trans (turned_of_grown (grown_below (Below.drew (Below.refl w13.heap.size w13)))))
        have HT13 := Lib.hid ht13
        have HX := Lib.hid hx
        clear ht13 hx HSE HD12 HC12 HOX KX
        obtain ⟨i13, h13, hi13, hc13, hg13⟩ := HO13.out
        have HC13 := Lib.hid hc13
        clear hc13 hg13
        go_upto_if 50 with fail
        go_cut [] (fun wx => ∃ y : Int, 0 ≤ y ∧ y + s2 ≤ lim ∧ Hid (bk wx p 29 [.string id, .int .i64 lim, .int .i64 y, .int .i64 most, .int .i64 sum, .slice AX H.length cX, .int .i64 r.1, .int .i64 r.2.1, .slice A8 r.2.2.1.length c8, .slice D8 r.2.2.2.length d8, .slice AL 0 cL]) ∧ Hid (curOn b sv w wx) ∧ Hid (∃ Wm, Turned b (b + 1) w13 Wm ∧ Turned p (p + 1) Wm wx) ∧ w13.heap.size ≤ wx.heap.size)
        case first =>
          cases x
          · go_wp2_with fail
            go_meet
            exact ⟨0, Int.le_refl _, by omega, K13, HO13, Lib.hid ⟨w13, Turned.refl _ _ _, Turned.refl _ _ _⟩, Nat.le_refl _⟩
          · have hlt := HX.out rfl
            have hw1 : IntKind.i64.wrap (lim - s2) = lim - s2 := IntWalk.i64_in _ (by omega)
            have hw2 : IntKind.i64.wrap (lim - s2 + 1) = lim - s2 + 1 := IntWalk.i64_in _ (by omega)
            obtain ⟨⟨p0, p1, p2, p3, p4, p5, p6, p7, p8, p9, p10⟩, -⟩ := K13.out.eleven
            clear p0 p2 p3 p4 p6 p7 p8 p9 p10
            go_upto_region 7 with fail
            go_region_law (first
              | (go_simp; go_at_call 115; refine (HST.out w13.drew _ (show w12.heap.size ≤ w13.heap.size by omega) HD13.out rfl).mono ?_; rintro e w14 ⟨rfl, hb14⟩; have HT14 : Hid (Turned b (b + 1) w13 w14) := Lib.hid ((turned_of_grown (grown_below (Below.drew (Below.refl w13.heap.size w13)))).trans (Turned.of_below hb14)); have HC14 : Hid (curAt w14 b sv i13 h13) := Lib.hid ((hb14.block b (show b < w13.heap.size by omega)).trans HC13.out); have HO14 : Hid (curOn b sv w w14) := Lib.hid (HO13.out.below hblt (Below.trans (Below.drew (Below.refl w13.heap.size w13)) hb14) (show w.heap.size ≤ w13.heap.size by omega)); have z14 : w13.heap.size ≤ w14.heap.size := hb14.size; have q1 := (K13.out.under HT14.out (show p < b ∨ b + 1 ≤ p by omega)).cell 1; simp only [List.getElem?_cons_zero, List.getElem?_cons_succ] at q1; clear hb14)
              | (go_simp; go_at_call 53; refine (below_any b sv i13 h13 (lim - s2 + 1) w14 HC14.out hi13 (HR.out _ HO14.out.grown) (by omega) (by omega)).mono ?_; rintro e w15 ⟨y, i15, h15, rfl, hy0, hy1, hi15, hc15, ho15⟩; have HT15 : Hid (Turned b (b + 1) w13 w15) := Lib.hid (HT14.out.trans (turned_of_grown ho15.grown)); have HO15 : Hid (curOn b sv w w15) := Lib.hid (HO14.out.only hi15 hc15 ho15); have z15 : w14.heap.size ≤ w15.heap.size := Nat.le_of_eq ho15.size.symm; have k15 := K13.out.under HT15.out (show p < b ∨ b + 1 ≤ p by omega); have K15 := Lib.hid k15; have r2 := k15.cell 2; have f2 := k15.frozen 2; simp only [List.getElem?_cons_zero, List.getElem?_cons_succ] at r2; clear hc15 ho15 k15))
            all_goals
              go_wp2
              go_meet
              have ht := (Turned.refl p (p + 1) w15).set (b := p) 2 (.int .i64 y) (by omega) (by omega)
              have hsz := ht.size
              exact ⟨y, hy0, by omega, Lib.hid (K15.out.set 2 _), Lib.hid (HO15.out.rest hblt ht (by omega)), Lib.hid ⟨w15, HT15.out, ht⟩, by omega⟩
        case rest =>
          obtain ⟨y, hy0, hyl, K16, HO16, HW16, z16⟩ := hcut
          obtain ⟨w16, hw16⟩ : ∃ w16, w16 = wc := ⟨_, rfl⟩
          subst hw16
          have HH16 : Hid (HoldsR.mine w9.heap.size w10.heap.size w16 [.slice AX H.length cX] H) := Lib.hid (by
            obtain ⟨Wm, t1, t2⟩ := HW16.out
            have := t1.size
            exact ((HHX.out.turned HT13.out (.inr (by omega)) (by omega)).turned t1 (.inr (by omega)) (by omega)).turned t2 (.inr (by omega)) (by omega))
          have HM16 := Lib.hid (by
            obtain ⟨Wm, t1, t2⟩ := HW16.out
            have := t1.size
            exact ((HMX.out.turned HT13.out (.inr (by omega)) (by omega)).turned t1 (.inr (by omega)) (by omega)).turned t2 (.inr (by omega)) (by omega))
          have B16 := Lib.hid (by
            obtain ⟨Wm, t1, t2⟩ := HW16.out
            exact ((BX.out.under HT13.out (by omega)).under t1 (by omega)).under t2 (by omega))
          clear HW16 HHX HMX BX HT13 HD13 HC13 HO13 K13 HX HST HHL
          obtain ⟨i16, h16, hi16, hc16, -⟩ := HO16.out
          have HC16 := Lib.hid hc16
          clear hc16
          go_upto_region 8 with fail
          go_wp2_with fail
          refine (once_any b sv i16 h16 3 w16 HC16.out hi16 (HR.out _ HO16.out.grown) (by decide) (by decide)).mono ?_
          rintro e w17 ⟨x, i17, h17, rfl, hi17, hc17, ho17⟩
          have HO17 := Lib.hid (HO16.out.only hi17 hc17 ho17)
          have HC17 := Lib.hid hc17
          have ht17 := turned_of_grown ho17.grown
          have K17 := Lib.hid (K16.out.under ht17 (by omega))
          have B17 := Lib.hid (B16.out.under ht17 (by omega))
          have HM17 := Lib.hid (HM16.out.turned ht17 (.inr (by omega)) (by omega))
          have HH17 := Lib.hid (HH16.out.turned ht17 (.inr (by omega)) (by omega))
          have z17 : w16.heap.size = w17.heap.size := ho17.size.symm
          clear hc17 ho17 ht17 HO16 HC16 K16 B16 HM16 HH16
          cases x
          · clear HC17
            have HZ : Hid (w.heap.size + 1 ≤ w7.heap.size ∧ w7.heap.size ≤ w8.heap.size ∧ w8.heap.size ≤ w9.heap.size ∧ w9.heap.size ≤ w10.heap.size ∧ w10.heap.size ≤ w17.heap.size) := Lib.hid (by omega)
            have HNUM : Hid ((0 ≤ lim ∧ lim ≤ 9007199254740992) ∧ (0 ≤ most ∧ most ≤ 1000) ∧ (0 ≤ sum ∧ sum ≤ 9007199254740992) ∧ 0 ≤ y ∧ y + s2 ≤ lim) := Lib.hid ⟨blim, bmost, bsum, hy0, hyl⟩
            have HBL := Lib.hid hblt
            clear z7 hpw hz7 z8 z9 z10 hpz zc z11 z12 z13 z16 z17 blim bmost bsum hy0 hyl hlim0 hst0 hH4 n0 n1 sp0 sp1 hi0 hi1 hi2 hi3 hi4 hi5 hi7 hi9 hi12 hi13 hi16 hi17 hblt
            obtain ⟨⟨p0, p1, p2, p3, p4, p5, p6, p7, p8, p9, p10⟩, -⟩ := K17.out.eleven
            obtain ⟨⟨q0, q1, q2, q3, q4, q5, q6, q7, q8, q9, q10⟩, f0, f1, f2, f3, f4, f5, f6, f7, f8, f9, f10⟩ := B17.out.eleven
            go_upto_region 10 with fail
            go_cut [] (fun wx => Hid (bk wx w.heap.size 29 [.string id, .int .i64 lim, .int .i64 y, .int .i64 most, .int .i64 sum, .slice AX H.length cX, .int .i64 r.1, .int .i64 r.2.1, .slice A8 r.2.2.1.length c8, .slice D8 r.2.2.2.length d8, .slice AL 0 cL]) ∧ Hid (Turned w.heap.size (w.heap.size + 1) w17 wx))
            case first =>
              iterate 4 (first | go_values | go_skip | go_guarded | go_step | go_upon)
              clear p0 p1 p2 p3 p4 p5 p6 p7 p8 p9 p10
              go_step
              go_simp
              obtain ⟨WF, hWF⟩ : ∃ WF, WF = (((((((((((w17.setCell ⟨w.heap.size, 0, none⟩ (.string id)).setCell ⟨w.heap.size, 1, none⟩ (.int .i64 lim)).setCell ⟨w.heap.size, 2, none⟩ (.int .i64 y)).setCell ⟨w.heap.size, 3, none⟩ (.int .i64 most)).setCell ⟨w.heap.size, 4, none⟩ (.int .i64 sum)).setCell ⟨w.heap.size, 5, none⟩ (.slice AX H.length cX)).setCell ⟨w.heap.size, 6, none⟩ (.int .i64 r.1)).setCell ⟨w.heap.size, 7, none⟩ (.int .i64 r.2.1)).setCell ⟨w.heap.size, 8, none⟩ (.slice A8 r.2.2.1.length c8)).setCell ⟨w.heap.size, 9, none⟩ (.slice D8 r.2.2.2.length d8)).setCell ⟨w.heap.size, 10, none⟩ (.slice AL 0 cL)) := ⟨_, rfl⟩
              have HTF : Hid (Turned w.heap.size (w.heap.size + 1) w17 WF) := Lib.hid (by rw [hWF]; exact (((((((((((Turned.refl w.heap.size (w.heap.size + 1) w17).set (b := w.heap.size) 0 (.string id) (Nat.le_refl _) (Nat.lt_succ_self _)).set (b := w.heap.size) 1 (.int .i64 lim) (Nat.le_refl _) (Nat.lt_succ_self _)).set (b := w.heap.size) 2 (.int .i64 y) (Nat.le_refl _) (Nat.lt_succ_self _)).set (b := w.heap.size) 3 (.int .i64 most) (Nat.le_refl _) (Nat.lt_succ_self _)).set (b := w.heap.size) 4 (.int .i64 sum) (Nat.le_refl _) (Nat.lt_succ_self _)).set (b := w.heap.size) 5 (.slice AX H.length cX) (Nat.le_refl _) (Nat.lt_succ_self _)).set (b := w.heap.size) 6 (.int .i64 r.1) (Nat.le_refl _) (Nat.lt_succ_self _)).set (b := w.heap.size) 7 (.int .i64 r.2.1) (Nat.le_refl _) (Nat.lt_succ_self _)).set (b := w.heap.size) 8 (.slice A8 r.2.2.1.length c8) (Nat.le_refl _) (Nat.lt_succ_self _)).set (b := w.heap.size) 9 (.slice D8 r.2.2.2.length d8) (Nat.le_refl _) (Nat.lt_succ_self _)).set (b := w.heap.size) 10 (.slice AL 0 cL) (Nat.le_refl _) (Nat.lt_succ_self _))
              have HBF : Hid (bk WF w.heap.size 29 [.string id, .int .i64 lim, .int .i64 y, .int .i64 most, .int .i64 sum, .slice AX H.length cX, .int .i64 r.1, .int .i64 r.2.1, .slice A8 r.2.2.1.length c8, .slice D8 r.2.2.2.length d8, .slice AL 0 cL]) := Lib.hid (by rw [hWF]; exact (((((((((((B17.out.set 0 _).set 1 _).set 2 _).set 3 _).set 4 _).set 5 _).set 6 _).set 7 _).set 8 _).set 9 _).set 10 _))
              rw [← hWF]
              clear hWF q0 q1 q2 q3 q4 q5 q6 q7 q8 q9 q10 f0 f1 f2 f3 f4 f5 f6 f7 f8 f9 f10
              go_step
              go_step
              go_step
              first | (go_step; go_meet) | (go_step; go_step; go_meet) | (refine Met.intro ?_; (repeat apply Exists.intro); refine ⟨?rel, rfl⟩) | ((repeat apply Exists.intro); refine ⟨?rel, rfl⟩) | fail
              exact ⟨HBF, HTF⟩
            case rest =>
              obtain ⟨HBF, HTF⟩ := hcut
              clear p0 p1 p2 p3 p4 p5 p6 p7 p8 p9 p10 q0 q1 q2 q3 q4 q5 q6 q7 q8 q9 q10 f0 f1 f2 f3 f4 f5 f6 f7 f8 f9 f10
              obtain ⟨⟨r0, r1, r2, r3, r4, r5, r6, r7, r8, r9, r10⟩, -⟩ := HBF.out.eleven
              first | (go_step; go_step; refine bodyPost_ret (v := .agg #[.string id, .int .i64 lim, .int .i64 y, .int .i64 most, .int .i64 sum, .slice AX H.length cX, .int .i64 r.1, .int .i64 r.2.1, .slice A8 r.2.2.1.length c8, .slice D8 r.2.2.2.length d8, .slice AL 0 cL]) (by simp [results, Tryz.results51, go_sem, r0, r1, r2, r3, r4, r5, r6, r7, r8, r9, r10]) rfl ?_) | (go_step; refine bodyPost_ret (v := .agg #[.string id, .int .i64 lim, .int .i64 y, .int .i64 most, .int .i64 sum, .slice AX H.length cX, .int .i64 r.1, .int .i64 r.2.1, .slice A8 r.2.2.1.length c8, .slice D8 r.2.2.2.length d8, .slice AL 0 cL]) (by simp [results, Tryz.results51, go_sem, r0, r1, r2, r3, r4, r5, r6, r7, r8, r9, r10]) rfl ?_) | fail
              have ht := HTF.out
              have hsz := ht.size
              obtain ⟨blim, bmost, bsum, hy0, hyl⟩ := HNUM.out
              have hz := HZ.out
              have hblt := HBL.out
              exact ⟨(id, lim, y, most, sum, H, r, []), _, _, _, _, rfl, acct_right HID.out blim bmost bsum hy0 (by rw [← HS2.out]; exact hyl) HHK.out HROK.out (by decide), rfl, ⟨_, _, _, _, _, _, HH17.out.turned ht (.inr (by omega)) (by omega), HM17.out.turned ht (.inr (by omega)) (by omega), slots_nil (lo := w17.heap.size) (hi := w17.heap.size) AL cL, ⟨by omega, by omega, by omega, by omega, by omega, by omega⟩, .inr (by omega), .inl (by omega), .inl (by omega)⟩, HO17.out.rest hblt ht (Nat.le_refl _)⟩
          · go_wp2_with fail
            refine (slotsDraw_any b sv i17 h17 w17 HC17.out hi17 (HR.out _ HO17.out.grown)).mono ?_
            rintro e w18 ⟨sl, A18, c18, rfl, hsok, hm18, ho18⟩
            have HSOK := Lib.hid hsok
            have ht18 := turned_of_grown ho18.grown
            have HO18 := Lib.hid (HO17.out.then ho18)
            have K18 := Lib.hid (K17.out.under ht18 (by omega))
            have B18 := Lib.hid (B17.out.under ht18 (by omega))
            have HM18 := Lib.hid (HM17.out.turned ht18 (.inr (by omega)) (by omega))
            have HH18 := Lib.hid (HH17.out.turned ht18 (.inr (by omega)) (by omega))
            have HS18 := Lib.hid hm18
            have z18 := ho18.size
            clear hsok ho18 hm18 ht18 HO17 K17 B17 HM17 HH17 HC17
            obtain ⟨⟨p0, p1, p2, p3, p4, p5, p6, p7, p8, p9, p10⟩, f0, f1, f2, f3, f4, f5, f6, f7, f8, f9, f10⟩ := K18.out.eleven
            go_upto_region 10 with fail
            obtain ⟨w19, hW⟩ : ∃ w19, w19 = w18.setCell ⟨p, 10, none⟩ (.slice A18 sl.length c18) := ⟨_, rfl⟩
            have ht19 : Turned p (p + 1) w18 w19 := by rw [hW]; exact (Turned.refl p (p + 1) w18).set (b := p) 10 _ (by omega) (by omega)
            have K19 : Hid (bk w19 p 29 [.string id, .int .i64 lim, .int .i64 y, .int .i64 most, .int .i64 sum, .slice AX H.length cX, .int .i64 r.1, .int .i64 r.2.1, .slice A8 r.2.2.1.length c8, .slice D8 r.2.2.2.length d8, .slice A18 sl.length c18]) := Lib.hid (by rw [hW]; exact K18.out.set 10 _)
            rw [← hW]
            have B19 := Lib.hid (B18.out.under ht19 (by omega))
            have HO19 := Lib.hid (HO18.out.rest hblt ht19 (by omega))
            have HM19 := Lib.hid (HM18.out.turned ht19 (.inr (by omega)) (by omega))
            have HH19 := Lib.hid (HH18.out.turned ht19 (.inr (by omega)) (by omega))
            have HS19 := Lib.hid (HS18.out.turned ht19 (.inr (by omega)) (Nat.le_refl _))
            have z19 := ht19.size
            clear hW ht19 p0 p1 p2 p3 p4 p5 p6 p7 p8 p9 p10 f0 f1 f2 f3 f4 f5 f6 f7 f8 f9 f10 HO18 K18 B18 HM18 HH18 HS18
            have HZ : Hid (w.heap.size + 1 ≤ w7.heap.size ∧ w7.heap.size ≤ w8.heap.size ∧ w8.heap.size ≤ w9.heap.size ∧ w9.heap.size ≤ w10.heap.size ∧ w10.heap.size ≤ w17.heap.size ∧ w17.heap.size ≤ w18.heap.size ∧ w18.heap.size ≤ w19.heap.size) := Lib.hid (by omega)
            have HNUM : Hid ((0 ≤ lim ∧ lim ≤ 9007199254740992) ∧ (0 ≤ most ∧ most ≤ 1000) ∧ (0 ≤ sum ∧ sum ≤ 9007199254740992) ∧ 0 ≤ y ∧ y + s2 ≤ lim) := Lib.hid ⟨blim, bmost, bsum, hy0, hyl⟩
            have HBL := Lib.hid hblt
            clear z7 hpw hz7 z8 z9 z10 hpz zc z11 z12 z13 z16 z17 blim bmost bsum hy0 hyl hlim0 hst0 hH4 n0 n1 sp0 sp1 hi0 hi1 hi2 hi3 hi4 hi5 hi7 hi9 hi12 hi13 hi16 hi17 hblt z18 z19
            obtain ⟨⟨p0, p1, p2, p3, p4, p5, p6, p7, p8, p9, p10⟩, -⟩ := K19.out.eleven
            obtain ⟨⟨q0, q1, q2, q3, q4, q5, q6, q7, q8, q9, q10⟩, f0, f1, f2, f3, f4, f5, f6, f7, f8, f9, f10⟩ := B19.out.eleven
            go_upto_region 10 with fail
            go_cut [] (fun wx => Hid (bk wx w.heap.size 29 [.string id, .int .i64 lim, .int .i64 y, .int .i64 most, .int .i64 sum, .slice AX H.length cX, .int .i64 r.1, .int .i64 r.2.1, .slice A8 r.2.2.1.length c8, .slice D8 r.2.2.2.length d8, .slice A18 sl.length c18]) ∧ Hid (Turned w.heap.size (w.heap.size + 1) w19 wx))
            case first =>
              iterate 4 (first | go_values | go_skip | go_guarded | go_step | go_upon)
              clear p0 p1 p2 p3 p4 p5 p6 p7 p8 p9 p10
              go_step
              go_simp
              obtain ⟨WF, hWF⟩ : ∃ WF, WF = (((((((((((w19.setCell ⟨w.heap.size, 0, none⟩ (.string id)).setCell ⟨w.heap.size, 1, none⟩ (.int .i64 lim)).setCell ⟨w.heap.size, 2, none⟩ (.int .i64 y)).setCell ⟨w.heap.size, 3, none⟩ (.int .i64 most)).setCell ⟨w.heap.size, 4, none⟩ (.int .i64 sum)).setCell ⟨w.heap.size, 5, none⟩ (.slice AX H.length cX)).setCell ⟨w.heap.size, 6, none⟩ (.int .i64 r.1)).setCell ⟨w.heap.size, 7, none⟩ (.int .i64 r.2.1)).setCell ⟨w.heap.size, 8, none⟩ (.slice A8 r.2.2.1.length c8)).setCell ⟨w.heap.size, 9, none⟩ (.slice D8 r.2.2.2.length d8)).setCell ⟨w.heap.size, 10, none⟩ (.slice A18 sl.length c18)) := ⟨_, rfl⟩
              have HTF : Hid (Turned w.heap.size (w.heap.size + 1) w19 WF) := Lib.hid (by rw [hWF]; exact (((((((((((Turned.refl w.heap.size (w.heap.size + 1) w19).set (b := w.heap.size) 0 (.string id) (Nat.le_refl _) (Nat.lt_succ_self _)).set (b := w.heap.size) 1 (.int .i64 lim) (Nat.le_refl _) (Nat.lt_succ_self _)).set (b := w.heap.size) 2 (.int .i64 y) (Nat.le_refl _) (Nat.lt_succ_self _)).set (b := w.heap.size) 3 (.int .i64 most) (Nat.le_refl _) (Nat.lt_succ_self _)).set (b := w.heap.size) 4 (.int .i64 sum) (Nat.le_refl _) (Nat.lt_succ_self _)).set (b := w.heap.size) 5 (.slice AX H.length cX) (Nat.le_refl _) (Nat.lt_succ_self _)).set (b := w.heap.size) 6 (.int .i64 r.1) (Nat.le_refl _) (Nat.lt_succ_self _)).set (b := w.heap.size) 7 (.int .i64 r.2.1) (Nat.le_refl _) (Nat.lt_succ_self _)).set (b := w.heap.size) 8 (.slice A8 r.2.2.1.length c8) (Nat.le_refl _) (Nat.lt_succ_self _)).set (b := w.heap.size) 9 (.slice D8 r.2.2.2.length d8) (Nat.le_refl _) (Nat.lt_succ_self _)).set (b := w.heap.size) 10 (.slice A18 sl.length c18) (Nat.le_refl _) (Nat.lt_succ_self _))
              have HBF : Hid (bk WF w.heap.size 29 [.string id, .int .i64 lim, .int .i64 y, .int .i64 most, .int .i64 sum, .slice AX H.length cX, .int .i64 r.1, .int .i64 r.2.1, .slice A8 r.2.2.1.length c8, .slice D8 r.2.2.2.length d8, .slice A18 sl.length c18]) := Lib.hid (by rw [hWF]; exact (((((((((((B19.out.set 0 _).set 1 _).set 2 _).set 3 _).set 4 _).set 5 _).set 6 _).set 7 _).set 8 _).set 9 _).set 10 _))
              rw [← hWF]
              clear hWF q0 q1 q2 q3 q4 q5 q6 q7 q8 q9 q10 f0 f1 f2 f3 f4 f5 f6 f7 f8 f9 f10
              go_step
              go_step
              go_step
              first | (go_step; go_meet) | (go_step; go_step; go_meet) | (refine Met.intro ?_; (repeat apply Exists.intro); refine ⟨?rel, rfl⟩) | ((repeat apply Exists.intro); refine ⟨?rel, rfl⟩) | fail
              exact ⟨HBF, HTF⟩
            case rest =>
              obtain ⟨HBF, HTF⟩ := hcut
              clear p0 p1 p2 p3 p4 p5 p6 p7 p8 p9 p10 q0 q1 q2 q3 q4 q5 q6 q7 q8 q9 q10 f0 f1 f2 f3 f4 f5 f6 f7 f8 f9 f10
              obtain ⟨⟨r0, r1, r2, r3, r4, r5, r6, r7, r8, r9, r10⟩, -⟩ := HBF.out.eleven
              first | (go_step; go_step; refine bodyPost_ret (v := .agg #[.string id, .int .i64 lim, .int .i64 y, .int .i64 most, .int .i64 sum, .slice AX H.length cX, .int .i64 r.1, .int .i64 r.2.1, .slice A8 r.2.2.1.length c8, .slice D8 r.2.2.2.length d8, .slice A18 sl.length c18]) (by simp [results, Tryz.results51, go_sem, r0, r1, r2, r3, r4, r5, r6, r7, r8, r9, r10]) rfl ?_) | (go_step; refine bodyPost_ret (v := .agg #[.string id, .int .i64 lim, .int .i64 y, .int .i64 most, .int .i64 sum, .slice AX H.length cX, .int .i64 r.1, .int .i64 r.2.1, .slice A8 r.2.2.1.length c8, .slice D8 r.2.2.2.length d8, .slice A18 sl.length c18]) (by simp [results, Tryz.results51, go_sem, r0, r1, r2, r3, r4, r5, r6, r7, r8, r9, r10]) rfl ?_) | fail
              have ht := HTF.out
              have hsz := ht.size
              obtain ⟨blim, bmost, bsum, hy0, hyl⟩ := HNUM.out
              have hz := HZ.out
              have hblt := HBL.out
              exact ⟨(id, lim, y, most, sum, H, r, sl), _, _, _, _, rfl, acct_right HID.out blim bmost bsum hy0 (by rw [← HS2.out]; exact hyl) HHK.out HROK.out HSOK.out, rfl, ⟨_, _, _, _, _, _, HH19.out.turned ht (.inr (by omega)) (by omega), HM19.out.turned ht (.inr (by omega)) (by omega), HS19.out.turned ht (.inr (by omega)) (by omega), ⟨by omega, by omega, by omega, by omega, by omega, by omega⟩, .inr (by omega), .inl (by omega), .inl (by omega)⟩, HO19.out.rest hblt ht (Nat.le_refl _)⟩
end Go.Proofs.YtnmijppppcgobaaGreatDoor
set_option linter.unusedVariables false
namespace Go.Proofs.YtnmijppppcgobaaGreatDoor
open Go.ChangeShapes Go.WideShapes Go.ChangeAt Go.RowKit

set_option maxRecDepth 100000 in
theorem readable.up {w : World} {b c : Nat} {sv : Value} (hr : readable w b sv) (h : b ≤ c) : readable w c sv := by
  unfold readable at hr ⊢
  split at hr
  · exact hr
  · obtain ⟨h1, h3⟩ := hr
    refine ⟨h1, fun i hi => ?_⟩
    obtain ⟨s, off, e, h2, z, h4⟩ := h3 i hi
    exact ⟨s, off, e, by omega, z, h4⟩
  · exact hr
end Go.Proofs.YtnmijppppcgobaaGreatDoor
set_option linter.unusedVariables false
namespace Go.Proofs.YtnmijppppcgobaaGreatDoor
open Go.ChangeShapes Go.WideShapes Go.ChangeAt Go.RowKit

/-- an id and three numbers as they are made -/
def holdMade (w : World) (e : Ending) (w' : World) : Prop := ∃ (x : ByteArray) (n t m : Int), e = .returned (.tuple #[.string x, .int .i64 n, .int .i64 t, .int .i64 m]) ∧ (idOk x = true ∧ x.size ≤ 2 ∧ (1 ≤ n ∧ n ≤ 40) ∧ (1 ≤ t ∧ t ≤ 20) ∧ 0 ≤ m ∧ m ≤ 19) ∧ Below w.heap.size w w'
set_option maxRecDepth 100000 in
set_option maxHeartbeats 3200000 in
theorem makeHold_any (sv : Value) (w : World) (hr : readable w w.heap.size sv) (hlen : lenOf sv ≤ 1048576) :
    Calls Tryz.prog 26 #[sv] w (holdMade w) := by
  go_enter Tryz.func26, Tryz.ntmps26
  go_wp2_with fail
  refine (new_any sv w hr hlen).mono ?_
  rintro e w1 ⟨h, rfl, rfl⟩
  obtain ⟨w1, hW1⟩ : ∃ w1, w1 = w.alloc (.cells #[sv, .int .i64 0, .int .i64 h] 76) := ⟨_, rfl⟩
  have HC1 : Hid (curAt w1 w.heap.size sv 0 h) := Lib.hid (by rw [hW1]; exact made_cur sv w h)
  have HR1 : Hid (readable w1 w.heap.size sv) := Lib.hid (by rw [hW1]; exact hr.alloc _)
  have HB1 : Hid (Below w.heap.size w w1) := Lib.hid (by rw [hW1]; exact (Below.refl _ _).alloc (Nat.le_refl _) _)
  have z1 : w.heap.size + 1 = w1.heap.size := by rw [hW1]; simp
  rw [← hW1]
  have hb1 : w.heap.size < w1.heap.size := by omega
  have HR : Hid (∀ w' : World, w1.grownBy w' (some w.heap.size) → readable w' w.heap.size sv) := Lib.hid fun w' hg => HR1.out.grownAt hg (by omega)
  have c2 : w1.cell? ⟨w.heap.size, 2, none⟩ = some (.int .i64 h) := cur_cell HC1.out 2 _ rfl
  have f2 : w1.frozen? ⟨w.heap.size, 2, none⟩ = false := cur_free HC1.out 2
  clear hW1 hr HR1
  obtain ⟨b, hbe⟩ : ∃ b, b = w.heap.size := ⟨_, rfl⟩
  rw [← hbe] at HC1 HR c2 f2 hb1 ⊢
  have HBE := Lib.hid hbe
  clear hbe
  go_upto_region 3 with fail
  obtain ⟨w2, hW2⟩ : ∃ w2, w2 = w1.setCell ⟨b, 2, none⟩ (.int .i64 (wrap64 (h + 3))) := ⟨_, rfl⟩
  have HC2 : Hid (curAt w2 b sv 0 (wrap64 (h + 3))) := Lib.hid (by rw [hW2]; exact cur_h HC1.out _)
  have HO2 : Hid (curOn b sv w1 w2) := Lib.hid ⟨0, _, Nat.zero_le _, HC2.out, by rw [hW2]; exact ((onlyAt.refl b w1).set 2 _).grown⟩
  rw [← hW2]
  clear hW2 c2 f2 HC1
  generalize wrap64 (h + 3) = h' at HC2
  go_wp2_with fail
  refine (idDraw_any b sv 0 h' w2 HC2.out (Nat.zero_le _) (HR.out _ HO2.out.grown)).mono ?_
  rintro e w3 ⟨x, rfl, hxs, hxi, ho3⟩
  have HX := Lib.hid (And.intro hxi hxs)
  have HO3 := Lib.hid (HO2.out.then ho3)
  clear ho3 hxs hxi HO2 HC2
  obtain ⟨i3, h3, hi3, hc3, hg3⟩ := HO3.out
  go_wp2_with fail
  refine (below_any b sv i3 h3 40 w3 hc3 hi3 (HR.out _ hg3) (by decide) (by decide)).mono ?_
  rintro e w4 ⟨n, i4, h4, rfl, n0, n1, hi4, hc4, ho4⟩
  have HO4 : Hid (curOn b sv w1 w4) := Lib.hid (HO3.out.only hi4 hc4 ho4)
  have en : IntKind.i64.wrap (1 + n) = 1 + n := IntWalk.i64_in _ (by omega)
  clear hc3 hg3 hi3 ho4 HO3
  go_wp2_with fail
  refine (below_any b sv i4 h4 20 w4 hc4 hi4 (HR.out _ HO4.out.grown) (by decide) (by decide)).mono ?_
  rintro e w5 ⟨t, i5, h5, rfl, t0, t1, hi5, hc5, ho5⟩
  have HO5 : Hid (curOn b sv w1 w5) := Lib.hid (HO4.out.only hi5 hc5 ho5)
  have et : IntKind.i64.wrap (1 + t) = 1 + t := IntWalk.i64_in _ (by omega)
  clear hc4 hi4 ho5 HO4
  go_wp2_with fail
  refine (below_any b sv i5 h5 20 w5 hc5 hi5 (HR.out _ HO5.out.grown) (by decide) (by decide)).mono ?_
  rintro e w6 ⟨m, i6, h6, rfl, m0, m1, hi6, hc6, ho6⟩
  have HO6 : Hid (curOn b sv w1 w6) := Lib.hid (HO5.out.only hi6 hc6 ho6)
  clear hc5 hi5 ho6 HO5 en et
  go_wp2
  refine bodyPost_ret (v := .tuple #[.string x, .int .i64 (1 + n), .int .i64 (1 + t), .int .i64 m]) (by simp [results, Tryz.results26, go_sem]) rfl ?_
  have hbe := HBE.out
  exact ⟨x, 1 + n, 1 + t, m, rfl, ⟨HX.out.1, HX.out.2, by omega, by omega, m0, by omega⟩, HB1.out.trans ((turned_of_grown HO6.out.grown).below (by omega) (by omega))⟩
end Go.Proofs.YtnmijppppcgobaaGreatDoor
set_option linter.unusedVariables false
namespace Go.Proofs.YtnmijppppcgobaaGreatDoor
open Go.ChangeShapes Go.WideShapes Go.ChangeAt Go.RowKit

/-- two accounts as they are made -/
def pairMade (w : World) (e : Ending) (w' : World) : Prop := ∃ (a b : AcctD) (vh vc vs vl vh2 vc2 vs2 vl2 : Value), e = .returned (.tuple #[.agg #[.string (aId a), .int .i64 (aLim a), .int .i64 (aPos a), .int .i64 (aMost a), .int .i64 (aSum a), vh, .int .i64 (aR a).1, .int .i64 (aR a).2.1, vc, vs, vl], .agg #[.string (aId b), .int .i64 (aLim b), .int .i64 (aPos b), .int .i64 (aMost b), .int .i64 (aSum b), vh2, .int .i64 (aR b).1, .int .i64 (aR b).2.1, vc2, vs2, vl2]]) ∧ (acctOk a = true ∧ acctOk b = true ∧ aId a ≠ aId b) ∧ AcctR.rd w'.heap.size w' (aCells a vh vc vs vl) a ∧ AcctR.rd w'.heap.size w' (aCells b vh2 vc2 vs2 vl2) b ∧ Below w.heap.size w w'
set_option maxRecDepth 100000 in
set_option maxHeartbeats 8000000 in
theorem makePair_any (sv : Value) (w : World) (hr : readable w w.heap.size sv) (hlen : lenOf sv ≤ 1048576) :
    Calls Tryz.prog 34 #[sv] w (pairMade w) := by
  go_enter Tryz.func34, Tryz.ntmps34
  go_upto_region 1 with fail
  obtain ⟨w0, hW⟩ : ∃ w0, w0 = (w.alloc (.cells #[.string ⟨#[]⟩, .int .i64 0, .int .i64 0, .int .i64 0, .int .i64 0, .slice none 0 0, .int .i64 0, .int .i64 0, .slice none 0 0, .slice none 0 0, .slice none 0 0] 29)).alloc (.cells #[.string ⟨#[]⟩, .int .i64 0, .int .i64 0, .int .i64 0, .int .i64 0, .slice none 0 0, .int .i64 0, .int .i64 0, .slice none 0 0, .slice none 0 0, .slice none 0 0] 29) := ⟨_, rfl⟩
  have B0 : Hid (bk w0 w.heap.size 29 [.string ⟨#[]⟩, .int .i64 0, .int .i64 0, .int .i64 0, .int .i64 0, .slice none 0 0, .int .i64 0, .int .i64 0, .slice none 0 0, .slice none 0 0, .slice none 0 0]) := Lib.hid (by rw [hW]; exact (bk.new w _ _).alloc _)
  have D0 : Hid (bk w0 (w.heap.size + 1) 29 [.string ⟨#[]⟩, .int .i64 0, .int .i64 0, .int .i64 0, .int .i64 0, .slice none 0 0, .int .i64 0, .int .i64 0, .slice none 0 0, .slice none 0 0, .slice none 0 0]) := Lib.hid (by rw [hW]; simpa using bk.new (w.alloc _) 29 [.string ⟨#[]⟩, .int .i64 0, .int .i64 0, .int .i64 0, .int .i64 0, .slice none 0 0, .int .i64 0, .int .i64 0, .slice none 0 0, .slice none 0 0, .slice none 0 0])
  have HB0 : Hid (Below w.heap.size w w0) := Lib.hid (by rw [hW]; exact ((Below.refl _ _).alloc (Nat.le_refl _) _).alloc (by simp) _)
  have HR0 : Hid (readable w0 w0.heap.size sv) := Lib.hid (by rw [hW]; exact ((hr.alloc _).alloc _).up (by simp <;> omega))
  have z0 : w.heap.size + 2 = w0.heap.size := by rw [hW]; simp
  rw [← hW]
  clear hW hr
  go_wp2_with fail
  refine (new_any sv w0 HR0.out hlen).mono ?_
  rintro e w1 ⟨h, rfl, rfl⟩
  obtain ⟨w1, hW1⟩ : ∃ w1, w1 = w0.alloc (.cells #[sv, .int .i64 0, .int .i64 h] 76) := ⟨_, rfl⟩
  have HC1 : Hid (curAt w1 w0.heap.size sv 0 h) := Lib.hid (by rw [hW1]; exact made_cur sv w0 h)
  have HR1 : Hid (readable w1 w0.heap.size sv) := Lib.hid (by rw [hW1]; exact HR0.out.alloc _)
  have HB1 : Hid (Below w.heap.size w w1) := Lib.hid (by rw [hW1]; exact HB0.out.alloc (by omega) _)
  have B1 : Hid (bk w1 w.heap.size 29 [.string ⟨#[]⟩, .int .i64 0, .int .i64 0, .int .i64 0, .int .i64 0, .slice none 0 0, .int .i64 0, .int .i64 0, .slice none 0 0, .slice none 0 0, .slice none 0 0]) := Lib.hid (by rw [hW1]; exact B0.out.alloc _)
  have D1 : Hid (bk w1 (w.heap.size + 1) 29 [.string ⟨#[]⟩, .int .i64 0, .int .i64 0, .int .i64 0, .int .i64 0, .slice none 0 0, .int .i64 0, .int .i64 0, .slice none 0 0, .slice none 0 0, .slice none 0 0]) := Lib.hid (by rw [hW1]; exact D0.out.alloc _)
  have z1 : w0.heap.size + 1 = w1.heap.size := by rw [hW1]; simp
  rw [← hW1]
  clear hW1 B0 D0 HB0 HR0
  obtain ⟨b, hb⟩ : ∃ b, b = w0.heap.size := ⟨_, rfl⟩
  rw [← hb] at HC1 HR1
  have hbw : w.heap.size + 2 ≤ b := by omega
  have hb1 : b < w1.heap.size := by omega
  have HR : Hid (∀ w' : World, w1.grownBy w' (some b) → readable w' b sv) := Lib.hid fun w' hg => HR1.out.grownAt hg (by omega)
  go_wp2_with fail
  rw [← hb]
  have zb : b + 1 ≤ w1.heap.size := by omega
  clear hb z0 z1
  refine (acctDraw_any b sv ⟨#[49, 56]⟩ 0 h w1 (by decide) HC1.out (Nat.zero_le _) HR1.out).mono ?_
  rintro e w3 ⟨⟨id, lim, pos, most, sum, hs, ⟨sp, hd, cs, ss⟩, sl⟩, vh, vc, vs, vl, rfl, hok, hid, hm, ho3⟩
  simp only [aId, aLim, aPos, aMost, aSum] at hid ⊢
  have HOK := Lib.hid hok
  have HID := Lib.hid hid
  have HM := Lib.hid hm
  have HO3 := Lib.hid ho3
  have B3 := Lib.hid (B1.out.under (turned_of_grown ho3.grown) (by omega))
  have D3 := Lib.hid (D1.out.under (turned_of_grown ho3.grown) (by omega))
  have z3 := ho3.size
  obtain ⟨vh', vc', vs', vl', hcs, r1, r2, r3, r4⟩ := acct_rd hm.mine.rd
  simp only [aCells, List.cons.injEq, and_true, true_and] at hcs
  obtain ⟨rfl, rfl, rfl, rfl⟩ := hcs
  obtain ⟨AH, cH, rfl, -⟩ := Rep.slice_form r1
  obtain ⟨AL, cL, rfl, -⟩ := Rep.slice_form r4
  obtain ⟨AC, cC, rfl, -⟩ := r2.form
  obtain ⟨AS, cS, rfl, -⟩ := r3.form
  simp only [aH, aS] at HM ⊢
  clear r1 r2 r3 r4 hok hid hm ho3 B1 D1 HC1 HR1
  go_upto_region 3 with fail
  obtain ⟨w4, hW⟩ : ∃ w4, w4 = w3.alloc (.cells #[.string id, .int .i64 lim, .int .i64 pos, .int .i64 most, .int .i64 sum, .slice AH hs.length cH, .int .i64 sp, .int .i64 hd, .slice AC cs.length cC, .slice AS ss.length cS, .slice AL sl.length cL] 29) := ⟨_, rfl⟩
  have K4 : Hid (bk w4 w3.heap.size 29 [.string id, .int .i64 lim, .int .i64 pos, .int .i64 most, .int .i64 sum, .slice AH hs.length cH, .int .i64 sp, .int .i64 hd, .slice AC cs.length cC, .slice AS ss.length cS, .slice AL sl.length cL]) := Lib.hid (by rw [hW]; exact bk.new w3 _ _)
  have B4 : Hid (bk w4 w.heap.size 29 [.string ⟨#[]⟩, .int .i64 0, .int .i64 0, .int .i64 0, .int .i64 0, .slice none 0 0, .int .i64 0, .int .i64 0, .slice none 0 0, .slice none 0 0, .slice none 0 0]) := Lib.hid (by rw [hW]; exact B3.out.alloc _)
  have D4 : Hid (bk w4 (w.heap.size + 1) 29 [.string ⟨#[]⟩, .int .i64 0, .int .i64 0, .int .i64 0, .int .i64 0, .slice none 0 0, .int .i64 0, .int .i64 0, .slice none 0 0, .slice none 0 0, .slice none 0 0]) := Lib.hid (by rw [hW]; exact D3.out.alloc _)
  have HM4 : Hid (AcctI w1.heap.size w3.heap.size w4 (.slice AH hs.length cH) (.slice AC cs.length cC) (.slice AS ss.length cS) (.slice AL sl.length cL) (id, lim, pos, most, sum, hs, (sp, hd, cs, ss), sl)) := Lib.hid (by rw [hW]; exact HM.out.below ((Below.refl w3.heap.size w3).alloc (Nat.le_refl _) _) (Nat.le_refl _))
  have HO4 : Hid (curOn b sv w1 w4) := Lib.hid (by rw [hW]; exact HO3.out.alloc _)
  have z4 : w3.heap.size + 1 = w4.heap.size := by rw [hW]; simp
  rw [← hW]
  clear hW B3 D3 HM HO3
  have HB4 : Hid (Below w.heap.size w w4) := Lib.hid (HB1.out.trans (((turned_of_grown HO4.out.grown).below (B := w.heap.size) (by omega) (by omega))))
  obtain ⟨i4, h4, hi4, hc4, hg4⟩ := HO4.out
  have HC4 : Hid (∀ w', w4.grownBy w' (some b) → w'.heap[b]? = w4.heap[b]? → Calls Tryz.prog 51 #[.pointer (some ⟨b, 0, none⟩), .string ⟨#[50, 54]⟩] w' (acctDrawn b sv ⟨#[50, 54]⟩ w')) := Lib.hid fun w' hg hbk => acctDraw_any b sv ⟨#[50, 54]⟩ i4 h4 w' (by decide) (by unfold curAt at hc4 ⊢; rw [hbk]; exact hc4) hi4 (HR.out w' (grown_trans hg4 hg))
  have HDR := Lib.hid (HC4.out w4.drew (grown_below (Below.drew (Below.refl w4.heap.size w4))) rfl)
  have HDD : Hid (w4.grownBy w4.drew (some b)) := Lib.hid (grown_below (Below.drew (Below.refl w4.heap.size w4)))
  clear hc4 hg4 HC4 HO4
  obtain ⟨⟨p0, p1, p2, p3, p4, p5, p6, p7, p8, p9, p10⟩, -⟩ := K4.out.eleven
  go_cut [] (fun wx => ∃ (w5 : World) (q : AcctD) (vh2 vc2 vs2 vl2 : Value), Hid (acctOk q = true ∧ aId q = ⟨#[50, 54]⟩ ∧ AcctI w4.heap.size w5.heap.size w5 vh2 vc2 vs2 vl2 q ∧ w4.grownBy w5 (some b)) ∧ Hid (bk wx w.heap.size 29 [.string id, .int .i64 lim, .int .i64 pos, .int .i64 most, .int .i64 sum, .slice AH hs.length cH, .int .i64 sp, .int .i64 hd, .slice AC cs.length cC, .slice AS ss.length cS, .slice AL sl.length cL]) ∧ Hid (bk wx (w.heap.size + 1) 29 [.string (aId q), .int .i64 (aLim q), .int .i64 (aPos q), .int .i64 (aMost q), .int .i64 (aSum q), vh2, .int .i64 (aR q).1, .int .i64 (aR q).2.1, vc2, vs2, vl2]) ∧ Hid (Turned w.heap.size (w.heap.size + 2) w5 wx))
  case first =>
    go_region_law (go_simp; go_at_call 51; (with_reducible refine HDR.out.mono ?_); rintro e w5 ⟨⟨id2, lim2, pos2, most2, sum2, hs2, ⟨sp2, hd2, cs2, ss2⟩, sl2⟩, vh9, vc9, vs9, vl9, rfl, hok, hid, hm, ho5⟩; simp only [aId, aLim, aPos, aMost, aSum] at hid ⊢; obtain ⟨vh', vc', vs', vl', hcs, r1, r2, r3, r4⟩ := acct_rd hm.mine.rd; simp only [aCells, List.cons.injEq, and_true, true_and] at hcs; obtain ⟨rfl, rfl, rfl, rfl⟩ := hcs; obtain ⟨AH2, cH2, rfl, -⟩ := Rep.slice_form r1; obtain ⟨AL2, cL2, rfl, -⟩ := Rep.slice_form r4; obtain ⟨AC2, cC2, rfl, -⟩ := r2.form; obtain ⟨AS2, cS2, rfl, -⟩ := r3.form; simp only [aH, aS] at hm ⊢; have HQ := Lib.hid (And.intro hok (And.intro hid (And.intro hm (grown_trans HDD.out ho5.grown)))); have k5 := K4.out.under (turned_of_grown (grown_trans HDD.out ho5.grown)) (by omega); have b5 := B4.out.under (turned_of_grown (grown_trans HDD.out ho5.grown)) (by omega); have d5 := D4.out.under (turned_of_grown (grown_trans HDD.out ho5.grown)) (by omega); obtain ⟨⟨u0, u1, u2, u3, u4, u5, u6, u7, u8, u9, u10⟩, -⟩ := k5.eleven; obtain ⟨⟨x0, x1, x2, x3, x4, x5, x6, x7, x8, x9, x10⟩, g0, g1, g2, g3, g4, g5, g6, g7, g8, g9, g10⟩ := b5.eleven; obtain ⟨⟨y0, y1, y2, y3, y4, y5, y6, y7, y8, y9, y10⟩, f0, f1, f2, f3, f4, f5, f6, f7, f8, f9, f10⟩ := d5.eleven; have B5 := Lib.hid b5; have D5 := Lib.hid d5; clear r1 r2 r3 r4 hok hid hm ho5 k5 b5 d5)
    all_goals go_wp2
    all_goals go_meet
    all_goals exact ⟨w5, (id2, lim2, pos2, most2, sum2, hs2, (sp2, hd2, cs2, ss2), sl2), _, _, _, _, HQ, Lib.hid (((((((((((((((((((((((B5.out.set 0 (.string id)).set 1 (.int .i64 lim)).set 2 (.int .i64 pos)).set 3 (.int .i64 most)).set 4 (.int .i64 sum)).set 5 (.slice AH hs.length cH)).set 6 (.int .i64 sp)).set 7 (.int .i64 hd)).set 8 (.slice AC cs.length cC)).set 9 (.slice AS ss.length cS)).set 10 (.slice AL sl.length cL)).far (p := ⟨w.heap.size + 1, 0, none⟩) (show w.heap.size ≠ w.heap.size + 1 by omega) (.string id2)).far (p := ⟨w.heap.size + 1, 1, none⟩) (show w.heap.size ≠ w.heap.size + 1 by omega) (.int .i64 lim2)).far (p := ⟨w.heap.size + 1, 2, none⟩) (show w.heap.size ≠ w.heap.size + 1 by omega) (.int .i64 pos2)).far (p := ⟨w.heap.size + 1, 3, none⟩) (show w.heap.size ≠ w.heap.size + 1 by omega) (.int .i64 most2)).far (p := ⟨w.heap.size + 1, 4, none⟩) (show w.heap.size ≠ w.heap.size + 1 by omega) (.int .i64 sum2)).far (p := ⟨w.heap.size + 1, 5, none⟩) (show w.heap.size ≠ w.heap.size + 1 by omega) (.slice AH2 hs2.length cH2)).far (p := ⟨w.heap.size + 1, 6, none⟩) (show w.heap.size ≠ w.heap.size + 1 by omega) (.int .i64 sp2)).far (p := ⟨w.heap.size + 1, 7, none⟩) (show w.heap.size ≠ w.heap.size + 1 by omega) (.int .i64 hd2)).far (p := ⟨w.heap.size + 1, 8, none⟩) (show w.heap.size ≠ w.heap.size + 1 by omega) (.slice AC2 cs2.length cC2)).far (p := ⟨w.heap.size + 1, 9, none⟩) (show w.heap.size ≠ w.heap.size + 1 by omega) (.slice AS2 ss2.length cS2)).far (p := ⟨w.heap.size + 1, 10, none⟩) (show w.heap.size ≠ w.heap.size + 1 by omega) (.slice AL2 sl2.length cL2))), Lib.hid (((((((((((((((((((((((D5.out.far (p := ⟨w.heap.size, 0, none⟩) (show w.heap.size + 1 ≠ w.heap.size by omega) (.string id)).far (p := ⟨w.heap.size, 1, none⟩) (show w.heap.size + 1 ≠ w.heap.size by omega) (.int .i64 lim)).far (p := ⟨w.heap.size, 2, none⟩) (show w.heap.size + 1 ≠ w.heap.size by omega) (.int .i64 pos)).far (p := ⟨w.heap.size, 3, none⟩) (show w.heap.size + 1 ≠ w.heap.size by omega) (.int .i64 most)).far (p := ⟨w.heap.size, 4, none⟩) (show w.heap.size + 1 ≠ w.heap.size by omega) (.int .i64 sum)).far (p := ⟨w.heap.size, 5, none⟩) (show w.heap.size + 1 ≠ w.heap.size by omega) (.slice AH hs.length cH)).far (p := ⟨w.heap.size, 6, none⟩) (show w.heap.size + 1 ≠ w.heap.size by omega) (.int .i64 sp)).far (p := ⟨w.heap.size, 7, none⟩) (show w.heap.size + 1 ≠ w.heap.size by omega) (.int .i64 hd)).far (p := ⟨w.heap.size, 8, none⟩) (show w.heap.size + 1 ≠ w.heap.size by omega) (.slice AC cs.length cC)).far (p := ⟨w.heap.size, 9, none⟩) (show w.heap.size + 1 ≠ w.heap.size by omega) (.slice AS ss.length cS)).far (p := ⟨w.heap.size, 10, none⟩) (show w.heap.size + 1 ≠ w.heap.size by omega) (.slice AL sl.length cL)).set 0 (.string id2)).set 1 (.int .i64 lim2)).set 2 (.int .i64 pos2)).set 3 (.int .i64 most2)).set 4 (.int .i64 sum2)).set 5 (.slice AH2 hs2.length cH2)).set 6 (.int .i64 sp2)).set 7 (.int .i64 hd2)).set 8 (.slice AC2 cs2.length cC2)).set 9 (.slice AS2 ss2.length cS2)).set 10 (.slice AL2 sl2.length cL2))), Lib.hid ((((((((((((((((((((((((Turned.refl w.heap.size (w.heap.size + 2) w5).set (b := w.heap.size) 0 (.string id) (by omega) (by omega)).set (b := w.heap.size) 1 (.int .i64 lim) (by omega) (by omega)).set (b := w.heap.size) 2 (.int .i64 pos) (by omega) (by omega)).set (b := w.heap.size) 3 (.int .i64 most) (by omega) (by omega)).set (b := w.heap.size) 4 (.int .i64 sum) (by omega) (by omega)).set (b := w.heap.size) 5 (.slice AH hs.length cH) (by omega) (by omega)).set (b := w.heap.size) 6 (.int .i64 sp) (by omega) (by omega)).set (b := w.heap.size) 7 (.int .i64 hd) (by omega) (by omega)).set (b := w.heap.size) 8 (.slice AC cs.length cC) (by omega) (by omega)).set (b := w.heap.size) 9 (.slice AS ss.length cS) (by omega) (by omega)).set (b := w.heap.size) 10 (.slice AL sl.length cL) (by omega) (by omega)).set (b := w.heap.size + 1) 0 (.string id2) (by omega) (by omega)).set (b := w.heap.size + 1) 1 (.int .i64 lim2) (by omega) (by omega)).set (b := w.heap.size + 1) 2 (.int .i64 pos2) (by omega) (by omega)).set (b := w.heap.size + 1) 3 (.int .i64 most2) (by omega) (by omega)).set (b := w.heap.size + 1) 4 (.int .i64 sum2) (by omega) (by omega)).set (b := w.heap.size + 1) 5 (.slice AH2 hs2.length cH2) (by omega) (by omega)).set (b := w.heap.size + 1) 6 (.int .i64 sp2) (by omega) (by omega)).set (b := w.heap.size + 1) 7 (.int .i64 hd2) (by omega) (by omega)).set (b := w.heap.size + 1) 8 (.slice AC2 cs2.length cC2) (by omega) (by omega)).set (b := w.heap.size + 1) 9 (.slice AS2 ss2.length cS2) (by omega) (by omega)).set (b := w.heap.size + 1) 10 (.slice AL2 sl2.length cL2) (by omega) (by omega)))⟩
  case rest =>
    obtain ⟨w5, q, vh2, vc2, vs2, vl2, HQ, HBX, HDX, HTX⟩ := hcut
    clear p0 p1 p2 p3 p4 p5 p6 p7 p8 p9 p10 HDR HDD B4 D4 K4
    obtain ⟨q1, q2, q3, q4⟩ := HQ.out
    have zq := q4.size
    have zt := HTX.out.size
    have ht4 := turned_of_grown q4
    have HMA := Lib.hid ((HM4.out.turned ht4 (.inr (by omega)) (by omega)).turned HTX.out (.inr (by omega)) (by omega))
    have HMB := Lib.hid (q3.turned HTX.out (.inr (by omega)) (by omega))
    have HBB : Hid (Below w.heap.size w wc) := Lib.hid (HB4.out.trans ((ht4.below (B := w.heap.size) (by omega) (by omega)).trans (HTX.out.below (by omega) (by omega))))
    have HNE : Hid (id ≠ aId q) := Lib.hid (by rw [q2, HID.out]; decide)
    have HOB := Lib.hid q1
    obtain ⟨⟨x0, x1, x2, x3, x4, x5, x6, x7, x8, x9, x10⟩, -⟩ := HBX.out.eleven
    obtain ⟨⟨y0, y1, y2, y3, y4, y5, y6, y7, y8, y9, y10⟩, -⟩ := HDX.out.eleven
    clear q1 q2 q3 q4 ht4 HQ HTX HB4 HM4
    go_wp2
    refine bodyPost_ret (v := .tuple #[.agg #[.string id, .int .i64 lim, .int .i64 pos, .int .i64 most, .int .i64 sum, .slice AH hs.length cH, .int .i64 sp, .int .i64 hd, .slice AC cs.length cC, .slice AS ss.length cS, .slice AL sl.length cL], .agg #[.string (aId q), .int .i64 (aLim q), .int .i64 (aPos q), .int .i64 (aMost q), .int .i64 (aSum q), vh2, .int .i64 (aR q).1, .int .i64 (aR q).2.1, vc2, vs2, vl2]]) (by simp [results, Tryz.results34, go_sem, x0, x1, x2, x3, x4, x5, x6, x7, x8, x9, x10, y0, y1, y2, y3, y4, y5, y6, y7, y8, y9, y10]) rfl ?_
    exact ⟨(id, lim, pos, most, sum, hs, (sp, hd, cs, ss), sl), q, _, _, _, _, _, _, _, _, rfl, ⟨HOK.out, HOB.out, HNE.out⟩, (HMA.out.mono (Nat.zero_le _) (by omega)).mine.rd, (HMB.out.mono (Nat.zero_le _) (by omega)).mine.rd, HBB.out⟩
end Go.Proofs.YtnmijppppcgobaaGreatDoor
set_option linter.unusedVariables false
namespace Go.Proofs.YtnmijppppcgobaaGreatDoor
open Go.ChangeShapes Go.WideShapes Go.ChangeAt Go.RowKit

end Go.Proofs.YtnmijppppcgobaaGreatDoor
set_option linter.unusedVariables false
namespace Go.Proofs.YtnmijppppcgobaaGreatDoor
open Go.ChangeShapes Go.WideShapes Go.ChangeAt Go.RowKit

end Go.Proofs.YtnmijppppcgobaaGreatDoor
set_option linter.unusedVariables false
namespace Go.Proofs.YtnmijppppcgobaaGreatDoor
open Go.ChangeShapes Go.WideShapes Go.ChangeAt Go.RowKit

end Go.Proofs.YtnmijppppcgobaaGreatDoor
