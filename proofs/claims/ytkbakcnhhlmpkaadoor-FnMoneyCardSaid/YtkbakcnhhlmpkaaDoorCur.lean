/- The reference's cursor over the bytes of a draw: what its functions return lies in its range, and they turn its own three cells alone. -/
import Derived.Test.YtkbakcnhhlmpkaaDoorBase
import Derived.BigQuiet
import Derived.Deep.QuietTactic
import Derived.OneCell
set_option linter.unusedVariables false
namespace Go.Proofs.YtkbakcnhhlmpkaaDoor
open Go.ChangeShapes Go.WideShapes Go.ChangeAt Go.RowKit

/-- the bytes of a slice can be read; they do not lie in block b -/
def readable (w : World) (b : Nat) : Value → Prop
  | .slice none len _ => len = 0
  | .slice (some a) len _ => len ≤ 9223372036854775807 ∧ ∀ i, i < len → ∃ s off : Nat, a = ⟨s, off, none⟩ ∧ s < b ∧ ∃ z : Int, w.cell? ⟨s, off + i, none⟩ = some (.int .u8 z) ∧ 0 ≤ z ∧ z ≤ 255
  | _ => False
def lenOf : Value → Nat | .slice _ n _ => n | _ => 0

set_option maxRecDepth 100000 in
theorem and_255 (a : Int) : 0 ≤ bits BinOp.and IntKind.i64 a 255 ∧ bits BinOp.and IntKind.i64 a 255 ≤ 255 := by
  unfold bits
  simp only [BitVec.toNat_and]
  have h1 : (BitVec.ofInt IntKind.i64.bits 255).toNat = 255 := by decide
  rw [h1]
  have h2 : (BitVec.ofInt IntKind.i64.bits a).toNat &&& 255 ≤ 255 := Nat.and_le_right
  generalize (BitVec.ofInt IntKind.i64.bits a).toNat &&& 255 = n at h2
  rw [IntWalk.i64_in _ (by omega)]
  omega

/-- block b is a cursor: what it reads, at which place, its number -/
def curAt (w : World) (b : Nat) (sv : Value) (i : Nat) (h : Int) : Prop := w.heap[b]? = some (.cells #[sv, .int .i64 i, .int .i64 h] 53 (0, 0))
/-- nothing but block b turns -/
structure onlyAt (b : Nat) (w w' : World) : Prop where
  os : w'.os = w.os
  tape : w'.tape = w.tape
  output : w'.output = w.output
  size : w'.heap.size = w.heap.size
  block : ∀ k, k ≠ b → w'.heap[k]? = w.heap[k]?

set_option maxRecDepth 100000 in
theorem onlyAt.refl (b : Nat) (w : World) : onlyAt b w w := ⟨rfl, rfl, rfl, rfl, fun _ _ => rfl⟩
set_option maxRecDepth 100000 in
theorem onlyAt.trans {b : Nat} {u v w : World} (h : onlyAt b u v) (g : onlyAt b v w) : onlyAt b u w :=
  ⟨g.os.trans h.os, g.tape.trans h.tape, g.output.trans h.output, g.size.trans h.size, fun k hk => (g.block k hk).trans (h.block k hk)⟩
set_option maxRecDepth 100000 in
theorem onlyAt.drewN {b : Nat} {u v : World} (h : onlyAt b u v) (n : Nat) : onlyAt b u (v.drewN n) := h.trans ⟨rfl, rfl, rfl, rfl, fun _ _ => rfl⟩
set_option maxRecDepth 100000 in
theorem onlyAt.set {b : Nat} {u v : World} (h : onlyAt b u v) (o : Nat) (x : Value) : onlyAt b u (v.setCell ⟨b, o, none⟩ x) :=
  h.trans ⟨rfl, rfl, rfl, by simp [World.setCell], fun k hk => Below.heap_setCell _ _ _ _ hk⟩
set_option maxRecDepth 100000 in
theorem onlyAt.below {b B : Nat} {u v : World} (h : onlyAt b u v) (hB : B ≤ b) : Below B u v := ⟨h.os, h.tape, h.output, by rw [h.size]; exact Nat.le_refl _, fun k hk => h.block k (by omega)⟩
set_option maxRecDepth 100000 in
theorem onlyAt.cell {b : Nat} {u v : World} (h : onlyAt b u v) {p : Addr} (hp : p.block ≠ b) : v.cell? p = u.cell? p := World.cell?_of_block (h.block p.block hp)
set_option maxRecDepth 100000 in
theorem readable.only {b : Nat} {u v : World} {sv : Value} (hr : readable u b sv) (h : onlyAt b u v) : readable v b sv := by
  unfold readable at hr ⊢
  split at hr
  · exact hr
  · obtain ⟨h1, h3⟩ := hr
    refine ⟨h1, fun i hi => ?_⟩
    obtain ⟨s, off, rfl, h2, z, hz, h4⟩ := h3 i hi
    exact ⟨s, off, rfl, h2, z, (h.cell (p := ⟨_, _, none⟩) (Nat.ne_of_lt h2)).trans hz, h4⟩
  · exact hr
set_option maxRecDepth 100000 in
theorem readable.le {w : World} {b c : Nat} {sv : Value} (hr : readable w b sv) (h : b ≤ c) : readable w c sv := by
  unfold readable at hr ⊢
  split at hr
  · exact hr
  · refine ⟨hr.1, fun i hi => ?_⟩
    obtain ⟨s, off, e, h2, h3⟩ := hr.2 i hi
    exact ⟨s, off, e, Nat.lt_of_lt_of_le h2 h, h3⟩
  · exact hr
set_option maxRecDepth 100000 in
theorem cur_set {w : World} {b : Nat} {xs : Array Value} {t : TypeId} (h : w.heap[b]? = some (.cells xs t (0, 0))) (o : Nat) (x : Value) : (w.setCell ⟨b, o, none⟩ x).heap[b]? = some (.cells (xs.setIfInBounds o x) t (0, 0)) := by
  have hlt := lt_of_block h
  have h' : w.heap[b] = .cells xs t (0, 0) := by simpa [Array.getElem?_eq_getElem hlt] using h
  show (w.heap.modify b _)[b]? = _
  rw [Array.getElem?_eq_getElem (by simpa using hlt), Array.getElem_modify_self, h']
  rfl
set_option maxRecDepth 100000 in
theorem cur_cell {w : World} {b : Nat} {xs : Array Value} {t : TypeId} (h : w.heap[b]? = some (.cells xs t (0, 0))) (o : Nat) (x : Value) (hx : xs[o]? = some x) : w.cell? ⟨b, o, none⟩ = some x := by simp [World.cell?, h, hx]
set_option maxRecDepth 100000 in
theorem cur_free {w : World} {b : Nat} {xs : Array Value} {t : TypeId} (h : w.heap[b]? = some (.cells xs t (0, 0))) (o : Nat) : w.frozen? ⟨b, o, none⟩ = false := by simp [World.frozen?, h]

/-- what a step of the cursor comes to -/
def stepped (b : Nat) (sv : Value) (lo hi : Int) (w : World) (e : Ending) (w' : World) : Prop :=
  ∃ (x : Int) (i' : Nat) (h' : Int), e = .returned (.int .i64 x) ∧ lo ≤ x ∧ x ≤ hi ∧ i' ≤ lenOf sv ∧ curAt w' b sv i' h' ∧ onlyAt b w w'

set_option maxRecDepth 100000 in
theorem cur_h {w : World} {b : Nat} {sv : Value} {i : Nat} {h : Int} (hc : curAt w b sv i h) (h' : Int) : curAt (w.setCell ⟨b, 2, none⟩ (.int .i64 h')) b sv i h' := cur_set hc 2 _
set_option maxRecDepth 100000 in
theorem cur_i {w : World} {b : Nat} {sv : Value} {i : Nat} {h : Int} (hc : curAt w b sv i h) (i' : Nat) (n : Int) (hn : n = i') : curAt (w.setCell ⟨b, 1, none⟩ (.int .i64 n)) b sv i' h := by subst hn; exact cur_set hc 1 _
set_option maxRecDepth 100000 in
theorem step_end {b : Nat} {sv : Value} {w W : World} {i : Nat} {h a : Int} (hc : curAt W b sv i h) (hi : i ≤ lenOf sv) (ho : onlyAt b w W) : stepped b sv 0 255 w (.returned (.int .i64 (bits BinOp.and IntKind.i64 a 255))) W :=
  ⟨_, i, h, rfl, (and_255 _).1, (and_255 _).2, hi, hc, ho⟩

set_option maxRecDepth 100000 in
set_option maxHeartbeats 800000 in
theorem byte_any (b : Nat) (sv : Value) (i : Nat) (h : Int) (w : World) (hc : curAt w b sv i h) (hi : i ≤ lenOf sv) (hr : readable w b sv) :
    Calls Tryd.prog 37 #[.pointer (some ⟨b, 0, none⟩)] w (stepped b sv 0 255 w) := by
  have c0 : w.cell? ⟨b, 0, none⟩ = some sv := cur_cell hc 0 _ rfl
  have c1 : w.cell? ⟨b, 1, none⟩ = some (.int .i64 i) := cur_cell hc 1 _ rfl
  have c2 : w.cell? ⟨b, 2, none⟩ = some (.int .i64 h) := cur_cell hc 2 _ rfl
  have f1 : w.frozen? ⟨b, 1, none⟩ = false := cur_free hc 1
  have f2 : w.frozen? ⟨b, 2, none⟩ = false := cur_free hc 2
  have HC := Lib.hid hc
  have HR := Lib.hid hr
  clear hc hr
  match sv, HR, hi with
  | .slice none len cap, HR, hi =>
    obtain rfl : len = 0 := HR.out
    obtain rfl : i = 0 := by simpa [lenOf] using hi
    go_enter Tryd.func37, Tryd.ntmps37
    go_wp2
    go_quiet (fail)
    go_wp2
    go_quiet (fail)
    go_wp2
    go_ret
    exact step_end (cur_h HC.out _) (Nat.zero_le _) ((((onlyAt.refl _ _).set 2 _).drewN _).drewN _)
  | .slice (some a) len cap, HR, hi =>
    obtain ⟨hl, hz⟩ := HR.out
    have hi' : i ≤ len := hi
    by_cases hlt : i < len
    · obtain ⟨s, off, rfl, hsb, z, hz1, hz2, hz3⟩ := hz i hlt
      have hne : s ≠ b := Nat.ne_of_lt hsb
      have HZ := Lib.hid hz
      clear hz hi
      go_enter Tryd.func37, Tryd.ntmps37
      go_wp2
      go_quiet (fail)
      go_wp2
      go_quiet (fail)
      go_wp2
      go_quiet (fail)
      go_wp2
      go_ret
      exact step_end (cur_i (cur_h HC.out _) (i + 1) _ (by omega)) (by show i + 1 ≤ len; omega) ((((onlyAt.refl _ _).set 2 _).set 1 _).drewN _)
    · have HZ := Lib.hid hz
      clear hz hi
      go_enter Tryd.func37, Tryd.ntmps37
      go_wp2
      go_quiet (fail)
      go_wp2
      go_quiet (fail)
      go_wp2
      go_ret
      exact step_end (cur_h HC.out _) hi' ((((onlyAt.refl _ _).set 2 _).drewN _).drewN _)

set_option maxRecDepth 100000 in
theorem stepped_mod {b : Nat} {sv : Value} {w : World} {W : World} {x n : Int} {i : Nat} {h : Int} (hx : 0 ≤ x) (hn : 0 < n) (hi : i ≤ lenOf sv) (hc : curAt W b sv i h) (ho : onlyAt b w W) : stepped b sv 0 (n - 1) w (.returned (.int .i64 (x % n))) W :=
  ⟨_, i, h, rfl, Int.emod_nonneg _ (by omega), by have := Int.emod_lt_of_pos x hn; omega, hi, hc, ho⟩

set_option maxRecDepth 100000 in
set_option maxHeartbeats 800000 in
/-- from 0 to n - 1 -/
theorem below_any (b : Nat) (sv : Value) (i : Nat) (h n : Int) (w : World) (hc : curAt w b sv i h) (hi : i ≤ lenOf sv) (hr : readable w b sv) (hn : 0 < n) (hm : n ≤ 9223372036854775807) :
    Calls Tryd.prog 21 #[.pointer (some ⟨b, 0, none⟩), .int .i64 n] w (stepped b sv 0 (n - 1) w) := by
  by_cases h256 : n ≤ 256
  · go_enter Tryd.func21, Tryd.ntmps21
    go_wp2_with fail
    refine (byte_any b sv i h w hc hi hr).mono ?_
    rintro e w1 ⟨x, i1, h1, rfl, hx0, hx1, hi1, hc1, ho1⟩
    go_wp2
    go_ret
    exact stepped_mod hx0 hn hi1 hc1 ho1
  · go_enter Tryd.func21, Tryd.ntmps21
    go_wp2_with fail
    refine (byte_any b sv i h w hc hi hr).mono ?_
    rintro e w1 ⟨x1, i1, h1, rfl, hx10, hx11, hi1, hc1, ho1⟩
    go_wp2_with fail
    refine (byte_any b sv i1 h1 w1 hc1 hi1 (hr.only ho1)).mono ?_
    rintro e w2 ⟨x2, i2, h2, rfl, hx20, hx21, hi2, hc2, ho2⟩
    go_wp2_with fail
    refine (byte_any b sv i2 h2 w2 hc2 hi2 ((hr.only ho1).only ho2)).mono ?_
    rintro e w3 ⟨x3, i3, h3, rfl, hx30, hx31, hi3, hc3, ho3⟩
    go_wp2_with fail
    refine (byte_any b sv i3 h3 w3 hc3 hi3 (((hr.only ho1).only ho2).only ho3)).mono ?_
    rintro e w4 ⟨x4, i4, h4, rfl, hx40, hx41, hi4, hc4, ho4⟩
    go_wp2
    go_ret
    exact stepped_mod (by omega) hn hi4 hc4 (((ho1.trans ho2).trans ho3).trans ho4)

/-- what the making of a cursor comes to -/
def made (sv : Value) (w : World) (e : Ending) (w' : World) : Prop :=
  ∃ h : Int, e = .returned (.pointer (some ⟨w.heap.size, 0, none⟩)) ∧ w' = w.alloc (.cells #[sv, .int .i64 0, .int .i64 h] 53)
set_option maxRecDepth 100000 in
theorem made_cur (sv : Value) (w : World) (h : Int) : curAt (w.alloc (.cells #[sv, .int .i64 0, .int .i64 h] 53)) w.heap.size sv 0 h := by
  show (w.heap.push _)[w.heap.size]? = _
  simp
set_option maxRecDepth 100000 in
theorem readable.alloc {w : World} {b : Nat} {sv : Value} (hr : readable w b sv) (o : Obj) : readable (w.alloc o) b sv := by
  unfold readable at hr ⊢
  split at hr
  · exact hr
  · obtain ⟨h1, h3⟩ := hr
    refine ⟨h1, fun i hi => ?_⟩
    obtain ⟨s, off, rfl, h2, z, hz, h4⟩ := h3 i hi
    exact ⟨s, off, rfl, h2, z, cell?_alloc_old o hz, h4⟩
  · exact hr

set_option maxRecDepth 100000 in
set_option maxHeartbeats 800000 in
theorem new_any (sv : Value) (w : World) (hr : readable w w.heap.size sv) (hlen : lenOf sv ≤ 1048576) :
    Calls Tryd.prog 10 #[sv] w (made sv w) := by
  match sv, hr, hlen with
  | .slice none len cap, hr, hlen =>
    obtain rfl : len = 0 := hr
    go_enter Tryd.func10, Tryd.ntmps10
    go_wp2
    go_loop [3, 4] (fun hv iv => ∃ hh : Int, iv = .int .i64 0 ∧ hv = .int .i64 hh) (fun _ _ => 0)
    case atStart => exact ⟨_, rfl, rfl⟩
    case round =>
      obtain ⟨hh, rfl, rfl⟩ := hrel
      go_wp2
      go_ret
      exact ⟨_, rfl, rfl⟩
  | .slice (some a) len cap, hr, hlen =>
    obtain ⟨hl, hz⟩ := hr
    rcases Nat.eq_zero_or_pos len with h0 | h0
    · subst h0
      clear hz hlen
      go_enter Tryd.func10, Tryd.ntmps10
      go_wp2
      go_loop [3, 4] (fun hv iv => ∃ hh : Int, iv = .int .i64 0 ∧ hv = .int .i64 hh) (fun _ _ => 0)
      case atStart => exact ⟨_, rfl, rfl⟩
      case round =>
        obtain ⟨hh, rfl, rfl⟩ := hrel
        go_wp2
        go_ret
        exact ⟨_, rfl, rfl⟩
    obtain ⟨s, off, rfl, _, _⟩ := hz 0 h0
    have hz : ∀ i, i < len → ∃ z : Int, w.cell? ⟨s, off + i, none⟩ = some (.int .u8 z) ∧ 0 ≤ z ∧ z ≤ 255 := fun i hi => by
      obtain ⟨s', off', e, _, h⟩ := hz i hi
      simp only [Addr.mk.injEq, and_true] at e
      obtain ⟨rfl, rfl⟩ := e
      exact h
    have HZ := Lib.hid hz
    have hlen' : len ≤ 1048576 := hlen
    clear hz hlen
    go_enter Tryd.func10, Tryd.ntmps10
    go_wp2
    go_loop [3, 4] (fun hv iv => ∃ (k : Nat) (hh : Int), k ≤ len ∧ iv = .int .i64 k ∧ hv = .int .i64 hh) (fun _ iv => len - (intOf iv).toNat)
    case atStart => exact ⟨0, _, Nat.zero_le _, rfl, rfl⟩
    case round =>
      obtain ⟨k, hh, hk, rfl, rfl⟩ := hrel
      by_cases hlt : k < len
      · obtain ⟨z, hz1, hz2, hz3⟩ := HZ.out k hlt
        by_cases h4 : (k : Int) < 4000
        · go_wp2
          go_round
          case rel => exact ⟨k + 1, _, by omega, by go_num, rfl⟩
          case measure => simp [intOf] <;> omega
        · go_wp2
          go_ret
          exact ⟨_, rfl, rfl⟩
      · go_wp2
        go_ret
        exact ⟨_, rfl, rfl⟩
end Go.Proofs.YtkbakcnhhlmpkaaDoor
