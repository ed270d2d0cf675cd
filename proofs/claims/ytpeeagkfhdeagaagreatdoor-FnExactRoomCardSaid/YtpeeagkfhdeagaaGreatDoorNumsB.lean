/- What the law package's helpers do with slices of bytes; no conditions. -/
import Derived.Test.YtpeeagkfhdeagaaGreatDoorNums
set_option linter.unusedVariables false
namespace Go.Proofs.YtpeeagkfhdeagaaGreatDoor
open Go.ChangeShapes Go.WideShapes Go.ChangeAt Go.RowKit

set_option maxRecDepth 100000 in
theorem infoU8 : (Tryz.prog.info? 5).map (fun i => (i.zero, i.size, i.bytes)) = some (some (.int .u8 0), 1, 1) := by kernel_rfl
set_option maxRecDepth 100000 in
set_option maxHeartbeats 800000 in
theorem eqBytes_any (hi1 hi2 : Nat) (va vb : Value) (l : List Int) (w : World) (hn : l.length ≤ 4611686018427387904) (h1 : rd .u8 hi1 w va l) (h2 : rd .u8 hi2 w vb l) :
    Calls Tryz.prog 92 #[va, vb] w fun e w' => e = .returned (.bool true) ∧ Below w.heap.size w w' := by
  obtain ⟨A1, c1, rfl, -, h1⟩ := h1
  obtain ⟨A2, c2, rfl, -, h2⟩ := h2
  have H1 := Lib.hid h1
  have H2 := Lib.hid h2
  clear h1 h2
  go_enter Tryz.func92, Tryz.ntmps92
  go_wp2
  go_loopw [5] (fun iv wr => ∃ (k : Nat) (q : Nat), k ≤ l.length ∧ iv = .int .i64 k ∧ wr = w.drewN q) (fun iv _ => l.length - (intOf iv).toNat)
  case atStart => exact ⟨0, 0, Nat.zero_le _, rfl, rfl⟩
  case round =>
    obtain ⟨k, q, hk, rfl, rfl⟩ := hrel
    by_cases hlt : k < l.length
    · obtain ⟨b1, o1, rfl, -, x1⟩ := H1.out k hlt
      obtain ⟨b2, o2, rfl, -, x2⟩ := H2.out k hlt
      generalize l.getD k 0 = x at x1 x2
      have g1 : (k : Int) < (l.length : Int) := by omega
      have g2 : 0 ≤ (k : Int) := by omega
      go_wp2
      go_quiet (fail)
      go_wp2
      go_roundw
      case rel => exact ⟨k + 1, _, by omega, by go_num, rfl⟩
      case measure => simp [intOf] <;> omega
    · go_wp2
      go_ret
      exact ⟨rfl, below_drewN (Below.refl _ _) _⟩

set_option maxRecDepth 100000 in
set_option maxHeartbeats 800000 in
theorem markBytes_any (lo hi : Nat) (v : Value) (l : List Int) (k : Int) (w : World) (hn : l.length ≤ 4611686018427387904) (hk0 : 0 ≤ k) (hk1 : k ≤ 4000000000000000000) (hm : nums .u8 lo hi w v l) :
    Calls Tryz.prog 77 #[v, .int .i64 k] w fun e w' => e = .returned (.int .i64 (k + l.length)) ∧ nums .u8 lo hi w' v (marksL (· % 256) k l.length) ∧ w.grownBy w' (blk v) := by
  obtain ⟨A, c, rfl, hc, hm⟩ := hm
  have hm := mkd.start (k := k) (f := (· % 256)) hm
  generalize l.length = n at hn hm hc ⊢
  have HM := Lib.hid hm
  have hkn : k + (n : Int) ≤ 8611686018427387904 := by omega
  clear hm
  go_enter Tryz.func77, Tryz.ntmps77
  go_wp2
  go_loopw [1, 5] (fun kv iv wr => ∃ i : Nat, i ≤ n ∧ iv = .int .i64 i ∧ kv = .int .i64 (k + i) ∧ mkd .u8 (· % 256) lo hi wr A k i n ∧ w.grownBy wr (blk (.slice A n c))) (fun _ iv _ => n - (intOf iv).toNat)
  case atStart => exact ⟨0, Nat.zero_le _, rfl, val_int (by simp), HM.out, grown_refl _ _⟩
  case round =>
    obtain ⟨i, hi, rfl, rfl, hm, hw⟩ := hrel
    have HM := Lib.hid hm
    have HW := Lib.hid hw
    clear hm hw
    by_cases hin : i < n
    · obtain ⟨b, off, rfl, h1, h2, hf, ⟨u, hu⟩, -⟩ := HM.out i hin
      have g1 : (i : Int) < (n : Int) := by omega
      have g2 : 0 ≤ (i : Int) := by omega
      have hb : blk (.slice (some ⟨b, off, none⟩) n c) = some b := by cases n with | zero => omega | succ n => rfl
      have HB := Lib.hid hb
      clear hb
      go_wp2
      go_roundw
      case rel => exact ⟨i + 1, by omega, by go_num, val_int (by omega), HM.out.set hin rfl, by have := HW.out; rw [HB.out] at this ⊢; exact grown_set this _ _⟩
      case measure => simp [intOf] <;> omega
    · obtain rfl : i = n := by omega
      go_wp2
      go_ret
      exact ⟨rfl, HM.out.done hc, HW.out⟩

set_option maxRecDepth 100000 in
set_option maxHeartbeats 800000 in
theorem heldBytes_any (hi : Nat) (v : Value) (n : Nat) (k : Int) (w : World) (hn : n ≤ 4611686018427387904) (hk0 : 0 ≤ k) (hk1 : k ≤ 4000000000000000000) (hm : rd .u8 hi w v (marksL (· % 256) k n)) :
    Calls Tryz.prog 79 #[v, .int .i64 k] w fun e w' => e = .returned (.int .i64 (k + n)) ∧ Below w.heap.size w w' := by
  obtain ⟨A, c, rfl, hc, hm⟩ := hm
  rw [marks_length] at hm hc ⊢
  have HM := Lib.hid hm
  clear hm
  have hkn : k + (n : Int) ≤ 8611686018427387904 := by omega
  go_enter Tryz.func79, Tryz.ntmps79
  go_wp2
  go_loopw [1, 5] (fun kv iv wr => ∃ i q : Nat, i ≤ n ∧ iv = .int .i64 i ∧ kv = .int .i64 (k + i) ∧ wr = w.drewN q) (fun _ iv _ => n - (intOf iv).toNat)
  case atStart => exact ⟨0, 0, Nat.zero_le _, rfl, val_int (by simp), rfl⟩
  case round =>
    obtain ⟨i, q, hi, rfl, rfl, rfl⟩ := hrel
    by_cases hin : i < n
    · obtain ⟨b, off, rfl, -, hc'⟩ := HM.out i hin
      rw [marks_getD _ k n i hin] at hc'
      have g1 : (i : Int) < (n : Int) := by omega
      have g2 : 0 ≤ (i : Int) := by omega
      go_wp2
      go_roundw
      case rel => exact ⟨i + 1, _, by omega, by go_num, val_int (by omega), rfl⟩
      case measure => simp [intOf] <;> omega
    · obtain rfl : i = n := by omega
      go_wp2
      go_ret
      exact ⟨rfl, below_drewN (Below.refl _ _) _⟩

set_option maxRecDepth 100000 in
set_option maxHeartbeats 800000 in
theorem toBytes_any (hi : Nat) (v : Value) (l : List Int) (w : World) (hn : l.length ≤ 1048576) (h : rd .u8 hi w v l) (hhi : hi ≤ w.heap.size) :
    Calls Tryz.prog 89 #[v] w fun e w' => ∃ u, e = .returned u ∧ nums .u8 w.heap.size w'.heap.size w' u l ∧ Below w.heap.size w w' := by
  obtain ⟨A, c, rfl, hc, h⟩ := h
  have HR := Lib.hid h
  clear h
  have hmk := run_make_row' (P := Tryz.prog) 69 5 (.int .u8 0) 1 Tryz.underlying69 infoU8 rfl .i64 .i64 l.length (by omega) (by omega)
  go_enter Tryz.func89, Tryz.ntmps89
  go_wp2
  go_loopw [4] (fun iv wr => ∃ i : Nat, i ≤ l.length ∧ iv = .int .i64 i ∧ part .u8 w.heap.size 5 l.length wr l i ∧ Below w.heap.size w wr) (fun iv _ => l.length - (intOf iv).toNat)
  case atStart => exact ⟨0, Nat.zero_le _, rfl, part.start (World.rowIs_made w (.int .u8 0) l.length 5), (Below.refl _ _).alloc (Nat.le_refl _) _⟩
  case round =>
    obtain ⟨i, hi, rfl, hp, hb⟩ := hrel
    have HP := Lib.hid hp
    by_cases hin : i < l.length
    · obtain ⟨b, off, rfl, hbl, hcell⟩ := HR.out i hin
      have hcell := (hb.cell (p := ⟨b, off + i, none⟩) (show b < w.heap.size by omega)).trans hcell
      have hdst := World.rowIs.cell hp hin
      rw [if_neg (by omega)] at hdst
      have hfr := World.rowIs.frozen hp i
      clear hp
      have g1 : (i : Int) < (l.length : Int) := by omega
      have g2 : 0 ≤ (i : Int) := by omega
      go_wp2
      go_roundw
      case rel => exact ⟨i + 1, by omega, by go_num, HP.out.set (by rw [List.getD_eq_getElem?_getD, List.getElem?_eq_getElem hin]; rfl), hb.setCell (by simp) _⟩
      case measure => simp [intOf] <;> omega
    · obtain rfl : i = l.length := by omega
      clear hp
      go_wp2
      go_ret
      exact ⟨_, rfl, HP.out.done (Nat.le_refl _), hb⟩
end Go.Proofs.YtpeeagkfhdeagaaGreatDoor
