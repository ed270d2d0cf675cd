/- What the law package's helpers do with slices of bytes; no conditions. -/
import Derived.Test.YtpeeagkfhdeagaaNums
set_option linter.unusedVariables false
namespace Go.Proofs.Ytpeeagkfhdeagaa
open Go.ChangeShapes Go.WideShapes Go.ChangeAt Go.RowKit

set_option maxRecDepth 100000 in
theorem infoU8 : (Try.prog.info? 5).map (fun i => (i.zero, i.size, i.bytes)) = some (some (.int .u8 0), 1, 1) := by kernel_rfl
set_option maxRecDepth 100000 in
set_option maxHeartbeats 800000 in
theorem eqBytes_any (hi1 hi2 : Nat) (va vb : Value) (l : List Int) (w : World) (hn : l.length ≤ 4611686018427387904) (h1 : rd .u8 hi1 w va l) (h2 : rd .u8 hi2 w vb l) :
    Calls Try.prog 50 #[va, vb] w fun e w' => e = .returned (.bool true) ∧ Below w.heap.size w w' := by
  obtain ⟨A1, c1, rfl, -, h1⟩ := h1
  obtain ⟨A2, c2, rfl, -, h2⟩ := h2
  have H1 := Lib.hid h1
  have H2 := Lib.hid h2
  clear h1 h2
  go_enter Try.func50, Try.ntmps50
  go_wp2
  go_loopw [5] (fun iv wr => ∃ (k : Nat) (q : Nat), k ≤ l.length ∧ iv = .int .i64 k ∧ wr = w.drewN q) (fun iv _ => l.length - (intOf iv).toNat)
  case atStart => exact ⟨0, 0, Nat.zero_le _, rfl, rfl⟩
  case round =>
    obtain ⟨k, q, hk, rfl, rfl⟩ := hrel
    by_cases hlt : k < l.length
    · obtain ⟨b1, o1, rfl, -, x1⟩ := H1.out k hlt
      obtain ⟨b2, o2, rfl, -, x2⟩ := H2.out k hlt
      generalize l.getD k 0 = x at x1 x2
      have g1 : (k : Int) < (l.length : Int) := by omega
      have g2 : 0 ≤ (k : Int) := by omega
      go_wp2
      go_quiet (fail)
      go_wp2
      go_roundw
      case rel => exact ⟨k + 1, _, by omega, by go_num, rfl⟩
      case measure => simp [intOf] <;> omega
    · go_wp2
      go_ret
      exact ⟨rfl, below_drewN (Below.refl _ _) _⟩

set_option maxRecDepth 100000 in
set_option maxHeartbeats 800000 in
theorem toBytes_any (hi : Nat) (v : Value) (l : List Int) (w : World) (hn : l.length ≤ 1048576) (h : rd .u8 hi w v l) (hhi : hi ≤ w.heap.size) :
    Calls Try.prog 46 #[v] w fun e w' => ∃ u, e = .returned u ∧ nums .u8 w.heap.size w'.heap.size w' u l ∧ Below w.heap.size w w' := by
  obtain ⟨A, c, rfl, hc, h⟩ := h
  have HR := Lib.hid h
  clear h
  have hmk := run_make_row' (P := Try.prog) 61 5 (.int .u8 0) 1 Try.underlying61 infoU8 rfl .i64 .i64 l.length (by omega) (by omega)
  go_enter Try.func46, Try.ntmps46
  go_wp2
  go_loopw [4] (fun iv wr => ∃ i : Nat, i ≤ l.length ∧ iv = .int .i64 i ∧ part .u8 w.heap.size 5 l.length wr l i ∧ Below w.heap.size w wr) (fun iv _ => l.length - (intOf iv).toNat)
  case atStart => exact ⟨0, Nat.zero_le _, rfl, part.start (World.rowIs_made w (.int .u8 0) l.length 5), (Below.refl _ _).alloc (Nat.le_refl _) _⟩
  case round =>
    obtain ⟨i, hi, rfl, hp, hb⟩ := hrel
    have HP := Lib.hid hp
    by_cases hin : i < l.length
    · obtain ⟨b, off, rfl, hbl, hcell⟩ := HR.out i hin
      have hcell := (hb.cell (p := ⟨b, off + i, none⟩) (show b < w.heap.size by omega)).trans hcell
      have hdst := World.rowIs.cell hp hin
      rw [if_neg (by omega)] at hdst
      have hfr := World.rowIs.frozen hp i
      clear hp
      have g1 : (i : Int) < (l.length : Int) := by omega
      have g2 : 0 ≤ (i : Int) := by omega
      go_wp2
      go_roundw
      case rel => exact ⟨i + 1, by omega, by go_num, HP.out.set (by rw [List.getD_eq_getElem?_getD, List.getElem?_eq_getElem hin]; rfl), hb.setCell (by simp) _⟩
      case measure => simp [intOf] <;> omega
    · obtain rfl : i = l.length := by omega
      clear hp
      go_wp2
      go_ret
      exact ⟨_, rfl, HP.out.done (Nat.le_refl _), hb⟩
end Go.Proofs.Ytpeeagkfhdeagaa
