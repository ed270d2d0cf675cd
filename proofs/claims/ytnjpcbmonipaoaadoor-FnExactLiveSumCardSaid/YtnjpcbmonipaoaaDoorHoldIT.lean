/- Stored and LiveSum of the program. The library's table of type handles holds what its text lays. -/
import Derived.Test.YtnjpcbmonipaoaaDoorHoldT
import Derived.Test.YtnjpcbmonipaoaaDoorHoldIE
import Derived.Test.YtnjpcbmonipaoaaDoorHandle
set_option linter.unusedVariables false
namespace Go.Proofs.YtnjpcbmonipaoaaDoor
open Go.ChangeShapes Go.WideShapes Go.ChangeAt Go.RowKit

set_option maxRecDepth 100000 in
set_option maxHeartbeats 1600000 in
theorem implStored_any (hi : Nat) (v : Value) (l : List HoldD) (w : World) (hg : Handle w) (hn : l.length ≤ 1048576) (h : HoldsR.rd hi w [v] l) (hh : hi ≤ w.heap.size) :
    Calls Tryd.prog 8 #[v] w fun e w' => e = .returned (.int .i64 (storedL l)) ∧ Below w.heap.size w w' := by
  obtain ⟨A, c, rfl, hc, h⟩ := holds_rd h
  have HR := Lib.hid h
  have HG := Lib.hid hg
  clear h hg
  go_enter Tryd.func8, Tryd.ntmps8
  go_wp2
  go_loopw [3, 8] (fun nv iv wr => ∃ i : Nat, i ≤ l.length ∧ iv = .int .i64 i ∧ nv = .int .i64 (storedL (l.take i)) ∧ Hid (Below w.heap.size w wr) ∧ w.heap.size ≤ wr.heap.size) (fun _ iv _ => l.length - (intOf iv).toNat)
  case atStart => exact ⟨0, Nat.zero_le _, rfl, rfl, Lib.hid (Below.refl _ _), Nat.le_refl _⟩
  case round =>
    obtain ⟨i, hi', rfl, rfl, HB, hz⟩ := hrel
    by_cases hin : i < l.length
    · obtain ⟨x, hx⟩ : ∃ x, l[i]? = some x := ⟨_, List.getElem?_eq_getElem hin⟩
      obtain ⟨b, off, rfl, hbl, c0, c1, c2⟩ := HR.out i x hx
      have HNX := Lib.hid (storedL_next hx)
      clear hx
      have c0 := (HB.out.cell (p := ⟨b, off + i * 3, none⟩) (show b < w.heap.size by omega)).trans c0
      have c1 := (HB.out.cell (p := ⟨b, off + i * 3 + 1, none⟩) (show b < w.heap.size by omega)).trans c1
      have c2 := (HB.out.cell (p := ⟨b, off + i * 3 + 2, none⟩) (show b < w.heap.size by omega)).trans c2
      have g1 : (i : Int) < (l.length : Int) := by omega
      have g2 : 0 ≤ (i : Int) := by omega
      have HSA := Lib.hid (fun W (hW : Below w.heap.size w W) => implSat_any (storedL (l.take i)) x.2.1 W (HG.out.below hW (Nat.le_refl _)))
      have HB2 : Hid (Below w.heap.size w (wr.alloc (.cells #[.string x.1, .int .i64 x.2.1, .int .i64 x.2.2] 34))) := Lib.hid (HB.out.alloc hz _)
      go_wp2_with fail
      refine (HSA.out _ HB2.out).mono ?_
      rintro e w5 ⟨rfl, hb5⟩
      have HB5 : Hid (Below w.heap.size w w5) := Lib.hid (HB2.out.trans (hb5.mono (by simp; omega)))
      have z5 := hb5.size
      have z6 : w.heap.size ≤ w5.heap.size := by simp at z5; omega
      clear hb5 z5
      go_wp2
      go_roundw
      case rel => exact ⟨i + 1, by omega, by go_num, by rw [HNX.out], HB5, z6⟩
      case measure => simp [intOf] <;> omega
    · obtain rfl : i = l.length := by omega
      rw [List.take_length]
      go_wp2
      go_ret
      exact ⟨rfl, HB.out⟩
set_option maxRecDepth 100000 in
theorem implLiveSum_any (hi : Nat) (v : Value) (l : List HoldD) (now : Int) (w : World) (hg : Handle w) (hn : l.length ≤ 1048576) (h : HoldsR.rd hi w [v] l) (hh : hi ≤ w.heap.size) :
    Calls Tryd.prog 11 #[v, .int .i64 now] w fun e w' => e = .returned (.int .i64 (storedL (liveL l now))) ∧ Below w.heap.size w w' := by
  have HL := Lib.hid (implLiveOnes_any hi v l now w hn h hh)
  have hl : (liveL l now).length ≤ 1048576 := Nat.le_trans (List.length_filter_le _ _) hn
  have HG := Lib.hid hg
  clear h hg
  generalize liveL l now = m at HL hl ⊢
  go_enter Tryd.func11, Tryd.ntmps11
  go_wp2_with fail
  refine HL.out.mono ?_
  rintro e w1 ⟨u, rfl, hm, hb⟩
  have HS := Lib.hid (implStored_any w1.heap.size u m w1 (HG.out.below hb (Nat.le_refl _)) hl hm.rd (Nat.le_refl _))
  have HB := Lib.hid hb
  have z := hb.size
  clear hm hb HL HG
  go_wp2_with fail
  refine HS.out.mono ?_
  rintro e w2 ⟨rfl, hb2⟩
  go_wp2
  go_ret
  exact ⟨rfl, HB.out.trans (hb2.mono z)⟩
end Go.Proofs.YtnjpcbmonipaoaaDoor
