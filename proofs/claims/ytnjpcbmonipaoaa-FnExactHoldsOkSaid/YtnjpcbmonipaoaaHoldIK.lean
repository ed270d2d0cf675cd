/- HoldsOk of the program; no conditions. -/
import Derived.Test.YtnjpcbmonipaoaaHoldIO
import Derived.Test.YtnjpcbmonipaoaaHoldK
set_option linter.unusedVariables false
namespace Go.Proofs.Ytnjpcbmonipaoaa
open Go.ChangeShapes Go.WideShapes Go.ChangeAt Go.RowKit

set_option maxRecDepth 100000 in
set_option maxHeartbeats 1600000 in
theorem implHoldsOk_any (hi : Nat) (v : Value) (l : List HoldD) (w : World) (hn : l.length ≤ 1048576) (hs : ∀ x ∈ l, x.1.size ≤ maxLen) (h : HoldsR.rd hi w [v] l) (hh : hi ≤ w.heap.size) :
    Calls Try.prog 20 #[v] w fun e w' => e = .returned (.bool (holdsOk l)) ∧ Below w.heap.size w w' := by
  obtain ⟨A, c, rfl, hc, h⟩ := holds_rd h
  have HR := Lib.hid h
  have HS := Lib.hid hs
  clear h hs
  by_cases hbig : 4 < l.length
  · have HV : Hid (holdsOk l = false) := Lib.hid (by unfold holdsOk; rw [decide_eq_false (by omega), Bool.and_false])
    have g0 : (4 : Int) < (l.length : Int) := by omega
    go_enter Try.func20, Try.ntmps20
    go_wp2
    go_ret
    exact ⟨ret_bool HV.out.symm, Below.refl _ _⟩
  have g0 : ¬ (4 : Int) < (l.length : Int) := by omega
  have HST : Hid (Value.string ⟨#[]⟩ = .string (befH l 0)) := Lib.hid rfl
  go_enter Try.func20, Try.ntmps20
  go_wp2
  go_loopw [3, 11] (fun bv iv wr => ∃ i : Nat, i ≤ l.length ∧ iv = .int .i64 i ∧ bv = .string (befH l i) ∧ Hid ((List.range i).all (holdAtOk l) = true) ∧ Hid (Below w.heap.size w wr) ∧ w.heap.size ≤ wr.heap.size) (fun _ iv _ => l.length - (intOf iv).toNat)
  case atStart => exact ⟨0, Nat.zero_le _, rfl, HST.out, Lib.hid rfl, Lib.hid (Below.refl _ _), Nat.le_refl _⟩
  case round =>
    obtain ⟨i, hi', rfl, rfl, HN, HB, hz⟩ := hrel
    by_cases hin : i < l.length
    · obtain ⟨x, hx⟩ : ∃ x, l[i]? = some x := ⟨_, List.getElem?_eq_getElem hin⟩
      obtain ⟨b, off, rfl, hbl, c0, c1, c2⟩ := HR.out i x hx
      have HXD := Lib.hid (holdAt_bef hx)
      have HNX := Lib.hid (befH_next hx)
      have hxs := HS.out x (List.mem_of_getElem? hx)
      have HOK := Lib.hid (fun W => implHoldOk_any x W hxs)
      have HNO := Lib.hid (fun h => holds_ok_not (l := l) hin h)
      have HSN := Lib.hid (fun h => range_snoc (l := l) HN.out h)
      clear hx
      generalize befH l i = bf at HXD
      generalize holdOk x = hk at HXD HOK
      have c0 := (HB.out.cell (p := ⟨b, off + i * 3, none⟩) (show b < w.heap.size by omega)).trans c0
      have c1 := (HB.out.cell (p := ⟨b, off + i * 3 + 1, none⟩) (show b < w.heap.size by omega)).trans c1
      have c2 := (HB.out.cell (p := ⟨b, off + i * 3 + 2, none⟩) (show b < w.heap.size by omega)).trans c2
      have g1 : (i : Int) < (l.length : Int) := by omega
      have g2 : 0 ≤ (i : Int) := by omega
      go_upto_region 7 with fail
      obtain ⟨W, hW⟩ : ∃ W, W = wr.alloc (.cells #[.string x.1, .int .i64 x.2.1, .int .i64 x.2.2] 27) := ⟨_, rfl⟩
      have b0 : bk W wr.heap.size 27 [.string x.1, .int .i64 x.2.1, .int .i64 x.2.2] := by rw [hW]; exact bk.new wr _ _
      have HB0 : Hid (Below w.heap.size w W) := Lib.hid (by rw [hW]; exact HB.out.alloc hz _)
      have z0 := b0.lt
      rw [← hW]
      clear hW c0 c1 c2
      obtain ⟨p0, p1, p2⟩ := b0.cells3
      go_wp2_with fail
      refine (HOK.out _).mono ?_
      rintro e w1 ⟨rfl, hb1⟩
      have HB1 : Hid (Below w.heap.size w w1) := Lib.hid (HB0.out.trans (hb1.mono (by omega)))
      have z1 := hb1.size
      replace b0 := b0.below hb1 z0
      clear hb1 p0 p1 p2
      obtain ⟨p0, p1, p2⟩ := b0.cells3
      clear b0
      cases hk
      · have HF : Hid (holdsOk l = false) := Lib.hid (HNO.out (by rw [HXD.out]; rfl))
        go_wp2
        go_ret
        exact ⟨ret_bool HF.out.symm, HB1.out⟩
      rcases str_cmp x.1 bf with ⟨-, h2, h3, h4⟩ | ⟨-, h2⟩ | ⟨-, h2, h3, h4⟩
      · have HF : Hid (holdsOk l = false) := Lib.hid (HNO.out (by rw [HXD.out, h3]; rfl))
        have h5 : Op.bytesLess x.1.toList bf.toList = true := h2
        clear h2 h3 h4
        go_wp2
        go_ret
        exact ⟨ret_bool HF.out.symm, HB1.out⟩
      · have HF : Hid (holdsOk l = false) := Lib.hid (HNO.out (by rw [HXD.out, h2, strLt_irrefl]; rfl))
        have h5 : (x.1.toList == bf.toList) = true := by rw [h2]; simp
        clear h2
        go_wp2
        go_ret
        exact ⟨ret_bool HF.out.symm, HB1.out⟩
      · have HT : Hid ((List.range (i + 1)).all (holdAtOk l) = true) := Lib.hid (HSN.out (by rw [HXD.out, h2]; rfl))
        have h5 : Op.bytesLess x.1.toList bf.toList = false := h3
        have h6 : (x.1.toList == bf.toList) = false := by simpa using fun e => h4 (str_eq_list.1 e)
        have h7 : ¬ x.1.toList = bf.toList := fun e => h4 (str_eq_list.1 e)
        clear h2 h3 h4
        go_wp2
        go_roundw
        case rel => exact ⟨i + 1, by omega, by go_num, by rw [HNX.out], HT, HB1, by omega⟩
        case measure => simp [intOf] <;> omega
    · obtain rfl : i = l.length := by omega
      have HV : Hid (holdsOk l = true) := Lib.hid (by rw [holds_ok_end HN.out]; exact decide_eq_true (by omega))
      go_wp2
      go_ret
      exact ⟨ret_bool HV.out.symm, HB.out⟩
end Go.Proofs.Ytnjpcbmonipaoaa
