/- scanMoney: the money that a text of digits denotes, or an error; the program's error variable holds an error. -/
import Derived.Test.YtdjlhijaadombaaDoorDec
import Derived.Test.YtdjlhijaadombaaDoorRune
import Derived.BigQuiet
import Derived.Deep.QuietTactic
set_option linter.unusedVariables false
namespace Go.Proofs.YtdjlhijaadombaaDoor
open Go.ChangeShapes Go.WideShapes Go.ChangeAt Go.RowKit

/-- what scanMoney comes to -/
def scanEnd (s : ByteArray) (e : Ending) : Prop :=
  if scanOk s = true then e = .returned (.tuple #[.int .i64 (decOf s.data.toList), .nilIface]) else ∃ t v, e = .returned (.tuple #[.int .i64 0, .iface t v])
set_option maxRecDepth 100000 in
theorem scanEnd_no {s : ByteArray} (h : scanOk s = false) {t : TypeId} {v : Value} : scanEnd s (.returned (.tuple #[.int .i64 0, .iface t v])) := by
  unfold scanEnd; rw [if_neg (by simp [h])]; exact ⟨t, v, rfl⟩
set_option maxRecDepth 100000 in
theorem scanEnd_yes {s : ByteArray} (h : scanOk s = true) {n : Int} (hn : n = decOf s.data.toList) : scanEnd s (.returned (.tuple #[.int .i64 n, .nilIface])) := by
  unfold scanEnd; rw [if_pos h, hn]

set_option maxRecDepth 100000 in
set_option maxHeartbeats 800000 in
theorem scan_any (s : ByteArray) (w : World) (p : Addr) (hg : 2 < w.heap.size) (hc : w.cell? ⟨2, 0, none⟩ = some (.iface 114 (.pointer (some p)))) :
    Calls Tryd.prog 66 #[.string s] w fun e w' => scanEnd s e ∧ Below w.heap.size w w' := by
  by_cases h0 : 0 < s.size
  · have hE := empty_no s h0
    have hci : ∀ pos, (w.iter s pos).cell? ⟨2, 0, none⟩ = some (.iface 114 (.pointer (some p))) := fun pos => cell?_alloc_old _ hc
    clear hc
    go_enter Tryd.func66, Tryd.ntmps66
    go_wp2
    go_loopw [2, 3, 4] (fun _ _ n wr => ∃ k : Nat, k ≤ s.size ∧ wr = w.iter s k ∧ (s.data.toList.take k).all isDig = true ∧ n = .int .i64 (decOf (s.data.toList.take k)) ∧ 0 ≤ decOf (s.data.toList.take k) ∧ decOf (s.data.toList.take k) ≤ 4611686018427387904) (fun _ _ _ wr => s.size - wr.iterPos w.heap.size)
    case atStart => exact ⟨0, Nat.zero_le _, rfl, rfl, rfl, Int.le_refl _, by simp [decOf]⟩
    case round =>
      obtain ⟨k, hk, rfl, ha0, rfl, hn0, hn1⟩ := hrel
      have ha := Lib.hid ha0
      clear ha0
      by_cases hlt : k < s.size
      · have hsn := Lib.hid (dec_snoc s k hlt)
        have hov := Lib.hid (scan_over s k hlt)
        cases hd : isDig s[k]
        · have hr := rune_not s k hlt hd
          have hnx : ∀ ty, (Instr.next (.pointer (some ⟨w.heap.size, 0, none⟩)) true ty).run Tryd.prog (w.iter s k) = _ := fun ty => run_next_any w s k ty hlt
          generalize hq : Utf8.decode s k = q at hnx hr
          obtain ⟨r, wd⟩ := q
          clear hq
          go_wp2_with (go_at_call 37; refine (isDigit_any _ _).mono ?_; rintro e w' ⟨rfl, rfl⟩)
          go_quiet (fail)
          go_wp2
          go_ret2
          exact ⟨scanEnd_no (scan_bad s (digs_no s k hlt hd)), below_drewN (below_iter _ _ _) _⟩
        · obtain ⟨hdec, hr⟩ := rune_dig s k hlt hd
          have hnx : ∀ ty, (Instr.next (.pointer (some ⟨w.heap.size, 0, none⟩)) true ty).run Tryd.prog (w.iter s k) = _ := fun ty => run_next_any w s k ty hlt
          rw [hdec] at hnx
          have hb := Lib.hid (all_one s k hlt ha.out hd)
          have hg1 : (48 : Int) ≤ (s[k].toNat : Int) := by have := (isDig_iff _).1 hd; omega
          have hg2 : (s[k].toNat : Int) ≤ 57 := by have := (isDig_iff _).1 hd; omega
          clear hdec hd
          by_cases hover : (4611686018427387904 - ((s[k].toNat : Int) - 48)) / 10 < decOf (s.data.toList.take k)
          · go_wp2_with (go_at_call 37; refine (isDigit_any _ _).mono ?_; rintro e w' ⟨rfl, rfl⟩)
            go_ret2
            exact ⟨scanEnd_no (hov.out (by rw [hsn.out]; omega)), below_iter _ _ _⟩
          · go_wp2_with (go_at_call 37; refine (isDigit_any _ _).mono ?_; rintro e w' ⟨rfl, rfl⟩)
            go_roundw
            case rel => exact ⟨k + 1, by omega, rfl, hb.out, val_int hsn.out.symm, by rw [hsn.out]; omega, by rw [hsn.out]; omega⟩
            case measure => simp <;> omega
      · have hgood := Lib.hid (scan_good s k hlt h0 ha.out hn1)
        have hend := Lib.hid (congrArg decOf (take_end s k hlt))
        have hnx : ∀ ty, (Instr.next (.pointer (some ⟨w.heap.size, 0, none⟩)) true ty).run Tryd.prog (w.iter s k) = _ := fun ty => run_next_end w s k ty hlt
        go_wp2
        go_ret2
        exact ⟨scanEnd_yes hgood.out hend.out, below_iter _ _ _⟩
  · have hE := empty_yes s h0
    go_enter Tryd.func66, Tryd.ntmps66
    go_wp2
    go_quiet (fail)
    go_wp2
    go_ret2
    exact ⟨scanEnd_no (scan_bad s (digs_empty s h0)), below_drewN (Below.refl _ _) _⟩
end Go.Proofs.YtdjlhijaadombaaDoor
