/- HoldIdOk, HoldOk, Live of the program; no conditions. -/
import Derived.Test.YtnjpcbmonipaoaaHoldJ
import Derived.Test.YtnjpcbmonipaoaaRingOI
import Derived.Test.YtnjpcbmonipaoaaRune
import Derived.Test.YtnjpcbmonipaoaaDec
set_option linter.unusedVariables false
namespace Go.Proofs.Ytnjpcbmonipaoaa
open Go.ChangeShapes Go.WideShapes Go.ChangeAt Go.RowKit

set_option maxRecDepth 100000 in
theorem idCh_dig {c : UInt8} (h : isDig c = true) : idCh c = true := by
  have := (isDig_iff _).1 h
  exact decide_eq_true (.inl ⟨by omega, by omega⟩)
set_option maxRecDepth 100000 in
/-- a small letter, at a place: its character -/
theorem rune_low (s : ByteArray) (pos : Nat) (h : pos < s.size) (hd : isDig s[pos] = false) (hc : idCh s[pos] = true) : Utf8.decode s pos = (s[pos].toNat, 1) ∧ runeDig (s[pos].toNat : Int) = false ∧ (97 : Int) ≤ (s[pos].toNat : Int) ∧ (s[pos].toNat : Int) ≤ 122 := by
  have h1 := (isDig_no _).1 hd
  have h2 : 48 ≤ s[pos].toNat ∧ s[pos].toNat ≤ 57 ∨ 97 ≤ s[pos].toNat ∧ s[pos].toNat ≤ 122 := of_decide_eq_true hc
  have h3 : 97 ≤ s[pos].toNat ∧ s[pos].toNat ≤ 122 := by omega
  exact ⟨decode_ascii s pos h (by omega), by simp [runeDig]; omega, by omega, by omega⟩
set_option maxRecDepth 100000 in
/-- no sign of an id, at a place: its character -/
theorem rune_none (s : ByteArray) (pos : Nat) (h : pos < s.size) (hc : idCh s[pos] = false) : runeDig ((Utf8.decode s pos).1 : Int) = false ∧ (((Utf8.decode s pos).1 : Int) < 97 ∨ 122 < ((Utf8.decode s pos).1 : Int)) := by
  have h2 : ¬ (48 ≤ s[pos].toNat ∧ s[pos].toNat ≤ 57 ∨ 97 ≤ s[pos].toNat ∧ s[pos].toNat ≤ 122) := of_decide_eq_false hc
  rcases Nat.lt_or_ge s[pos].toNat 128 with h1 | h1
  · rw [decode_ascii s pos h h1]
    exact ⟨by simp [runeDig]; omega, by show (s[pos].toNat : Int) < 97 ∨ 122 < (s[pos].toNat : Int); omega⟩
  · have := (decode_high s pos h h1).1
    exact ⟨by simp [runeDig]; omega, .inr (by omega)⟩
set_option maxRecDepth 100000 in
theorem idOk_end {s : ByteArray} {k : Nat} (hk : ¬ k < s.size) (h : (s.data.toList.take k).all idCh = true) : idOk s = decide (0 < s.size ∧ s.size ≤ 6) := by
  rw [take_end s k hk] at h
  rw [idOk_yes h]
  unfold inB
  exact decide_eq_decide.2 ⟨fun ⟨_, _⟩ => ⟨by omega, by omega⟩, fun ⟨_, _⟩ => ⟨by omega, by omega⟩⟩
set_option maxRecDepth 100000 in
set_option maxHeartbeats 1600000 in
theorem implHoldIdOk_any (s : ByteArray) (w : World) (hs : s.size ≤ maxLen) :
    Calls Try.prog 12 #[.string s] w fun e w' => e = .returned (.bool (idOk s)) ∧ Below w.heap.size w w' := by
  unfold maxLen at hs
  go_enter Try.func12, Try.ntmps12
  go_wp2
  go_loopw [2] (fun _ wr => ∃ k : Nat, k ≤ s.size ∧ wr = w.iter s k ∧ (s.data.toList.take k).all idCh = true) (fun _ wr => s.size - wr.iterPos w.heap.size)
  case atStart => exact ⟨0, Nat.zero_le _, rfl, rfl⟩
  case round =>
    obtain ⟨k, hk, rfl, ha0⟩ := hrel
    have ha := Lib.hid ha0
    clear ha0
    by_cases hlt : k < s.size
    · cases hc : idCh s[k]
      · obtain ⟨hr, hr2⟩ := rune_none s k hlt hc
        have HF := Lib.hid (idOk_not (all_not (p := idCh) hlt hc))
        have hnx : ∀ ty, (Instr.next (.pointer (some ⟨w.heap.size, 0, none⟩)) true ty).run Try.prog (w.iter s k) = _ := fun ty => run_next_any w s k ty hlt
        generalize hq : Utf8.decode s k = q at hnx hr hr2
        obtain ⟨r, wd⟩ := q
        clear hq
        simp only at hr hr2
        rcases hr2 with hr2 | hr2
        · go_wp2_with (go_at_call 35; refine (isDigit_any _ _).mono ?_; rintro e w' ⟨rfl, rfl⟩)
          go_ret
          exact ⟨ret_bool HF.out.symm, below_iter _ _ _⟩
        · have hr3 : ¬ (r : Int) < 97 := by omega
          go_wp2_with (go_at_call 35; refine (isDigit_any _ _).mono ?_; rintro e w' ⟨rfl, rfl⟩)
          go_ret
          exact ⟨ret_bool HF.out.symm, below_iter _ _ _⟩
      · have hb := Lib.hid (all_step (p := idCh) hlt ha.out hc)
        have hnx : ∀ ty, (Instr.next (.pointer (some ⟨w.heap.size, 0, none⟩)) true ty).run Try.prog (w.iter s k) = _ := fun ty => run_next_any w s k ty hlt
        cases hd : isDig s[k]
        · obtain ⟨hdec, hr, hr2, hr3⟩ := rune_low s k hlt hd hc
          rw [hdec] at hnx
          clear hdec hd hc
          go_wp2_with (go_at_call 35; refine (isDigit_any _ _).mono ?_; rintro e w' ⟨rfl, rfl⟩)
          go_roundw
          case rel => exact ⟨k + 1, by omega, rfl, hb.out⟩
          case measure => simp <;> omega
        · obtain ⟨hdec, hr⟩ := rune_dig s k hlt hd
          rw [hdec] at hnx
          clear hdec hd hc
          go_wp2_with (go_at_call 35; refine (isDigit_any _ _).mono ?_; rintro e w' ⟨rfl, rfl⟩)
          go_roundw
          case rel => exact ⟨k + 1, by omega, rfl, hb.out⟩
          case measure => simp <;> omega
    · have HV := Lib.hid (idOk_end hlt ha.out)
      have hnx : ∀ ty, (Instr.next (.pointer (some ⟨w.heap.size, 0, none⟩)) true ty).run Try.prog (w.iter s k) = _ := fun ty => run_next_end w s k ty hlt
      by_cases h0 : 0 < s.size
      · have hE := empty_no s h0
        go_wp2
        go_ret
        exact ⟨ret_bool (by rw [HV.out]; exact decide_eq_decide.2 ⟨fun _ => ⟨h0, by omega⟩, fun _ => by omega⟩), below_iter _ _ _⟩
      · have hE := empty_yes s h0
        go_wp2
        go_ret
        exact ⟨ret_bool (by rw [HV.out]; exact (decide_eq_false (fun h => h0 h.1)).symm), below_iter _ _ _⟩
set_option maxRecDepth 100000 in
set_option maxHeartbeats 1600000 in
theorem implHoldOk_any (x : HoldD) (w : World) (hs : x.1.size ≤ maxLen) :
    Calls Try.prog 16 #[.agg #[.string x.1, .int .i64 x.2.1, .int .i64 x.2.2]] w fun e w' => e = .returned (.bool (holdOk x)) ∧ Below w.heap.size w w' := by
  obtain ⟨id, am, du⟩ := x
  have HI := Lib.hid (fun w => implHoldIdOk_any id w hs)
  have HT := Lib.hid (fun w => implTime_any du w)
  have HD : Hid (holdOk (id, am, du) = (idOk id && (inB am 1 9007199254740992 && timeB du))) := Lib.hid rfl
  have HA1 : Hid (inB am 1 9007199254740992 = (decide (1 ≤ am) && decide (am ≤ 9007199254740992))) := Lib.hid (Bool.decide_and ..)
  clear hs
  generalize idOk id = b1 at HI HD
  generalize timeB du = b3 at HT HD
  obtain ⟨W, hW⟩ : ∃ W, W = w.alloc (.cells #[.string id, .int .i64 am, .int .i64 du] 27) := ⟨_, rfl⟩
  have b0 : bk W w.heap.size 27 [.string id, .int .i64 am, .int .i64 du] := by rw [hW]; exact bk.new w _ _
  have HB0 : Hid (Below w.heap.size w W) := Lib.hid (by rw [hW]; exact (Below.refl _ _).alloc (Nat.le_refl _) _)
  have z0 := b0.lt
  go_enter Try.func16, Try.ntmps16
  go_upto_region 1 with fail
  rw [← hW]
  clear hW
  obtain ⟨p0, p1, p2⟩ := b0.cells3
  go_wp2_with fail
  refine (HI.out _).mono ?_
  rintro e w1 ⟨rfl, hb1⟩
  have HB1 : Hid (Below w.heap.size w w1) := Lib.hid (HB0.out.trans (hb1.mono (by omega)))
  replace b0 := b0.below hb1 z0
  clear hb1 p0 p1 p2
  obtain ⟨p0, p1, p2⟩ := b0.cells3
  clear b0
  cases b1
  · have HV : Hid (holdOk (id, am, du) = false) := Lib.hid (by rw [HD.out]; rfl)
    go_wp2
    go_ret
    exact ⟨ret_bool HV.out.symm, HB1.out⟩
  by_cases h1 : 1 ≤ am
  · by_cases h2 : am ≤ 9007199254740992
    · have HV : Hid (holdOk (id, am, du) = b3) := Lib.hid (by rw [HD.out, HA1.out, decide_eq_true h1, decide_eq_true h2]; rfl)
      go_wp2_with fail
      refine (HT.out _).mono ?_
      rintro e w2 ⟨rfl, rfl⟩
      go_wp2
      go_ret
      exact ⟨ret_bool HV.out.symm, HB1.out⟩
    · have HV : Hid (holdOk (id, am, du) = false) := Lib.hid (by rw [HD.out, HA1.out, decide_eq_false h2, Bool.and_false]; rfl)
      go_wp2
      go_ret
      exact ⟨ret_bool HV.out.symm, HB1.out⟩
  · have HV : Hid (holdOk (id, am, du) = false) := Lib.hid (by rw [HD.out, HA1.out, decide_eq_false h1]; rfl)
    go_wp2
    go_ret
    exact ⟨ret_bool HV.out.symm, HB1.out⟩
set_option maxRecDepth 100000 in
theorem implLive_any (x : HoldD) (now : Int) (w : World) :
    Calls Try.prog 23 #[.agg #[.string x.1, .int .i64 x.2.1, .int .i64 x.2.2], .int .i64 now] w fun e w' => e = .returned (.bool (live now x)) ∧ Below w.heap.size w w' := by
  have HB0 : Hid (Below w.heap.size w (w.alloc (.cells #[.string x.1, .int .i64 x.2.1, .int .i64 x.2.2] 27))) := Lib.hid ((Below.refl _ _).alloc (Nat.le_refl _) _)
  go_enter Try.func23, Try.ntmps23
  go_wp2
  go_ret
  exact ⟨rfl, HB0.out⟩
end Go.Proofs.Ytnjpcbmonipaoaa
