/- GetField of both; the sentinel of the number scanner holds an error. -/
import Derived.Test.YtkkbhlaakhkjnaaDoorPutImpl
set_option linter.unusedVariables false
namespace Go.Proofs.YtkkbhlaakhkjnaaDoor
open Go.ChangeShapes Go.WideShapes Go.ChangeAt Go.RowKit

/-- a text, an offset and whether there is one -/
def trip (ok : Bool) (t : List UInt8) (e : Int) : Ending := .returned (.tuple #[.string ⟨(if ok = true then t else []).toArray⟩, .int .i64 (if ok = true then e else 0), .bool ok])
set_option maxRecDepth 100000 in
theorem trip_no {t : List UInt8} {e : Int} : trip false t e = .returned (.tuple #[.string ⟨#[]⟩, .int .i64 0, .bool false]) := rfl
set_option maxRecDepth 100000 in
theorem trip_yes {t : List UInt8} {e : Int} : trip true t e = .returned (.tuple #[.string ⟨t.toArray⟩, .int .i64 e, .bool true]) := rfl
set_option maxRecDepth 100000 in
theorem trip_form (ok : Bool) (t : List UInt8) (e : Int) : ∃ (s : ByteArray) (x : Int) (b : Bool), trip ok t e = .returned (.tuple #[.string s, .int .i64 x, .bool b]) := ⟨_, _, _, rfl⟩
set_option maxRecDepth 100000 in
theorem trip_of {ok : Bool} {t : List UInt8} {e : Int} (h : ok = false) : trip ok t e = .returned (.tuple #[.string ⟨#[]⟩, .int .i64 0, .bool false]) := by subst h; rfl
set_option maxRecDepth 100000 in
theorem trip_on {ok : Bool} {t : List UInt8} {e : Int} (h : ok = true) : trip ok t e = .returned (.tuple #[.string ⟨t.toArray⟩, .int .i64 e, .bool true]) := by subst h; rfl
set_option maxRecDepth 100000 in
theorem gRes_trip (l : List Int) (a n : Int) : gRes l a n = trip (gOk l a n) (gTxt l a n) (gEnd l a n) := by
  cases h : gOk l a n
  · rw [gRes_no h, trip_no]
  · rw [gRes, h, trip_yes]
set_option maxRecDepth 100000 in
theorem fSize_pos {no : Int} (h : fKind no ≠ 0) : 1 ≤ fSize no := by
  unfold fKind at h
  unfold fSize
  repeat' (split at h <;> try omega)
  all_goals repeat' (split <;> try omega)
def inR (l : List Int) (a n : Int) : Bool := decide (0 ≤ a) && decide (0 ≤ n) && decide (a + n ≤ l.length)
def tPart (l : List Int) (a n : Int) : List UInt8 := ((l.drop a.toNat).take n.toNat).map byteOf
set_option maxRecDepth 100000 in
theorem inR_yes {l : List Int} {a n : Int} (h : inR l a n = true) : 0 ≤ a ∧ 0 ≤ n ∧ a + n ≤ l.length := by
  simp only [inR, Bool.and_eq_true, decide_eq_true_eq] at h; exact ⟨h.1.1, h.1.2, h.2⟩
set_option maxRecDepth 100000 in
theorem inR_no {l : List Int} {a n : Int} (h : a < 0 ∨ n < 0 ∨ (l.length : Int) < a + n) : inR l a n = false := by
  cases hq : inR l a n
  · rfl
  · have := inR_yes hq; omega
set_option maxRecDepth 100000 in
theorem tPart_len {l : List Int} {a n : Int} (h : inR l a n = true) : (tPart l a n).length = n.toNat := by
  have := inR_yes h
  unfold tPart
  rw [List.length_map, List.length_take, List.length_drop]
  omega
set_option maxRecDepth 100000 in
theorem tPart_le (l : List Int) (a n : Int) : (tPart l a n).length ≤ l.length := by
  unfold tPart
  rw [List.length_map, List.length_take, List.length_drop]
  omega
set_option maxRecDepth 100000 in
theorem gOk_in {l : List Int} {a n : Int} (h : gOk l a n = true) : gIn l a n = true ∧ small (gPart l a n) = true ∧ (n % 2 = 0 ∨ halfAt (gPart l a n) 0 = 0) := by
  simp only [gOk, Bool.and_eq_true, Bool.or_eq_true, decide_eq_true_eq] at h
  exact ⟨h.1.1, h.1.2, h.2⟩
set_option maxRecDepth 100000 in
theorem gIn_bd {l : List Int} {a n : Int} (h : gIn l a n = true) : 1 ≤ n ∧ n ≤ 38 ∧ 0 ≤ a ∧ a + (n + 1) / 2 ≤ l.length := by
  simp only [gIn, Bool.and_eq_true, decide_eq_true_eq] at h; exact ⟨h.1.1.1, h.1.1.2, h.1.2, h.2⟩
set_option maxRecDepth 100000 in
theorem gTxt_ok {l : List Int} {a n : Int} (hl : isBytes l) (h : gOk l a n = true) : ((gTxt l a n).length : Int) = n ∧ digs ⟨(gTxt l a n).toArray⟩ = true := by
  obtain ⟨hi, hs, hz⟩ := gOk_in h
  have hb := gIn_bd hi
  have hp := gPart_len hi
  have hpb := gPart_bytes hl a n
  have hlen : ((gTxt l a n).length : Int) = n := by
    unfold gTxt
    rw [if_pos h]
    split
    · rw [List.length_drop, decN_len, hp]; omega
    · rw [decN_len, hp]; omega
  refine ⟨hlen, ?_⟩
  rw [digs_list _ (by omega)]
  unfold gTxt
  rw [if_pos h]
  split
  · next ho =>
    rw [all_tail hpb (by rw [hp]; omega) (by omega), hs]
  · rw [all_dec hpb, hs]
set_option maxRecDepth 100000 in
theorem lenEnd_bd (l : List Int) (a d : Int) : 0 ≤ lenEnd l a d ∧ lenEnd l a d ≤ l.length := by
  unfold lenEnd gEnd
  split
  · split
    · next h =>
      have := gIn_bd (gOk_in h).1
      omega
    · omega
  · omega
set_option maxRecDepth 100000 in
theorem lenVal_bd (l : List Int) (a d : Int) : 0 ≤ lenVal l a d ∧ lenVal l a d ≤ 999999999999999999 := by
  unfold lenVal narVal
  split
  · split
    · next h =>
      have := nar_scan h
      exact ⟨dec_pos _ (digs_all this.2.2.1), this.2.1⟩
    · omega
  · omega
set_option maxRecDepth 100000 in
theorem lenRes_trip (l : List Int) (a d : Int) : lenRes l a d = .returned (.tuple #[.int .i64 (lenVal l a d), .int .i64 (lenEnd l a d), .bool (lenGot l a d)]) := rfl
set_option maxRecDepth 100000 in
theorem lenGot_neg {l : List Int} {a d : Int} (h : a < 0) : lenGot l a d = false := by
  unfold lenGot
  rw [gOk_out (gIn_no (.inr (.inr (.inl h)))), Bool.and_false]

set_option maxRecDepth 100000 in
theorem bytesAt_out (hi : Nat) (v : Value) (l : List Int) (at' : Int) (n : Nat) (w : World) (hn : l.length ≤ 1073741824) (hn' : n ≤ 1000000000000000000) (h : rd .u8 hi w v l) (hbad : at' < 0 ∨ (l.length : Int) - n < at') :
    Calls Tryd.prog 40 #[v, .int .i64 at', .int .i64 (n : Int)] w fun e w' => e = .returned (.tuple #[.slice none 0 0, .bool false]) ∧ w = w' := by
  obtain ⟨A, c, rfl, hc, -⟩ := h
  by_cases h0 : at' < 0
  · go_enter Tryd.func40, Tryd.ntmps40
    go_wp2
    go_ret2
    exact ⟨rfl, rfl⟩
  · have h1 : (l.length : Int) - n < at' := by omega
    clear hbad
    go_enter Tryd.func40, Tryd.ntmps40
    go_wp2
    go_ret2
    exact ⟨rfl, rfl⟩
set_option maxRecDepth 100000 in
set_option maxHeartbeats 800000 in
theorem bytesAt_in (hi : Nat) (v : Value) (l : List Int) (a n : Nat) (w : World) (hn : l.length ≤ 1073741824) (h : rd .u8 hi w v l) (han : a + n ≤ l.length) :
    Calls Tryd.prog 40 #[v, .int .i64 (a : Int), .int .i64 (n : Int)] w fun e w' => ∃ u, e = .returned (.tuple #[u, .bool true]) ∧ rd .u8 hi w u ((l.drop a).take n) ∧ w = w' := by
  obtain ⟨A, c, rfl, hc, hj⟩ := h
  by_cases hl0 : l.length = 0
  · have hl : l = [] := List.eq_nil_of_length_eq_zero hl0
    subst hl
    obtain rfl : a = 0 := by simp at han; omega
    obtain rfl : n = 0 := by simp at han; omega
    have q3 : (0 : Int) ≤ (c : Int) := by omega
    clear hj hl0
    cases A with
    | none =>
      go_enter Tryd.func40, Tryd.ntmps40
      go_wp2
      go_ret2
      exact ⟨_, rfl, ⟨none, c, rfl, by simp, fun j hj => by simp at hj⟩, rfl⟩
    | some ad =>
      by_cases hc0 : c = 0
      · subst hc0
        go_enter Tryd.func40, Tryd.ntmps40
        go_wp2
        go_ret2
        exact ⟨_, rfl, ⟨_, _, rfl, by simp, fun j hj => by simp at hj⟩, rfl⟩
      · go_enter Tryd.func40, Tryd.ntmps40
        go_wp2
        go_ret2
        exact ⟨_, rfl, ⟨_, _, rfl, by simp, fun j hj => by simp at hj⟩, rfl⟩
  obtain ⟨b, off, rfl, hb, -⟩ := hj 0 (by omega)
  have hj' : ∀ j, j < l.length → w.cell? ⟨b, off + j, none⟩ = some (.int .u8 (l.getD j 0)) := fun j hjl => by
    obtain ⟨b', off', e, _, hx⟩ := hj j hjl
    simp only [Option.some.injEq, Addr.mk.injEq, and_true] at e
    obtain ⟨rfl, rfl⟩ := e
    exact hx
  have HR := Lib.hid (rd_part hj' hb hc han)
  have q1 : (0 : Int) ≤ (a : Int) := by omega
  have q2 : (a : Int) + (n : Int) ≤ (c : Int) := by omega
  have q3 : (a : Int) ≤ (a : Int) + (n : Int) := by omega
  have HA := Lib.hid han
  clear hj hj'
  by_cases hca : c = a
  · have HX := Lib.hid hca
    obtain rfl : n = 0 := by omega
    go_enter Tryd.func40, Tryd.ntmps40
    go_wp2
    go_ret2
    refine ⟨_, rfl, ?_, rfl⟩
    exact ⟨some ⟨b, off, none⟩, c - a, by simp; have := HX.out; omega, by simp, fun j hj => by simp at hj⟩
  · go_enter Tryd.func40, Tryd.ntmps40
    go_wp2
    go_ret2
    refine ⟨_, rfl, ?_, rfl⟩
    show rd .u8 hi w (.slice (some ⟨b, off + a, none⟩) (a + n - a) (c - a)) _
    rw [Nat.add_sub_cancel_left]
    exact HR.out

end Go.Proofs.YtkkbhlaakhkjnaaDoor
