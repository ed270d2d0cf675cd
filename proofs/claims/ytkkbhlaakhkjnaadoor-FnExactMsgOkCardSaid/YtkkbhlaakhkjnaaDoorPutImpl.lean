/- PutField of the program; the table of powers of ten lies as Go's text lays it. -/
import Derived.Test.YtkkbhlaakhkjnaaDoorPutField
import Derived.Laws.EntriesVeiled
import Derived.LaidMore
set_option linter.unusedVariables false
namespace Go.Proofs.YtkkbhlaakhkjnaaDoor
open Go.ChangeShapes Go.WideShapes Go.ChangeAt Go.RowKit

set_option maxRecDepth 100000 in
theorem rowV_zero {no : Int} (h : fKind no = 0) : rowV no = .agg #[.int .i64 0, .int .i64 0, .int .i64 0, .nilFunc, .nilFunc] := by rw [rowV, if_pos h]
set_option maxRecDepth 100000 in
theorem rowV_yes {no : Int} (h : fKind no ≠ 0) : rowV no = .agg #[.int .i64 no, .int .i64 (fSize no), .int .i64 (fKind no), .func (.func (putId (fKind no))) #[] #[], .func (.func (getId (fKind no))) #[] #[]] := by rw [rowV, if_neg h, rowCells]
set_option maxRecDepth 100000 in
theorem putText_any (s : ByteArray) (w : World) : Calls Tryd.prog 31 #[.string s] w (resF (bytesL s) true w) := by
  have hcv := fun W => Lib.run_convert_string_bytes (P := Tryd.prog) W 9 58 5 s Tryd.underlying9 Tryd.underlying58 Tryd.underlying5
  have HN := Lib.hid (bytesW_nums w 5 s)
  have HZ := Lib.hid (Lib.bytesWorld_size w 5 s)
  have HB := Lib.hid (bytesW_below w 5 s)
  go_enter Tryd.func31, Tryd.ntmps31
  go_wp2
  go_ret2
  refine ⟨_, rfl, ?_, HB.out⟩
  rw [HZ.out]
  exact HN.out
set_option maxRecDepth 100000 in
theorem putBcd_F (s : ByteArray) (w : World) (hs : s.size ≤ 1073741824) (hb : bcdOk s = true) : Calls Tryd.prog 29 #[.string s] w (resF (bcd s) true w) :=
  (implPutBcd_any s w hs).mono fun e w' h => by
    obtain ⟨v, he, ho, hb'⟩ := h
    rw [hb] at he
    exact ⟨v, he, ho.nums, hb'⟩

set_option maxRecDepth 100000 in
set_option maxHeartbeats 800000 in
theorem behind_bcd2 (s : ByteArray) (w : World) (hs : s.size ≤ 60) (hb0 : bcdOk s = true) (htab : Lib.TabIs Tryd.prog w "internal/strconv.uint64pow10" .u64 Lib.pow10Tab) :
    Calls Tryd.prog 42 #[.string s, .int .i64 2, .func (.func 29) #[] #[]] w (resF (putLen (s.size : Int) 2 ++ bcd s) true w) := by
  have hok := (putLenOk_60 s.size (by omega)).1
  have HT := Lib.hid htab
  have HK := Lib.hid hok
  have hl1 := putLen_len (s.size : Int) 2
  have hl2 : (bcd s).length ≤ 60 := by have := bcd_len s; omega
  have HB0 := Lib.hid hb0
  clear hb0
  clear htab hok
  go_enter Tryd.func42, Tryd.ntmps42
  go_wp2_with fail
  refine (implPutLen_any _ _ _ (by omega) (by omega) HT.out).mono ?_
  rw [HK.out]
  rintro e w1 ⟨u1, rfl, hu1, hb1⟩
  have HU1 := Lib.hid hu1
  have hz1 := hb1.size
  have HB1 := Lib.hid hb1
  clear hu1 hb1
  go_wp2_with fail
  refine (putBcd_F s _ (by omega) HB0.out).mono ?_
  rintro e w2 ⟨u2, rfl, hu2, hb2⟩
  have HU2 := Lib.hid hu2
  have HH := Lib.hid (HU1.out.below hb2 (Nat.le_refl _))
  have hB2 := HB1.out.trans (hb2.mono hz1)
  have hz2 := hB2.size
  have HB2 := Lib.hid hB2
  clear hu2 hb2 hB2 HU1
  go_wp2_with (at_builtin; refine app_all w2 rfl _ _ 58 rfl w.heap.size 5 .u8 1 Tryd.underlying58 infoU8c _ (putLen (s.size : Int) 2) rfl HH.out w2.heap.size _ (bcd s) (by rfl) HU2.out.rd (by unfold maxLen; omega) (by omega) hz2 ?_)
  intro v' w3 hown hg hb3
  have HO3 := Lib.hid hown
  clear hown hg
  go_wp2
  go_ret2
  exact ⟨_, rfl, HO3.out.nums, HB2.out.trans hb3⟩

set_option maxRecDepth 100000 in
set_option maxHeartbeats 800000 in
theorem behind_text2 (s : ByteArray) (w : World) (hs : s.size ≤ 60)  (htab : Lib.TabIs Tryd.prog w "internal/strconv.uint64pow10" .u64 Lib.pow10Tab) :
    Calls Tryd.prog 42 #[.string s, .int .i64 2, .func (.func 31) #[] #[]] w (resF (putLen (s.size : Int) 2 ++ bytesL s) true w) := by
  have hok := (putLenOk_60 s.size (by omega)).1
  have HT := Lib.hid htab
  have HK := Lib.hid hok
  have hl1 := putLen_len (s.size : Int) 2
  have hl2 : (bytesL s).length ≤ 60 := by rw [bytesL_len]; exact hs
  skip
  clear htab hok
  go_enter Tryd.func42, Tryd.ntmps42
  go_wp2_with fail
  refine (implPutLen_any _ _ _ (by omega) (by omega) HT.out).mono ?_
  rw [HK.out]
  rintro e w1 ⟨u1, rfl, hu1, hb1⟩
  have HU1 := Lib.hid hu1
  have hz1 := hb1.size
  have HB1 := Lib.hid hb1
  clear hu1 hb1
  go_wp2_with fail
  refine (putText_any s _).mono ?_
  rintro e w2 ⟨u2, rfl, hu2, hb2⟩
  have HU2 := Lib.hid hu2
  have HH := Lib.hid (HU1.out.below hb2 (Nat.le_refl _))
  have hB2 := HB1.out.trans (hb2.mono hz1)
  have hz2 := hB2.size
  have HB2 := Lib.hid hB2
  clear hu2 hb2 hB2 HU1
  go_wp2_with (at_builtin; refine app_all w2 rfl _ _ 58 rfl w.heap.size 5 .u8 1 Tryd.underlying58 infoU8c _ (putLen (s.size : Int) 2) rfl HH.out w2.heap.size _ (bytesL s) (by rfl) HU2.out.rd (by unfold maxLen; omega) (by omega) hz2 ?_)
  intro v' w3 hown hg hb3
  have HO3 := Lib.hid hown
  clear hown hg
  go_wp2
  go_ret2
  exact ⟨_, rfl, HO3.out.nums, HB2.out.trans hb3⟩

set_option maxRecDepth 100000 in
set_option maxHeartbeats 800000 in
theorem behind_text3 (s : ByteArray) (w : World) (hs : s.size ≤ 60)  (htab : Lib.TabIs Tryd.prog w "internal/strconv.uint64pow10" .u64 Lib.pow10Tab) :
    Calls Tryd.prog 42 #[.string s, .int .i64 3, .func (.func 31) #[] #[]] w (resF (putLen (s.size : Int) 3 ++ bytesL s) true w) := by
  have hok := (putLenOk_60 s.size (by omega)).2
  have HT := Lib.hid htab
  have HK := Lib.hid hok
  have hl1 := putLen_len (s.size : Int) 3
  have hl2 : (bytesL s).length ≤ 60 := by rw [bytesL_len]; exact hs
  skip
  clear htab hok
  go_enter Tryd.func42, Tryd.ntmps42
  go_wp2_with fail
  refine (implPutLen_any _ _ _ (by omega) (by omega) HT.out).mono ?_
  rw [HK.out]
  rintro e w1 ⟨u1, rfl, hu1, hb1⟩
  have HU1 := Lib.hid hu1
  have hz1 := hb1.size
  have HB1 := Lib.hid hb1
  clear hu1 hb1
  go_wp2_with fail
  refine (putText_any s _).mono ?_
  rintro e w2 ⟨u2, rfl, hu2, hb2⟩
  have HU2 := Lib.hid hu2
  have HH := Lib.hid (HU1.out.below hb2 (Nat.le_refl _))
  have hB2 := HB1.out.trans (hb2.mono hz1)
  have hz2 := hB2.size
  have HB2 := Lib.hid hB2
  clear hu2 hb2 hB2 HU1
  go_wp2_with (at_builtin; refine app_all w2 rfl _ _ 58 rfl w.heap.size 5 .u8 1 Tryd.underlying58 infoU8c _ (putLen (s.size : Int) 3) rfl HH.out w2.heap.size _ (bytesL s) (by rfl) HU2.out.rd (by unfold maxLen; omega) (by omega) hz2 ?_)
  intro v' w3 hown hg hb3
  have HO3 := Lib.hid hown
  clear hown hg
  go_wp2
  go_ret2
  exact ⟨_, rfl, HO3.out.nums, HB2.out.trans hb3⟩

set_option maxRecDepth 100000 in
theorem putNumVar_any (s : ByteArray) (w : World) (hs : s.size ≤ 60) (hb0 : bcdOk s = true) (htab : Lib.TabIs Tryd.prog w "internal/strconv.uint64pow10" .u64 Lib.pow10Tab) :
    Calls Tryd.prog 33 #[.string s] w (resF (putLen (s.size : Int) 2 ++ bcd s) true w) := by
  have H := Lib.hid (behind_bcd2 s w hs hb0 htab)
  clear htab hb0
  go_enter Tryd.func33, Tryd.ntmps33
  go_wp2_with fail
  refine H.out.mono ?_
  rintro e w1 ⟨u, rfl, hu, hb⟩
  have HU := Lib.hid hu
  clear hu
  go_wp2
  go_ret2
  exact ⟨_, rfl, HU.out, hb⟩

set_option maxRecDepth 100000 in
theorem putTextVar_any (s : ByteArray) (w : World) (hs : s.size ≤ 60)  (htab : Lib.TabIs Tryd.prog w "internal/strconv.uint64pow10" .u64 Lib.pow10Tab) :
    Calls Tryd.prog 35 #[.string s] w (resF (putLen (s.size : Int) 2 ++ bytesL s) true w) := by
  have H := Lib.hid (behind_text2 s w hs htab)
  clear htab 
  go_enter Tryd.func35, Tryd.ntmps35
  go_wp2_with fail
  refine H.out.mono ?_
  rintro e w1 ⟨u, rfl, hu, hb⟩
  have HU := Lib.hid hu
  clear hu
  go_wp2
  go_ret2
  exact ⟨_, rfl, HU.out, hb⟩

set_option maxRecDepth 100000 in
theorem putTextLong_any (s : ByteArray) (w : World) (hs : s.size ≤ 60)  (htab : Lib.TabIs Tryd.prog w "internal/strconv.uint64pow10" .u64 Lib.pow10Tab) :
    Calls Tryd.prog 37 #[.string s] w (resF (putLen (s.size : Int) 3 ++ bytesL s) true w) := by
  have H := Lib.hid (behind_text3 s w hs htab)
  clear htab 
  go_enter Tryd.func37, Tryd.ntmps37
  go_wp2_with fail
  refine H.out.mono ?_
  rintro e w1 ⟨u, rfl, hu, hb⟩
  have HU := Lib.hid hu
  clear hu
  go_wp2
  go_ret2
  exact ⟨_, rfl, HU.out, hb⟩

set_option maxRecDepth 100000 in
theorem putFL_len (no : Int) (s : ByteArray) (hs : s.size ≤ 1048576) : (putFL no s).length ≤ 1048700 := by
  unfold putFL
  split
  · unfold putBody
    have h1 := bcd_len s
    have h2 := bytesL_len s
    have h3 := putLen_len (s.size : Int) 2
    have h4 := putLen_len (s.size : Int) 3
    repeat' split
    all_goals (try rw [List.length_append])
    all_goals omega
  · simp
set_option maxRecDepth 100000 in
theorem tab_lt {w : World} (htab : Lib.TabIs Tryd.prog w "internal/strconv.uint64pow10" .u64 Lib.pow10Tab) : 2 < w.heap.size := by
  unfold Lib.TabIs World.var? at htab
  rw [show Tryd.prog.globalNamed "internal/strconv.uint64pow10" = some 2 by kernel_rfl] at htab
  rcases Nat.lt_or_ge 2 w.heap.size with h | h
  · exact h
  · simp [Array.getElem?_eq_none h] at htab
end Go.Proofs.YtkkbhlaakhkjnaaDoor
