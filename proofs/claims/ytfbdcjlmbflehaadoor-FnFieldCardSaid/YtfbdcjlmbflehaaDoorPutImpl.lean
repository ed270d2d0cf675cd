/- PutField of the program; the table of powers of ten lies as Go's text lays it. -/
import Derived.Test.YtfbdcjlmbflehaaDoorPutField
import Derived.Laws.EntriesVeiled
import Derived.LaidMore
set_option linter.unusedVariables false
namespace Go.Proofs.YtfbdcjlmbflehaaDoor
open Go.ChangeShapes Go.WideShapes Go.ChangeAt Go.RowKit

set_option maxRecDepth 100000 in
theorem rowV_zero {no : Int} (h : fKind no = 0) : rowV no = .agg #[.int .i64 0, .int .i64 0, .int .i64 0, .nilFunc, .nilFunc] := by rw [rowV, if_pos h]
set_option maxRecDepth 100000 in
theorem rowV_yes {no : Int} (h : fKind no ≠ 0) : rowV no = .agg #[.int .i64 no, .int .i64 (fSize no), .int .i64 (fKind no), .func (.func (putId (fKind no))) #[] #[], .func (.func (getId (fKind no))) #[] #[]] := by rw [rowV, if_neg h, rowCells]
set_option maxRecDepth 100000 in
theorem putText_any (s : ByteArray) (w : World) : Calls Tryd.prog 65 #[.string s] w (resF (bytesL s) true w) := by
  have hcv := fun W => Lib.run_convert_string_bytes (P := Tryd.prog) W 9 22 5 s Tryd.underlying9 Tryd.underlying22 Tryd.underlying5
  have HN := Lib.hid (bytesW_nums w 5 s)
  have HZ := Lib.hid (Lib.bytesWorld_size w 5 s)
  have HB := Lib.hid (bytesW_below w 5 s)
  go_enter Tryd.func65, Tryd.ntmps65
  go_wp2
  go_ret2
  refine ⟨_, rfl, ?_, HB.out⟩
  rw [HZ.out]
  exact HN.out
set_option maxRecDepth 100000 in
theorem putBcd_F (s : ByteArray) (w : World) (hs : s.size ≤ 1073741824) (hb : bcdOk s = true) : Calls Tryd.prog 63 #[.string s] w (resF (bcd s) true w) :=
  (implPutBcd_any s w hs).mono fun e w' h => by
    obtain ⟨v, he, ho, hb'⟩ := h
    rw [hb] at he
    exact ⟨v, he, ho.nums, hb'⟩

set_option maxRecDepth 100000 in
set_option maxHeartbeats 800000 in
theorem behind_bcd2 (s : ByteArray) (w : World) (hs : s.size ≤ 60) (hb0 : bcdOk s = true) (htab : Lib.TabIs Tryd.prog w "internal/strconv.uint64pow10" .u64 Lib.pow10Tab) :
    Calls Tryd.prog 88 #[.string s, .int .i64 2, .func (.func 63) #[] #[]] w (resF (putLen (s.size : Int) 2 ++ bcd s) true w) := by
  have hok := (putLenOk_60 s.size (by omega)).1
  have HT := Lib.hid htab
  have HK := Lib.hid hok
  have hl1 := putLen_len (s.size : Int) 2
  have hl2 : (bcd s).length ≤ 60 := by have := bcd_len s; omega
  have HB0 := Lib.hid hb0
  clear hb0
  clear htab hok
  go_enter Tryd.func88, Tryd.ntmps88
  go_wp2_with fail
  refine (implPutLen_any _ _ _ (by omega) (by omega) HT.out).mono ?_
  rw [HK.out]
  rintro e w1 ⟨u1, rfl, hu1, hb1⟩
  have HU1 := Lib.hid hu1
  have hz1 := hb1.size
  have HB1 := Lib.hid hb1
  clear hu1 hb1
  go_wp2_with fail
  refine (putBcd_F s _ (by omega) HB0.out).mono ?_
  rintro e w2 ⟨u2, rfl, hu2, hb2⟩
  have HU2 := Lib.hid hu2
  have HH := Lib.hid (HU1.out.below hb2 (Nat.le_refl _))
  have hB2 := HB1.out.trans (hb2.mono hz1)
  have hz2 := hB2.size
  have HB2 := Lib.hid hB2
  clear hu2 hb2 hB2 HU1
  go_wp2_with (at_builtin; refine app_all w2 rfl _ _ 22 rfl w.heap.size 5 .u8 1 Tryd.underlying22 infoU8c _ (putLen (s.size : Int) 2) rfl HH.out w2.heap.size _ (bcd s) (by rfl) HU2.out.rd (by unfold maxLen; omega) (by omega) hz2 ?_)
  intro v' w3 hown hg hb3
  have HO3 := Lib.hid hown
  clear hown hg
  go_wp2
  go_ret2
  exact ⟨_, rfl, HO3.out.nums, HB2.out.trans hb3⟩

set_option maxRecDepth 100000 in
set_option maxHeartbeats 800000 in
theorem behind_text2 (s : ByteArray) (w : World) (hs : s.size ≤ 60)  (htab : Lib.TabIs Tryd.prog w "internal/strconv.uint64pow10" .u64 Lib.pow10Tab) :
    Calls Tryd.prog 88 #[.string s, .int .i64 2, .func (.func 65) #[] #[]] w (resF (putLen (s.size : Int) 2 ++ bytesL s) true w) := by
  have hok := (putLenOk_60 s.size (by omega)).1
  have HT := Lib.hid htab
  have HK := Lib.hid hok
  have hl1 := putLen_len (s.size : Int) 2
  have hl2 : (bytesL s).length ≤ 60 := by rw [bytesL_len]; exact hs
  skip
  clear htab hok
  go_enter Tryd.func88, Tryd.ntmps88
  go_wp2_with fail
  refine (implPutLen_any _ _ _ (by omega) (by omega) HT.out).mono ?_
  rw [HK.out]
  rintro e w1 ⟨u1, rfl, hu1, hb1⟩
  have HU1 := Lib.hid hu1
  have hz1 := hb1.size
  have HB1 := Lib.hid hb1
  clear hu1 hb1
  go_wp2_with fail
  refine (putText_any s _).mono ?_
  rintro e w2 ⟨u2, rfl, hu2, hb2⟩
  have HU2 := Lib.hid hu2
  have HH := Lib.hid (HU1.out.below hb2 (Nat.le_refl _))
  have hB2 := HB1.out.trans (hb2.mono hz1)
  have hz2 := hB2.size
  have HB2 := Lib.hid hB2
  clear hu2 hb2 hB2 HU1
  go_wp2_with (at_builtin; refine app_all w2 rfl _ _ 22 rfl w.heap.size 5 .u8 1 Tryd.underlying22 infoU8c _ (putLen (s.size : Int) 2) rfl HH.out w2.heap.size _ (bytesL s) (by rfl) HU2.out.rd (by unfold maxLen; omega) (by omega) hz2 ?_)
  intro v' w3 hown hg hb3
  have HO3 := Lib.hid hown
  clear hown hg
  go_wp2
  go_ret2
  exact ⟨_, rfl, HO3.out.nums, HB2.out.trans hb3⟩

set_option maxRecDepth 100000 in
set_option maxHeartbeats 800000 in
theorem behind_text3 (s : ByteArray) (w : World) (hs : s.size ≤ 60)  (htab : Lib.TabIs Tryd.prog w "internal/strconv.uint64pow10" .u64 Lib.pow10Tab) :
    Calls Tryd.prog 88 #[.string s, .int .i64 3, .func (.func 65) #[] #[]] w (resF (putLen (s.size : Int) 3 ++ bytesL s) true w) := by
  have hok := (putLenOk_60 s.size (by omega)).2
  have HT := Lib.hid htab
  have HK := Lib.hid hok
  have hl1 := putLen_len (s.size : Int) 3
  have hl2 : (bytesL s).length ≤ 60 := by rw [bytesL_len]; exact hs
  skip
  clear htab hok
  go_enter Tryd.func88, Tryd.ntmps88
  go_wp2_with fail
  refine (implPutLen_any _ _ _ (by omega) (by omega) HT.out).mono ?_
  rw [HK.out]
  rintro e w1 ⟨u1, rfl, hu1, hb1⟩
  have HU1 := Lib.hid hu1
  have hz1 := hb1.size
  have HB1 := Lib.hid hb1
  clear hu1 hb1
  go_wp2_with fail
  refine (putText_any s _).mono ?_
  rintro e w2 ⟨u2, rfl, hu2, hb2⟩
  have HU2 := Lib.hid hu2
  have HH := Lib.hid (HU1.out.below hb2 (Nat.le_refl _))
  have hB2 := HB1.out.trans (hb2.mono hz1)
  have hz2 := hB2.size
  have HB2 := Lib.hid hB2
  clear hu2 hb2 hB2 HU1
  go_wp2_with (at_builtin; refine app_all w2 rfl _ _ 22 rfl w.heap.size 5 .u8 1 Tryd.underlying22 infoU8c _ (putLen (s.size : Int) 3) rfl HH.out w2.heap.size _ (bytesL s) (by rfl) HU2.out.rd (by unfold maxLen; omega) (by omega) hz2 ?_)
  intro v' w3 hown hg hb3
  have HO3 := Lib.hid hown
  clear hown hg
  go_wp2
  go_ret2
  exact ⟨_, rfl, HO3.out.nums, HB2.out.trans hb3⟩

set_option maxRecDepth 100000 in
theorem putNumVar_any (s : ByteArray) (w : World) (hs : s.size ≤ 60) (hb0 : bcdOk s = true) (htab : Lib.TabIs Tryd.prog w "internal/strconv.uint64pow10" .u64 Lib.pow10Tab) :
    Calls Tryd.prog 67 #[.string s] w (resF (putLen (s.size : Int) 2 ++ bcd s) true w) := by
  have H := Lib.hid (behind_bcd2 s w hs hb0 htab)
  clear htab hb0
  go_enter Tryd.func67, Tryd.ntmps67
  go_wp2_with fail
  refine H.out.mono ?_
  rintro e w1 ⟨u, rfl, hu, hb⟩
  have HU := Lib.hid hu
  clear hu
  go_wp2
  go_ret2
  exact ⟨_, rfl, HU.out, hb⟩

set_option maxRecDepth 100000 in
theorem putTextVar_any (s : ByteArray) (w : World) (hs : s.size ≤ 60)  (htab : Lib.TabIs Tryd.prog w "internal/strconv.uint64pow10" .u64 Lib.pow10Tab) :
    Calls Tryd.prog 69 #[.string s] w (resF (putLen (s.size : Int) 2 ++ bytesL s) true w) := by
  have H := Lib.hid (behind_text2 s w hs htab)
  clear htab 
  go_enter Tryd.func69, Tryd.ntmps69
  go_wp2_with fail
  refine H.out.mono ?_
  rintro e w1 ⟨u, rfl, hu, hb⟩
  have HU := Lib.hid hu
  clear hu
  go_wp2
  go_ret2
  exact ⟨_, rfl, HU.out, hb⟩

set_option maxRecDepth 100000 in
theorem putTextLong_any (s : ByteArray) (w : World) (hs : s.size ≤ 60)  (htab : Lib.TabIs Tryd.prog w "internal/strconv.uint64pow10" .u64 Lib.pow10Tab) :
    Calls Tryd.prog 71 #[.string s] w (resF (putLen (s.size : Int) 3 ++ bytesL s) true w) := by
  have H := Lib.hid (behind_text3 s w hs htab)
  clear htab 
  go_enter Tryd.func71, Tryd.ntmps71
  go_wp2_with fail
  refine H.out.mono ?_
  rintro e w1 ⟨u, rfl, hu, hb⟩
  have HU := Lib.hid hu
  clear hu
  go_wp2
  go_ret2
  exact ⟨_, rfl, HU.out, hb⟩

set_option maxRecDepth 100000 in
set_option maxHeartbeats 1600000 in
theorem implPutField_any (no : Int) (s : ByteArray) (w : World) (hs : s.size ≤ 1048576) (hg : 4 < w.heap.size) (htab : Lib.TabIs Tryd.prog w "internal/strconv.uint64pow10" .u64 Lib.pow10Tab) :
    Calls Tryd.prog 13 #[.int .i64 no, .string s] w (resF (putFL no s) (fOk no s) w) := by
  have HS : Hid (s.size ≤ maxLen) := Lib.hid (by unfold maxLen; omega)
  have HT : Hid (∀ w', Below w.heap.size w w' → Lib.TabIs Tryd.prog w' "internal/strconv.uint64pow10" .u64 Lib.pow10Tab) := Lib.hid fun w' h => var?_below h (by kernel_rfl) hg htab
  clear htab
  by_cases hk0 : fKind no = 0
  · have HR := Lib.hid (rowV_zero hk0)
    have HK : Hid (okBy 0 0 s = false) := Lib.hid (by simp [okBy])
    have HZ : Hid (putFL no s = [] ∧ fOk no s = false) := Lib.hid (by simp [putFL, fOk_no hk0])
    clear hk0
    rw [HZ.out.1, HZ.out.2]
    go_enter Tryd.func13, Tryd.ntmps13
    go_wp2_with fail
    refine (fieldAt_any no _).mono ?_
    rintro e w1 ⟨he, hb⟩
    rw [HR.out] at he
    subst he
    go_wp2_with fail
    refine (allows_any 0 0 0 _ _ s _ HS.out (Or.inl rfl)).mono ?_
    rw [HK.out]
    rintro e w2 ⟨rfl, hb2⟩
    go_wp2
    go_ret2
    exact resF_no (hb.trans (Below.trans ((below_new (Below.refl _ _) (Nat.le_refl _)).mono hb.size) (hb2.mono (by have := hb.size; simp; omega))))
  have HR := Lib.hid (rowV_yes hk0)
  have HO : Hid (okBy (fKind no) (fSize no) s = fOk no s) := Lib.hid rfl
  cases hok : fOk no s
  · have HN : Hid (okBy (fKind no) (fSize no) s = false) := Lib.hid (HO.out.trans hok)
    have HZ : Hid (putFL no s = []) := Lib.hid (by simp [putFL, hok])
    have HC := Lib.hid (kind_cases no)
    clear hk0 hok HO
    rw [HZ.out]
    generalize fKind no = kd at HR HN HC
    generalize fSize no = sz at HR HN
    generalize putId kd = pi at HR
    generalize getId kd = gi at HR
    go_enter Tryd.func13, Tryd.ntmps13
    go_wp2_with fail
    refine (fieldAt_any no _).mono ?_
    rintro e w1 ⟨he, hb⟩
    rw [HR.out] at he
    subst he
    go_wp2_with fail
    refine (allows_any no sz kd _ _ s _ HS.out HC.out).mono ?_
    rw [HN.out]
    rintro e w2 ⟨rfl, hb2⟩
    go_wp2
    go_ret2
    exact resF_no (hb.trans (Below.trans ((below_new (Below.refl _ _) (Nat.le_refl _)).mono hb.size) (hb2.mono (by have := hb.size; simp; omega))))
  have h60 := fOk_60 hok
  have HB := Lib.hid (fun h => bcdOk_60 hok h)
  have HP : Hid (putFL no s = putBody (fKind no) s) := Lib.hid (by simp [putFL, hok])
  have HK : Hid (okBy (fKind no) (fSize no) s = true) := Lib.hid (HO.out.trans hok)
  have hk := kind_cases no
  clear hok HO
  rw [HP.out]
  clear HP
  generalize fKind no = kd at HR HK HB hk hk0
  generalize fSize no = sz at HR HK
  rcases hk with rfl | rfl | rfl | rfl | rfl | rfl
  · exact absurd rfl hk0
  · have HV := Lib.hid (show putBody 1 s = bcd s by simp [putBody])
    rw [show putId 1 = 63 from rfl] at HR
    generalize getId 1 = gi at HR
    clear hk0
    go_enter Tryd.func13, Tryd.ntmps13
    go_wp2_with fail
    refine (fieldAt_any no _).mono ?_
    rintro e w1 ⟨he, hb⟩
    rw [HR.out] at he
    subst he
    go_wp2_with fail
    refine (allows_any no sz 1 _ _ s _ HS.out (by omega)).mono ?_
    rw [HK.out]
    rintro e w2 ⟨rfl, hb2⟩
    have hz := hb.size
    have hbx := bk.new w1 56 [.int .i64 no, .int .i64 sz, .int .i64 1, .func (.func 63) #[] #[], .func (.func gi) #[] #[]]
    have hby := hbx.below hb2 hbx.lt
    have c0 := hby.cell 0
    have c1 := hby.cell 1
    have c2 := hby.cell 2
    have c3 := hby.cell 3
    have c4 := hby.cell 4
    simp only [List.getElem?_cons_zero, List.getElem?_cons_succ] at c0 c1 c2 c3 c4
    have hBB : Below w.heap.size w w2 := hb.trans (Below.trans ((below_new (Below.refl _ _) (Nat.le_refl _)).mono hz) (hb2.mono (by simp; omega)))
    have hz2 := hBB.size
    have HBB := Lib.hid hBB
    clear hbx hby hb hb2 hBB
    go_wp2_with fail
    refine (putBcd_F s _ (by omega) (HB.out (by simp))).mono ?_
    rintro e w3 ⟨u, rfl, hu, hb3⟩
    have HU := Lib.hid hu
    clear hu
    go_wp2
    go_ret2
    rw [HV.out]
    exact ⟨_, rfl, HU.out.mono hz2 (Nat.le_refl _), HBB.out.trans (hb3.mono hz2)⟩
  · have HV := Lib.hid (show putBody 2 s = bytesL s by simp [putBody])
    rw [show putId 2 = 65 from rfl] at HR
    generalize getId 2 = gi at HR
    clear hk0
    go_enter Tryd.func13, Tryd.ntmps13
    go_wp2_with fail
    refine (fieldAt_any no _).mono ?_
    rintro e w1 ⟨he, hb⟩
    rw [HR.out] at he
    subst he
    go_wp2_with fail
    refine (allows_any no sz 2 _ _ s _ HS.out (by omega)).mono ?_
    rw [HK.out]
    rintro e w2 ⟨rfl, hb2⟩
    have hz := hb.size
    have hbx := bk.new w1 56 [.int .i64 no, .int .i64 sz, .int .i64 2, .func (.func 65) #[] #[], .func (.func gi) #[] #[]]
    have hby := hbx.below hb2 hbx.lt
    have c0 := hby.cell 0
    have c1 := hby.cell 1
    have c2 := hby.cell 2
    have c3 := hby.cell 3
    have c4 := hby.cell 4
    simp only [List.getElem?_cons_zero, List.getElem?_cons_succ] at c0 c1 c2 c3 c4
    have hBB : Below w.heap.size w w2 := hb.trans (Below.trans ((below_new (Below.refl _ _) (Nat.le_refl _)).mono hz) (hb2.mono (by simp; omega)))
    have hz2 := hBB.size
    have HBB := Lib.hid hBB
    clear hbx hby hb hb2 hBB
    go_wp2_with fail
    refine (putText_any s _).mono ?_
    rintro e w3 ⟨u, rfl, hu, hb3⟩
    have HU := Lib.hid hu
    clear hu
    go_wp2
    go_ret2
    rw [HV.out]
    exact ⟨_, rfl, HU.out.mono hz2 (Nat.le_refl _), HBB.out.trans (hb3.mono hz2)⟩
  · have HV := Lib.hid (show putBody 3 s = putLen (s.size : Int) 2 ++ bcd s by simp [putBody])
    rw [show putId 3 = 67 from rfl] at HR
    generalize getId 3 = gi at HR
    clear hk0
    go_enter Tryd.func13, Tryd.ntmps13
    go_wp2_with fail
    refine (fieldAt_any no _).mono ?_
    rintro e w1 ⟨he, hb⟩
    rw [HR.out] at he
    subst he
    go_wp2_with fail
    refine (allows_any no sz 3 _ _ s _ HS.out (by omega)).mono ?_
    rw [HK.out]
    rintro e w2 ⟨rfl, hb2⟩
    have hz := hb.size
    have hbx := bk.new w1 56 [.int .i64 no, .int .i64 sz, .int .i64 3, .func (.func 67) #[] #[], .func (.func gi) #[] #[]]
    have hby := hbx.below hb2 hbx.lt
    have c0 := hby.cell 0
    have c1 := hby.cell 1
    have c2 := hby.cell 2
    have c3 := hby.cell 3
    have c4 := hby.cell 4
    simp only [List.getElem?_cons_zero, List.getElem?_cons_succ] at c0 c1 c2 c3 c4
    have hBB : Below w.heap.size w w2 := hb.trans (Below.trans ((below_new (Below.refl _ _) (Nat.le_refl _)).mono hz) (hb2.mono (by simp; omega)))
    have hz2 := hBB.size
    have HBB := Lib.hid hBB
    clear hbx hby hb hb2 hBB
    go_wp2_with fail
    refine (putNumVar_any s _ h60 (HB.out (by simp)) (HT.out _ HBB.out)).mono ?_
    rintro e w3 ⟨u, rfl, hu, hb3⟩
    have HU := Lib.hid hu
    clear hu
    go_wp2
    go_ret2
    rw [HV.out]
    exact ⟨_, rfl, HU.out.mono hz2 (Nat.le_refl _), HBB.out.trans (hb3.mono hz2)⟩
  · have HV := Lib.hid (show putBody 4 s = putLen (s.size : Int) 2 ++ bytesL s by simp [putBody])
    rw [show putId 4 = 69 from rfl] at HR
    generalize getId 4 = gi at HR
    clear hk0
    go_enter Tryd.func13, Tryd.ntmps13
    go_wp2_with fail
    refine (fieldAt_any no _).mono ?_
    rintro e w1 ⟨he, hb⟩
    rw [HR.out] at he
    subst he
    go_wp2_with fail
    refine (allows_any no sz 4 _ _ s _ HS.out (by omega)).mono ?_
    rw [HK.out]
    rintro e w2 ⟨rfl, hb2⟩
    have hz := hb.size
    have hbx := bk.new w1 56 [.int .i64 no, .int .i64 sz, .int .i64 4, .func (.func 69) #[] #[], .func (.func gi) #[] #[]]
    have hby := hbx.below hb2 hbx.lt
    have c0 := hby.cell 0
    have c1 := hby.cell 1
    have c2 := hby.cell 2
    have c3 := hby.cell 3
    have c4 := hby.cell 4
    simp only [List.getElem?_cons_zero, List.getElem?_cons_succ] at c0 c1 c2 c3 c4
    have hBB : Below w.heap.size w w2 := hb.trans (Below.trans ((below_new (Below.refl _ _) (Nat.le_refl _)).mono hz) (hb2.mono (by simp; omega)))
    have hz2 := hBB.size
    have HBB := Lib.hid hBB
    clear hbx hby hb hb2 hBB
    go_wp2_with fail
    refine (putTextVar_any s _ h60 (HT.out _ HBB.out)).mono ?_
    rintro e w3 ⟨u, rfl, hu, hb3⟩
    have HU := Lib.hid hu
    clear hu
    go_wp2
    go_ret2
    rw [HV.out]
    exact ⟨_, rfl, HU.out.mono hz2 (Nat.le_refl _), HBB.out.trans (hb3.mono hz2)⟩
  · have HV := Lib.hid (show putBody 5 s = putLen (s.size : Int) 3 ++ bytesL s by simp [putBody])
    rw [show putId 5 = 71 from rfl] at HR
    generalize getId 5 = gi at HR
    clear hk0
    go_enter Tryd.func13, Tryd.ntmps13
    go_wp2_with fail
    refine (fieldAt_any no _).mono ?_
    rintro e w1 ⟨he, hb⟩
    rw [HR.out] at he
    subst he
    go_wp2_with fail
    refine (allows_any no sz 5 _ _ s _ HS.out (by omega)).mono ?_
    rw [HK.out]
    rintro e w2 ⟨rfl, hb2⟩
    have hz := hb.size
    have hbx := bk.new w1 56 [.int .i64 no, .int .i64 sz, .int .i64 5, .func (.func 71) #[] #[], .func (.func gi) #[] #[]]
    have hby := hbx.below hb2 hbx.lt
    have c0 := hby.cell 0
    have c1 := hby.cell 1
    have c2 := hby.cell 2
    have c3 := hby.cell 3
    have c4 := hby.cell 4
    simp only [List.getElem?_cons_zero, List.getElem?_cons_succ] at c0 c1 c2 c3 c4
    have hBB : Below w.heap.size w w2 := hb.trans (Below.trans ((below_new (Below.refl _ _) (Nat.le_refl _)).mono hz) (hb2.mono (by simp; omega)))
    have hz2 := hBB.size
    have HBB := Lib.hid hBB
    clear hbx hby hb hb2 hBB
    go_wp2_with fail
    refine (putTextLong_any s _ h60 (HT.out _ HBB.out)).mono ?_
    rintro e w3 ⟨u, rfl, hu, hb3⟩
    have HU := Lib.hid hu
    clear hu
    go_wp2
    go_ret2
    rw [HV.out]
    exact ⟨_, rfl, HU.out.mono hz2 (Nat.le_refl _), HBB.out.trans (hb3.mono hz2)⟩

set_option maxRecDepth 100000 in
theorem putFL_len (no : Int) (s : ByteArray) (hs : s.size ≤ 1048576) : (putFL no s).length ≤ 1048700 := by
  unfold putFL
  split
  · unfold putBody
    have h1 := bcd_len s
    have h2 := bytesL_len s
    have h3 := putLen_len (s.size : Int) 2
    have h4 := putLen_len (s.size : Int) 3
    repeat' split
    all_goals (try rw [List.length_append])
    all_goals omega
  · simp
set_option maxRecDepth 100000 in
theorem tab_lt {w : World} (htab : Lib.TabIs Tryd.prog w "internal/strconv.uint64pow10" .u64 Lib.pow10Tab) : 4 < w.heap.size := by
  unfold Lib.TabIs World.var? at htab
  rw [show Tryd.prog.globalNamed "internal/strconv.uint64pow10" = some 4 by kernel_rfl] at htab
  rcases Nat.lt_or_ge 4 w.heap.size with h | h
  · exact h
  · simp [Array.getElem?_eq_none h] at htab
end Go.Proofs.YtfbdcjlmbflehaaDoor
