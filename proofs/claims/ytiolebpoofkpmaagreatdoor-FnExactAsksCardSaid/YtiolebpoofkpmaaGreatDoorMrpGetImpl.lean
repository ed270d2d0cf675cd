/- GetField of the program; the sentinel of the number scanner holds an error. -/
import Derived.Test.YtiolebpoofkpmaaGreatDoorMrp14
set_option linter.unusedVariables false
namespace Go.Proofs.YtiolebpoofkpmaaGreatDoor
open Go.ChangeShapes Go.WideShapes Go.ChangeAt Go.RowKit

set_option maxRecDepth 100000 in
theorem getText_any (hi : Nat) (v : Value) (l : List Int) (a n : Int) (w : World) (hn : l.length ≤ 1073741824) (hn0 : 0 ≤ n) (hn1 : n ≤ 1000000000000000000) (h : rd .u8 hi w v l) :
    Calls Tryz.prog 112 #[v, .int .i64 a, .int .i64 n] w fun e w' => e = trip (inR l a n) (tPart l a n) (a + n) ∧ Below w.heap.size w w' := by
  obtain ⟨m, rfl⟩ : ∃ m : Nat, n = m := ⟨n.toNat, by omega⟩
  have H := Lib.hid h
  clear h
  cases hr : inR l a (m : Int)
  · rw [trip_no]
    have hbad : a < 0 ∨ (l.length : Int) - (m : Int) < a := by
      rcases Int.lt_or_le a 0 with h0 | h0
      · exact Or.inl h0
      · rcases Int.lt_or_le ((l.length : Int) - m) a with h1 | h1
        · exact Or.inr h1
        · have : inR l a (m : Int) = true := by simp [inR]; omega
          rw [this] at hr; cases hr
    have HB := Lib.hid hbad
    clear hbad hr
    go_enter Tryz.func112, Tryz.ntmps112
    go_wp2_with fail
    refine (bytesAt_out hi _ l a m w hn (by omega) H.out HB.out).mono ?_
    rintro e w1 ⟨rfl, rfl⟩
    go_wp2
    go_ret3
    exact ⟨rfl, Below.refl _ _⟩
  · have hb := inR_yes hr
    rw [trip_yes]
    obtain ⟨b0, rfl⟩ : ∃ b0 : Nat, a = b0 := ⟨a.toNat, by omega⟩
    have HT : Hid (tPart l (b0 : Int) (m : Int) = ((l.drop b0).take m).map byteOf) := Lib.hid rfl
    have han : b0 + m ≤ l.length := by omega
    clear hr hb
    rw [HT.out]
    clear HT
    have HY := Lib.hid (bytesAt_in hi _ l b0 m w hn H.out han)
    clear H
    generalize (l.drop b0).take m = q at HY ⊢
    go_enter Tryz.func112, Tryz.ntmps112
    go_wp2_with fail
    refine HY.out.mono ?_
    rintro e w1 ⟨u, rfl, hu, rfl⟩
    have hst := str_of_rd hu
    clear hu
    go_wp2
    go_ret3
    exact ⟨rfl, Below.refl _ _⟩

set_option maxRecDepth 100000 in
set_option maxHeartbeats 800000 in
theorem getBehindBcd_any (hi : Nat) (v : Value) (l : List Int) (a : Int) (w : World) (p : Addr) (hg : 1 < w.heap.size) (hc : w.cell? ⟨1, 0, none⟩ = some (.iface 207 (.pointer (some p)))) (hn : l.length ≤ 1073741824) (ha : a ≤ 9223372036854775807) (hl : isBytes l) (h : rd .u8 hi w v l) (hhi : hi ≤ w.heap.size) :
    Calls Tryz.prog 134 #[v, .int .i64 a, .int .i64 2, .func (.func 52) #[] #[]] w fun e w' => e = trip (lenGot l a 2 && gOk l (lenEnd l a 2) (lenVal l a 2)) (gTxt l (lenEnd l a 2) (lenVal l a 2)) (gEnd l (lenEnd l a 2) (lenVal l a 2)) ∧ Below w.heap.size w w' := by
  have H := Lib.hid h
  have HL := Lib.hid hl
  have HC := Lib.hid hc
  have he := lenEnd_bd l a 2
  have hv := lenVal_bd l a 2
  clear h hc hl
  cases hgot : lenGot l a 2
  · have HG := Lib.hid hgot
    rw [Bool.false_and, trip_no]
    clear hgot
    go_enter Tryz.func134, Tryz.ntmps134
    go_wp2_with fail
    refine (implGetLen_any hi _ l a _ _ p hg HC.out hn ha HL.out H.out hhi).mono ?_
    rw [lenRes_trip, HG.out]
    rintro e w1 ⟨rfl, hb⟩
    go_wp2
    go_ret3
    exact ⟨rfl, hb⟩
  · have HG := Lib.hid hgot
    rw [Bool.true_and]
    clear hgot
    go_enter Tryz.func134, Tryz.ntmps134
    go_wp2_with fail
    refine (implGetLen_any hi _ l a _ _ p hg HC.out hn ha HL.out H.out hhi).mono ?_
    rw [lenRes_trip, HG.out]
    rintro e w1 ⟨rfl, hb⟩
    have HB1 := Lib.hid hb
    have hz1 := hb.size
    clear hb
    go_wp2_with fail
    refine (implGetBcd_any hi _ l _ _ _ hn (by omega) HL.out (H.out.below HB1.out hhi) (Nat.le_trans hhi hz1)).mono ?_
    rintro e w2 ⟨he2, hb2⟩
    rw [gRes_trip] at he2
    obtain ⟨s0, x0, b0, hf⟩ := trip_form (gOk l (lenEnd l a 2) (lenVal l a 2)) (gTxt l (lenEnd l a 2) (lenVal l a 2)) (gEnd l (lenEnd l a 2) (lenVal l a 2))
    have HF := Lib.hid hf
    rw [hf] at he2
    clear hf
    subst he2
    go_wp2
    go_ret3
    rw [HF.out]
    exact ⟨rfl, HB1.out.trans (hb2.mono hz1)⟩

set_option maxRecDepth 100000 in
set_option maxHeartbeats 800000 in
theorem getBehindText_any (hi : Nat) (v : Value) (l : List Int) (a : Int) (w : World) (p : Addr) (hg : 1 < w.heap.size) (hc : w.cell? ⟨1, 0, none⟩ = some (.iface 207 (.pointer (some p)))) (hn : l.length ≤ 1073741824) (ha : a ≤ 9223372036854775807) (hl : isBytes l) (h : rd .u8 hi w v l) (hhi : hi ≤ w.heap.size) :
    Calls Tryz.prog 134 #[v, .int .i64 a, .int .i64 2, .func (.func 112) #[] #[]] w fun e w' => e = trip (lenGot l a 2 && inR l (lenEnd l a 2) (lenVal l a 2)) (tPart l (lenEnd l a 2) (lenVal l a 2)) (lenEnd l a 2 + lenVal l a 2) ∧ Below w.heap.size w w' := by
  have H := Lib.hid h
  have HL := Lib.hid hl
  have HC := Lib.hid hc
  have he := lenEnd_bd l a 2
  have hv := lenVal_bd l a 2
  clear h hc hl
  cases hgot : lenGot l a 2
  · have HG := Lib.hid hgot
    rw [Bool.false_and, trip_no]
    clear hgot
    go_enter Tryz.func134, Tryz.ntmps134
    go_wp2_with fail
    refine (implGetLen_any hi _ l a _ _ p hg HC.out hn ha HL.out H.out hhi).mono ?_
    rw [lenRes_trip, HG.out]
    rintro e w1 ⟨rfl, hb⟩
    go_wp2
    go_ret3
    exact ⟨rfl, hb⟩
  · have HG := Lib.hid hgot
    rw [Bool.true_and]
    clear hgot
    go_enter Tryz.func134, Tryz.ntmps134
    go_wp2_with fail
    refine (implGetLen_any hi _ l a _ _ p hg HC.out hn ha HL.out H.out hhi).mono ?_
    rw [lenRes_trip, HG.out]
    rintro e w1 ⟨rfl, hb⟩
    have HB1 := Lib.hid hb
    have hz1 := hb.size
    clear hb
    go_wp2_with fail
    refine (getText_any hi _ l _ _ _ hn (by omega) (by omega) (H.out.below HB1.out hhi)).mono ?_
    rintro e w2 ⟨he2, hb2⟩
    skip
    obtain ⟨s0, x0, b0, hf⟩ := trip_form (inR l (lenEnd l a 2) (lenVal l a 2)) (tPart l (lenEnd l a 2) (lenVal l a 2)) (lenEnd l a 2 + lenVal l a 2)
    have HF := Lib.hid hf
    rw [hf] at he2
    clear hf
    subst he2
    go_wp2
    go_ret3
    rw [HF.out]
    exact ⟨rfl, HB1.out.trans (hb2.mono hz1)⟩

set_option maxRecDepth 100000 in
set_option maxHeartbeats 800000 in
theorem getBehindLong_any (hi : Nat) (v : Value) (l : List Int) (a : Int) (w : World) (p : Addr) (hg : 1 < w.heap.size) (hc : w.cell? ⟨1, 0, none⟩ = some (.iface 207 (.pointer (some p)))) (hn : l.length ≤ 1073741824) (ha : a ≤ 9223372036854775807) (hl : isBytes l) (h : rd .u8 hi w v l) (hhi : hi ≤ w.heap.size) :
    Calls Tryz.prog 134 #[v, .int .i64 a, .int .i64 3, .func (.func 112) #[] #[]] w fun e w' => e = trip (lenGot l a 3 && inR l (lenEnd l a 3) (lenVal l a 3)) (tPart l (lenEnd l a 3) (lenVal l a 3)) (lenEnd l a 3 + lenVal l a 3) ∧ Below w.heap.size w w' := by
  have H := Lib.hid h
  have HL := Lib.hid hl
  have HC := Lib.hid hc
  have he := lenEnd_bd l a 3
  have hv := lenVal_bd l a 3
  clear h hc hl
  cases hgot : lenGot l a 3
  · have HG := Lib.hid hgot
    rw [Bool.false_and, trip_no]
    clear hgot
    go_enter Tryz.func134, Tryz.ntmps134
    go_wp2_with fail
    refine (implGetLen_any hi _ l a _ _ p hg HC.out hn ha HL.out H.out hhi).mono ?_
    rw [lenRes_trip, HG.out]
    rintro e w1 ⟨rfl, hb⟩
    go_wp2
    go_ret3
    exact ⟨rfl, hb⟩
  · have HG := Lib.hid hgot
    rw [Bool.true_and]
    clear hgot
    go_enter Tryz.func134, Tryz.ntmps134
    go_wp2_with fail
    refine (implGetLen_any hi _ l a _ _ p hg HC.out hn ha HL.out H.out hhi).mono ?_
    rw [lenRes_trip, HG.out]
    rintro e w1 ⟨rfl, hb⟩
    have HB1 := Lib.hid hb
    have hz1 := hb.size
    clear hb
    go_wp2_with fail
    refine (getText_any hi _ l _ _ _ hn (by omega) (by omega) (H.out.below HB1.out hhi)).mono ?_
    rintro e w2 ⟨he2, hb2⟩
    skip
    obtain ⟨s0, x0, b0, hf⟩ := trip_form (inR l (lenEnd l a 3) (lenVal l a 3)) (tPart l (lenEnd l a 3) (lenVal l a 3)) (lenEnd l a 3 + lenVal l a 3)
    have HF := Lib.hid hf
    rw [hf] at he2
    clear hf
    subst he2
    go_wp2
    go_ret3
    rw [HF.out]
    exact ⟨rfl, HB1.out.trans (hb2.mono hz1)⟩

set_option maxRecDepth 100000 in
theorem getNumVar_any (hi : Nat) (v : Value) (l : List Int) (a n : Int) (w : World) (p : Addr) (hg : 1 < w.heap.size) (hc : w.cell? ⟨1, 0, none⟩ = some (.iface 207 (.pointer (some p)))) (hn : l.length ≤ 1073741824) (ha : a ≤ 9223372036854775807) (hl : isBytes l) (h : rd .u8 hi w v l) (hhi : hi ≤ w.heap.size) :
    Calls Tryz.prog 114 #[v, .int .i64 a, .int .i64 n] w fun e w' => e = trip (lenGot l a 2 && gOk l (lenEnd l a 2) (lenVal l a 2)) (gTxt l (lenEnd l a 2) (lenVal l a 2)) (gEnd l (lenEnd l a 2) (lenVal l a 2)) ∧ Below w.heap.size w w' := by
  have HH := Lib.hid (getBehindBcd_any hi v l a w p hg hc hn ha hl h hhi)
  clear h hc hl
  go_enter Tryz.func114, Tryz.ntmps114
  go_wp2_with fail
  refine HH.out.mono ?_
  rintro e w1 ⟨he, hb⟩
  obtain ⟨s0, x0, b0, hf⟩ := trip_form (lenGot l a 2 && gOk l (lenEnd l a 2) (lenVal l a 2)) (gTxt l (lenEnd l a 2) (lenVal l a 2)) (gEnd l (lenEnd l a 2) (lenVal l a 2))
  have HF := Lib.hid hf
  rw [hf] at he
  clear hf
  subst he
  go_wp2
  go_ret3
  rw [HF.out]
  exact ⟨rfl, hb⟩

set_option maxRecDepth 100000 in
theorem getTextVar_any (hi : Nat) (v : Value) (l : List Int) (a n : Int) (w : World) (p : Addr) (hg : 1 < w.heap.size) (hc : w.cell? ⟨1, 0, none⟩ = some (.iface 207 (.pointer (some p)))) (hn : l.length ≤ 1073741824) (ha : a ≤ 9223372036854775807) (hl : isBytes l) (h : rd .u8 hi w v l) (hhi : hi ≤ w.heap.size) :
    Calls Tryz.prog 116 #[v, .int .i64 a, .int .i64 n] w fun e w' => e = trip (lenGot l a 2 && inR l (lenEnd l a 2) (lenVal l a 2)) (tPart l (lenEnd l a 2) (lenVal l a 2)) (lenEnd l a 2 + lenVal l a 2) ∧ Below w.heap.size w w' := by
  have HH := Lib.hid (getBehindText_any hi v l a w p hg hc hn ha hl h hhi)
  clear h hc hl
  go_enter Tryz.func116, Tryz.ntmps116
  go_wp2_with fail
  refine HH.out.mono ?_
  rintro e w1 ⟨he, hb⟩
  obtain ⟨s0, x0, b0, hf⟩ := trip_form (lenGot l a 2 && inR l (lenEnd l a 2) (lenVal l a 2)) (tPart l (lenEnd l a 2) (lenVal l a 2)) (lenEnd l a 2 + lenVal l a 2)
  have HF := Lib.hid hf
  rw [hf] at he
  clear hf
  subst he
  go_wp2
  go_ret3
  rw [HF.out]
  exact ⟨rfl, hb⟩

set_option maxRecDepth 100000 in
theorem getTextLong_any (hi : Nat) (v : Value) (l : List Int) (a n : Int) (w : World) (p : Addr) (hg : 1 < w.heap.size) (hc : w.cell? ⟨1, 0, none⟩ = some (.iface 207 (.pointer (some p)))) (hn : l.length ≤ 1073741824) (ha : a ≤ 9223372036854775807) (hl : isBytes l) (h : rd .u8 hi w v l) (hhi : hi ≤ w.heap.size) :
    Calls Tryz.prog 118 #[v, .int .i64 a, .int .i64 n] w fun e w' => e = trip (lenGot l a 3 && inR l (lenEnd l a 3) (lenVal l a 3)) (tPart l (lenEnd l a 3) (lenVal l a 3)) (lenEnd l a 3 + lenVal l a 3) ∧ Below w.heap.size w w' := by
  have HH := Lib.hid (getBehindLong_any hi v l a w p hg hc hn ha hl h hhi)
  clear h hc hl
  go_enter Tryz.func118, Tryz.ntmps118
  go_wp2_with fail
  refine HH.out.mono ?_
  rintro e w1 ⟨he, hb⟩
  obtain ⟨s0, x0, b0, hf⟩ := trip_form (lenGot l a 3 && inR l (lenEnd l a 3) (lenVal l a 3)) (tPart l (lenEnd l a 3) (lenVal l a 3)) (lenEnd l a 3 + lenVal l a 3)
  have HF := Lib.hid hf
  rw [hf] at he
  clear hf
  subst he
  go_wp2
  go_ret3
  rw [HF.out]
  exact ⟨rfl, hb⟩

/-- what the decoder of a kind finds, before it is asked whether it fits -/
def rawOk (kd : Int) (l : List Int) (a sz : Int) : Bool := if kd = 1 then gOk l a sz else if kd = 2 then inR l a sz else if kd = 3 then (lenGot l a 2 && gOk l (lenEnd l a 2) (lenVal l a 2)) else if kd = 4 then (lenGot l a 2 && inR l (lenEnd l a 2) (lenVal l a 2)) else (lenGot l a 3 && inR l (lenEnd l a 3) (lenVal l a 3))
def rawTxt (kd : Int) (l : List Int) (a sz : Int) : List UInt8 := if kd = 1 then gTxt l a sz else if kd = 2 then tPart l a sz else if kd = 3 then gTxt l (lenEnd l a 2) (lenVal l a 2) else if kd = 4 then tPart l (lenEnd l a 2) (lenVal l a 2) else tPart l (lenEnd l a 3) (lenVal l a 3)
def rawEnd (kd : Int) (l : List Int) (a sz : Int) : Int := if kd = 1 then gEnd l a sz else if kd = 2 then (a + sz) else if kd = 3 then gEnd l (lenEnd l a 2) (lenVal l a 2) else if kd = 4 then (lenEnd l a 2 + lenVal l a 2) else (lenEnd l a 3 + lenVal l a 3)
def getOk (kd : Int) (l : List Int) (a sz : Int) : Bool := rawOk kd l a sz && okBy kd sz ⟨(rawTxt kd l a sz).toArray⟩
/-- what GetField finds -/
def getRes (l : List Int) (a no : Int) : Ending := if fKind no = 0 then trip false [] 0 else trip (getOk (fKind no) l a (fSize no)) (rawTxt (fKind no) l a (fSize no)) (rawEnd (fKind no) l a (fSize no))
set_option maxRecDepth 100000 in
theorem rawTxt_le (kd : Int) (l : List Int) (a sz : Int) (hn : l.length ≤ 1073741824) : (rawTxt kd l a sz).length ≤ 1073741824 := by
  unfold rawTxt
  repeat' split
  all_goals first | exact Nat.le_trans (gTxt_len _ _ _) (by decide) | exact Nat.le_trans (tPart_le _ _ _) hn
set_option maxRecDepth 100000 in
set_option maxHeartbeats 1600000 in
theorem implGetField_any (hi : Nat) (v : Value) (l : List Int) (a no : Int) (w : World) (p : Addr) (hg : 1 < w.heap.size) (hc : w.cell? ⟨1, 0, none⟩ = some (.iface 207 (.pointer (some p)))) (hn : l.length ≤ 1073741824) (ha : a ≤ 9223372036854775807) (hl : isBytes l) (h : rd .u8 hi w v l) (hhi : hi ≤ w.heap.size) :
    Calls Tryz.prog 55 #[v, .int .i64 a, .int .i64 no] w fun e w' => e = getRes l a no ∧ Below w.heap.size w w' := by
  have H := Lib.hid h
  have HL := Lib.hid hl
  have HC := Lib.hid hc
  clear h hc hl
  by_cases hk0 : fKind no = 0
  · have HR := Lib.hid (rowV_zero hk0)
    have HZ : Hid (getRes l a no = trip false [] 0) := Lib.hid (by rw [getRes, if_pos hk0])
    clear hk0
    rw [HZ.out, trip_no]
    go_enter Tryz.func55, Tryz.ntmps55
    go_wp2_with fail
    refine (fieldAt_any no _).mono ?_
    rintro e w1 ⟨he, hb⟩
    rw [HR.out] at he
    subst he
    go_wp2
    go_ret3
    exact ⟨rfl, below_new hb hb.size⟩
  have HR := Lib.hid (rowV_yes hk0)
  have HZ : Hid (getRes l a no = trip (getOk (fKind no) l a (fSize no)) (rawTxt (fKind no) l a (fSize no)) (rawEnd (fKind no) l a (fSize no))) := Lib.hid (by rw [getRes, if_neg hk0])
  have hsz := (kind_size no).2.2.2.2
  have hs0 := fSize_pos hk0
  have hk := kind_cases no
  rw [HZ.out]
  clear HZ
  generalize fKind no = kd at HR hk hk0
  generalize fSize no = sz at HR hsz hs0
  rcases hk with rfl | rfl | rfl | rfl | rfl | rfl
  · exact absurd rfl hk0
  · have HRaw : Hid (gOk l a sz = rawOk 1 l a sz ∧ gTxt l a sz = rawTxt 1 l a sz ∧ gEnd l a sz = rawEnd 1 l a sz) := Lib.hid ⟨rfl, rfl, rfl⟩
    have HM := Lib.hid (rawTxt_le 1 l a sz hn)
    rw [show getId 1 = 52 from rfl] at HR
    generalize putId 1 = pi at HR
    unfold getOk
    clear hk0
    generalize rawTxt 1 l a sz = t at HRaw HM ⊢
    generalize rawEnd 1 l a sz = en at HRaw ⊢
    generalize rawOk 1 l a sz = ro at HRaw ⊢
    have HQ : Hid ((⟨t.toArray⟩ : ByteArray).size ≤ maxLen) := Lib.hid (by have := HM.out; show t.length ≤ maxLen; unfold maxLen; omega)
    cases ro
    · rw [Bool.false_and, trip_no]
      go_enter Tryz.func55, Tryz.ntmps55
      go_wp2_with fail
      refine (fieldAt_any no _).mono ?_
      rintro e w1 ⟨he, hb⟩
      rw [HR.out] at he
      subst he
      have hz := hb.size
      have hby := bk.new w1 107 [.int .i64 no, .int .i64 sz, .int .i64 1, .func (.func pi) #[] #[], .func (.func 52) #[] #[]]
      have hBB : Below w.heap.size w (w1.alloc (.cells [.int .i64 no, .int .i64 sz, .int .i64 1, .func (.func pi) #[] #[], .func (.func 52) #[] #[]].toArray 107)) := below_new hb hz
      have hz2 := hBB.size
      have HBB := Lib.hid hBB
      have HY := Lib.hid hby
      clear hb hBB hby
      go_wp2_with fail
      refine (implGetBcd_any hi _ l a sz _ hn ha HL.out (H.out.below HBB.out hhi) (Nat.le_trans hhi hz2)).mono ?_
      rintro e w3 ⟨he3, hb3⟩
      rw [gRes_trip] at he3
      rw [HRaw.out.1, HRaw.out.2.1, HRaw.out.2.2] at he3
      have hB3 := HBB.out.trans (hb3.mono hz2)
      have hY3 := HY.out.below hb3 HY.out.lt
      have hz3 := hB3.size
      have HB3 := Lib.hid hB3
      clear hb3 hB3 HRaw HY HBB
      rw [trip_no] at he3
      subst he3
      clear hY3
      go_wp2
      go_ret3
      exact ⟨rfl, HB3.out⟩
    rw [Bool.true_and]
    cases hq : okBy 1 sz ⟨t.toArray⟩
    · have HO := Lib.hid hq
      clear hq
      rw [trip_no]
      go_enter Tryz.func55, Tryz.ntmps55
      go_wp2_with fail
      refine (fieldAt_any no _).mono ?_
      rintro e w1 ⟨he, hb⟩
      rw [HR.out] at he
      subst he
      have hz := hb.size
      have hby := bk.new w1 107 [.int .i64 no, .int .i64 sz, .int .i64 1, .func (.func pi) #[] #[], .func (.func 52) #[] #[]]
      have hBB : Below w.heap.size w (w1.alloc (.cells [.int .i64 no, .int .i64 sz, .int .i64 1, .func (.func pi) #[] #[], .func (.func 52) #[] #[]].toArray 107)) := below_new hb hz
      have hz2 := hBB.size
      have HBB := Lib.hid hBB
      have HY := Lib.hid hby
      clear hb hBB hby
      go_wp2_with fail
      refine (implGetBcd_any hi _ l a sz _ hn ha HL.out (H.out.below HBB.out hhi) (Nat.le_trans hhi hz2)).mono ?_
      rintro e w3 ⟨he3, hb3⟩
      rw [gRes_trip] at he3
      rw [HRaw.out.1, HRaw.out.2.1, HRaw.out.2.2] at he3
      have hB3 := HBB.out.trans (hb3.mono hz2)
      have hY3 := HY.out.below hb3 HY.out.lt
      have hz3 := hB3.size
      have HB3 := Lib.hid hB3
      clear hb3 hB3 HRaw HY HBB
      rw [trip_yes] at he3
      subst he3
      have c0 := hY3.cell 0
      have c1 := hY3.cell 1
      have c2 := hY3.cell 2
      have c3 := hY3.cell 3
      have c4 := hY3.cell 4
      simp only [List.getElem?_cons_zero, List.getElem?_cons_succ] at c0 c1 c2 c3 c4
      clear hY3
      go_wp2_with fail
      refine (allows_any no sz 1 _ _ _ _ HQ.out (by omega)).mono ?_
      rw [HO.out]
      rintro e w4 ⟨rfl, hb4⟩
      go_wp2
      go_ret3
      exact ⟨rfl, HB3.out.trans (hb4.mono hz3)⟩
    · have HO := Lib.hid hq
      clear hq
      rw [trip_yes]
      go_enter Tryz.func55, Tryz.ntmps55
      go_wp2_with fail
      refine (fieldAt_any no _).mono ?_
      rintro e w1 ⟨he, hb⟩
      rw [HR.out] at he
      subst he
      have hz := hb.size
      have hby := bk.new w1 107 [.int .i64 no, .int .i64 sz, .int .i64 1, .func (.func pi) #[] #[], .func (.func 52) #[] #[]]
      have hBB : Below w.heap.size w (w1.alloc (.cells [.int .i64 no, .int .i64 sz, .int .i64 1, .func (.func pi) #[] #[], .func (.func 52) #[] #[]].toArray 107)) := below_new hb hz
      have hz2 := hBB.size
      have HBB := Lib.hid hBB
      have HY := Lib.hid hby
      clear hb hBB hby
      go_wp2_with fail
      refine (implGetBcd_any hi _ l a sz _ hn ha HL.out (H.out.below HBB.out hhi) (Nat.le_trans hhi hz2)).mono ?_
      rintro e w3 ⟨he3, hb3⟩
      rw [gRes_trip] at he3
      rw [HRaw.out.1, HRaw.out.2.1, HRaw.out.2.2] at he3
      have hB3 := HBB.out.trans (hb3.mono hz2)
      have hY3 := HY.out.below hb3 HY.out.lt
      have hz3 := hB3.size
      have HB3 := Lib.hid hB3
      clear hb3 hB3 HRaw HY HBB
      rw [trip_yes] at he3
      subst he3
      have c0 := hY3.cell 0
      have c1 := hY3.cell 1
      have c2 := hY3.cell 2
      have c3 := hY3.cell 3
      have c4 := hY3.cell 4
      simp only [List.getElem?_cons_zero, List.getElem?_cons_succ] at c0 c1 c2 c3 c4
      clear hY3
      go_wp2_with fail
      refine (allows_any no sz 1 _ _ _ _ HQ.out (by omega)).mono ?_
      rw [HO.out]
      rintro e w4 ⟨rfl, hb4⟩
      go_wp2
      go_ret3
      exact ⟨rfl, HB3.out.trans (hb4.mono hz3)⟩
  · have HRaw : Hid (inR l a sz = rawOk 2 l a sz ∧ tPart l a sz = rawTxt 2 l a sz ∧ (a + sz) = rawEnd 2 l a sz) := Lib.hid ⟨rfl, rfl, rfl⟩
    have HM := Lib.hid (rawTxt_le 2 l a sz hn)
    rw [show getId 2 = 112 from rfl] at HR
    generalize putId 2 = pi at HR
    unfold getOk
    clear hk0
    generalize rawTxt 2 l a sz = t at HRaw HM ⊢
    generalize rawEnd 2 l a sz = en at HRaw ⊢
    generalize rawOk 2 l a sz = ro at HRaw ⊢
    have HQ : Hid ((⟨t.toArray⟩ : ByteArray).size ≤ maxLen) := Lib.hid (by have := HM.out; show t.length ≤ maxLen; unfold maxLen; omega)
    cases ro
    · rw [Bool.false_and, trip_no]
      go_enter Tryz.func55, Tryz.ntmps55
      go_wp2_with fail
      refine (fieldAt_any no _).mono ?_
      rintro e w1 ⟨he, hb⟩
      rw [HR.out] at he
      subst he
      have hz := hb.size
      have hby := bk.new w1 107 [.int .i64 no, .int .i64 sz, .int .i64 2, .func (.func pi) #[] #[], .func (.func 112) #[] #[]]
      have hBB : Below w.heap.size w (w1.alloc (.cells [.int .i64 no, .int .i64 sz, .int .i64 2, .func (.func pi) #[] #[], .func (.func 112) #[] #[]].toArray 107)) := below_new hb hz
      have hz2 := hBB.size
      have HBB := Lib.hid hBB
      have HY := Lib.hid hby
      clear hb hBB hby
      go_wp2_with fail
      refine (getText_any hi _ l a sz _ hn (by omega) (by omega) (H.out.below HBB.out hhi)).mono ?_
      rintro e w3 ⟨he3, hb3⟩
      skip
      rw [HRaw.out.1, HRaw.out.2.1, HRaw.out.2.2] at he3
      have hB3 := HBB.out.trans (hb3.mono hz2)
      have hY3 := HY.out.below hb3 HY.out.lt
      have hz3 := hB3.size
      have HB3 := Lib.hid hB3
      clear hb3 hB3 HRaw HY HBB
      rw [trip_no] at he3
      subst he3
      clear hY3
      go_wp2
      go_ret3
      exact ⟨rfl, HB3.out⟩
    rw [Bool.true_and]
    cases hq : okBy 2 sz ⟨t.toArray⟩
    · have HO := Lib.hid hq
      clear hq
      rw [trip_no]
      go_enter Tryz.func55, Tryz.ntmps55
      go_wp2_with fail
      refine (fieldAt_any no _).mono ?_
      rintro e w1 ⟨he, hb⟩
      rw [HR.out] at he
      subst he
      have hz := hb.size
      have hby := bk.new w1 107 [.int .i64 no, .int .i64 sz, .int .i64 2, .func (.func pi) #[] #[], .func (.func 112) #[] #[]]
      have hBB : Below w.heap.size w (w1.alloc (.cells [.int .i64 no, .int .i64 sz, .int .i64 2, .func (.func pi) #[] #[], .func (.func 112) #[] #[]].toArray 107)) := below_new hb hz
      have hz2 := hBB.size
      have HBB := Lib.hid hBB
      have HY := Lib.hid hby
      clear hb hBB hby
      go_wp2_with fail
      refine (getText_any hi _ l a sz _ hn (by omega) (by omega) (H.out.below HBB.out hhi)).mono ?_
      rintro e w3 ⟨he3, hb3⟩
      skip
      rw [HRaw.out.1, HRaw.out.2.1, HRaw.out.2.2] at he3
      have hB3 := HBB.out.trans (hb3.mono hz2)
      have hY3 := HY.out.below hb3 HY.out.lt
      have hz3 := hB3.size
      have HB3 := Lib.hid hB3
      clear hb3 hB3 HRaw HY HBB
      rw [trip_yes] at he3
      subst he3
      have c0 := hY3.cell 0
      have c1 := hY3.cell 1
      have c2 := hY3.cell 2
      have c3 := hY3.cell 3
      have c4 := hY3.cell 4
      simp only [List.getElem?_cons_zero, List.getElem?_cons_succ] at c0 c1 c2 c3 c4
      clear hY3
      go_wp2_with fail
      refine (allows_any no sz 2 _ _ _ _ HQ.out (by omega)).mono ?_
      rw [HO.out]
      rintro e w4 ⟨rfl, hb4⟩
      go_wp2
      go_ret3
      exact ⟨rfl, HB3.out.trans (hb4.mono hz3)⟩
    · have HO := Lib.hid hq
      clear hq
      rw [trip_yes]
      go_enter Tryz.func55, Tryz.ntmps55
      go_wp2_with fail
      refine (fieldAt_any no _).mono ?_
      rintro e w1 ⟨he, hb⟩
      rw [HR.out] at he
      subst he
      have hz := hb.size
      have hby := bk.new w1 107 [.int .i64 no, .int .i64 sz, .int .i64 2, .func (.func pi) #[] #[], .func (.func 112) #[] #[]]
      have hBB : Below w.heap.size w (w1.alloc (.cells [.int .i64 no, .int .i64 sz, .int .i64 2, .func (.func pi) #[] #[], .func (.func 112) #[] #[]].toArray 107)) := below_new hb hz
      have hz2 := hBB.size
      have HBB := Lib.hid hBB
      have HY := Lib.hid hby
      clear hb hBB hby
      go_wp2_with fail
      refine (getText_any hi _ l a sz _ hn (by omega) (by omega) (H.out.below HBB.out hhi)).mono ?_
      rintro e w3 ⟨he3, hb3⟩
      skip
      rw [HRaw.out.1, HRaw.out.2.1, HRaw.out.2.2] at he3
      have hB3 := HBB.out.trans (hb3.mono hz2)
      have hY3 := HY.out.below hb3 HY.out.lt
      have hz3 := hB3.size
      have HB3 := Lib.hid hB3
      clear hb3 hB3 HRaw HY HBB
      rw [trip_yes] at he3
      subst he3
      have c0 := hY3.cell 0
      have c1 := hY3.cell 1
      have c2 := hY3.cell 2
      have c3 := hY3.cell 3
      have c4 := hY3.cell 4
      simp only [List.getElem?_cons_zero, List.getElem?_cons_succ] at c0 c1 c2 c3 c4
      clear hY3
      go_wp2_with fail
      refine (allows_any no sz 2 _ _ _ _ HQ.out (by omega)).mono ?_
      rw [HO.out]
      rintro e w4 ⟨rfl, hb4⟩
      go_wp2
      go_ret3
      exact ⟨rfl, HB3.out.trans (hb4.mono hz3)⟩
  · have HRaw : Hid ((lenGot l a 2 && gOk l (lenEnd l a 2) (lenVal l a 2)) = rawOk 3 l a sz ∧ gTxt l (lenEnd l a 2) (lenVal l a 2) = rawTxt 3 l a sz ∧ gEnd l (lenEnd l a 2) (lenVal l a 2) = rawEnd 3 l a sz) := Lib.hid ⟨rfl, rfl, rfl⟩
    have HM := Lib.hid (rawTxt_le 3 l a sz hn)
    rw [show getId 3 = 114 from rfl] at HR
    generalize putId 3 = pi at HR
    unfold getOk
    clear hk0
    generalize rawTxt 3 l a sz = t at HRaw HM ⊢
    generalize rawEnd 3 l a sz = en at HRaw ⊢
    generalize rawOk 3 l a sz = ro at HRaw ⊢
    have HQ : Hid ((⟨t.toArray⟩ : ByteArray).size ≤ maxLen) := Lib.hid (by have := HM.out; show t.length ≤ maxLen; unfold maxLen; omega)
    cases ro
    · rw [Bool.false_and, trip_no]
      go_enter Tryz.func55, Tryz.ntmps55
      go_wp2_with fail
      refine (fieldAt_any no _).mono ?_
      rintro e w1 ⟨he, hb⟩
      rw [HR.out] at he
      subst he
      have hz := hb.size
      have hby := bk.new w1 107 [.int .i64 no, .int .i64 sz, .int .i64 3, .func (.func pi) #[] #[], .func (.func 114) #[] #[]]
      have hBB : Below w.heap.size w (w1.alloc (.cells [.int .i64 no, .int .i64 sz, .int .i64 3, .func (.func pi) #[] #[], .func (.func 114) #[] #[]].toArray 107)) := below_new hb hz
      have hz2 := hBB.size
      have HBB := Lib.hid hBB
      have HY := Lib.hid hby
      clear hb hBB hby
      go_wp2_with fail
      refine (getNumVar_any hi _ l a sz _ p (Nat.lt_of_lt_of_le hg hz2) ((HBB.out.cell (p := ⟨1, 0, none⟩) hg).trans HC.out) hn ha HL.out (H.out.below HBB.out hhi) (Nat.le_trans hhi hz2)).mono ?_
      rintro e w3 ⟨he3, hb3⟩
      skip
      rw [HRaw.out.1, HRaw.out.2.1, HRaw.out.2.2] at he3
      have hB3 := HBB.out.trans (hb3.mono hz2)
      have hY3 := HY.out.below hb3 HY.out.lt
      have hz3 := hB3.size
      have HB3 := Lib.hid hB3
      clear hb3 hB3 HRaw HY HBB
      rw [trip_no] at he3
      subst he3
      clear hY3
      go_wp2
      go_ret3
      exact ⟨rfl, HB3.out⟩
    rw [Bool.true_and]
    cases hq : okBy 3 sz ⟨t.toArray⟩
    · have HO := Lib.hid hq
      clear hq
      rw [trip_no]
      go_enter Tryz.func55, Tryz.ntmps55
      go_wp2_with fail
      refine (fieldAt_any no _).mono ?_
      rintro e w1 ⟨he, hb⟩
      rw [HR.out] at he
      subst he
      have hz := hb.size
      have hby := bk.new w1 107 [.int .i64 no, .int .i64 sz, .int .i64 3, .func (.func pi) #[] #[], .func (.func 114) #[] #[]]
      have hBB : Below w.heap.size w (w1.alloc (.cells [.int .i64 no, .int .i64 sz, .int .i64 3, .func (.func pi) #[] #[], .func (.func 114) #[] #[]].toArray 107)) := below_new hb hz
      have hz2 := hBB.size
      have HBB := Lib.hid hBB
      have HY := Lib.hid hby
      clear hb hBB hby
      go_wp2_with fail
      refine (getNumVar_any hi _ l a sz _ p (Nat.lt_of_lt_of_le hg hz2) ((HBB.out.cell (p := ⟨1, 0, none⟩) hg).trans HC.out) hn ha HL.out (H.out.below HBB.out hhi) (Nat.le_trans hhi hz2)).mono ?_
      rintro e w3 ⟨he3, hb3⟩
      skip
      rw [HRaw.out.1, HRaw.out.2.1, HRaw.out.2.2] at he3
      have hB3 := HBB.out.trans (hb3.mono hz2)
      have hY3 := HY.out.below hb3 HY.out.lt
      have hz3 := hB3.size
      have HB3 := Lib.hid hB3
      clear hb3 hB3 HRaw HY HBB
      rw [trip_yes] at he3
      subst he3
      have c0 := hY3.cell 0
      have c1 := hY3.cell 1
      have c2 := hY3.cell 2
      have c3 := hY3.cell 3
      have c4 := hY3.cell 4
      simp only [List.getElem?_cons_zero, List.getElem?_cons_succ] at c0 c1 c2 c3 c4
      clear hY3
      go_wp2_with fail
      refine (allows_any no sz 3 _ _ _ _ HQ.out (by omega)).mono ?_
      rw [HO.out]
      rintro e w4 ⟨rfl, hb4⟩
      go_wp2
      go_ret3
      exact ⟨rfl, HB3.out.trans (hb4.mono hz3)⟩
    · have HO := Lib.hid hq
      clear hq
      rw [trip_yes]
      go_enter Tryz.func55, Tryz.ntmps55
      go_wp2_with fail
      refine (fieldAt_any no _).mono ?_
      rintro e w1 ⟨he, hb⟩
      rw [HR.out] at he
      subst he
      have hz := hb.size
      have hby := bk.new w1 107 [.int .i64 no, .int .i64 sz, .int .i64 3, .func (.func pi) #[] #[], .func (.func 114) #[] #[]]
      have hBB : Below w.heap.size w (w1.alloc (.cells [.int .i64 no, .int .i64 sz, .int .i64 3, .func (.func pi) #[] #[], .func (.func 114) #[] #[]].toArray 107)) := below_new hb hz
      have hz2 := hBB.size
      have HBB := Lib.hid hBB
      have HY := Lib.hid hby
      clear hb hBB hby
      go_wp2_with fail
      refine (getNumVar_any hi _ l a sz _ p (Nat.lt_of_lt_of_le hg hz2) ((HBB.out.cell (p := ⟨1, 0, none⟩) hg).trans HC.out) hn ha HL.out (H.out.below HBB.out hhi) (Nat.le_trans hhi hz2)).mono ?_
      rintro e w3 ⟨he3, hb3⟩
      skip
      rw [HRaw.out.1, HRaw.out.2.1, HRaw.out.2.2] at he3
      have hB3 := HBB.out.trans (hb3.mono hz2)
      have hY3 := HY.out.below hb3 HY.out.lt
      have hz3 := hB3.size
      have HB3 := Lib.hid hB3
      clear hb3 hB3 HRaw HY HBB
      rw [trip_yes] at he3
      subst he3
      have c0 := hY3.cell 0
      have c1 := hY3.cell 1
      have c2 := hY3.cell 2
      have c3 := hY3.cell 3
      have c4 := hY3.cell 4
      simp only [List.getElem?_cons_zero, List.getElem?_cons_succ] at c0 c1 c2 c3 c4
      clear hY3
      go_wp2_with fail
      refine (allows_any no sz 3 _ _ _ _ HQ.out (by omega)).mono ?_
      rw [HO.out]
      rintro e w4 ⟨rfl, hb4⟩
      go_wp2
      go_ret3
      exact ⟨rfl, HB3.out.trans (hb4.mono hz3)⟩
  · have HRaw : Hid ((lenGot l a 2 && inR l (lenEnd l a 2) (lenVal l a 2)) = rawOk 4 l a sz ∧ tPart l (lenEnd l a 2) (lenVal l a 2) = rawTxt 4 l a sz ∧ (lenEnd l a 2 + lenVal l a 2) = rawEnd 4 l a sz) := Lib.hid ⟨rfl, rfl, rfl⟩
    have HM := Lib.hid (rawTxt_le 4 l a sz hn)
    rw [show getId 4 = 116 from rfl] at HR
    generalize putId 4 = pi at HR
    unfold getOk
    clear hk0
    generalize rawTxt 4 l a sz = t at HRaw HM ⊢
    generalize rawEnd 4 l a sz = en at HRaw ⊢
    generalize rawOk 4 l a sz = ro at HRaw ⊢
    have HQ : Hid ((⟨t.toArray⟩ : ByteArray).size ≤ maxLen) := Lib.hid (by have := HM.out; show t.length ≤ maxLen; unfold maxLen; omega)
    cases ro
    · rw [Bool.false_and, trip_no]
      go_enter Tryz.func55, Tryz.ntmps55
      go_wp2_with fail
      refine (fieldAt_any no _).mono ?_
      rintro e w1 ⟨he, hb⟩
      rw [HR.out] at he
      subst he
      have hz := hb.size
      have hby := bk.new w1 107 [.int .i64 no, .int .i64 sz, .int .i64 4, .func (.func pi) #[] #[], .func (.func 116) #[] #[]]
      have hBB : Below w.heap.size w (w1.alloc (.cells [.int .i64 no, .int .i64 sz, .int .i64 4, .func (.func pi) #[] #[], .func (.func 116) #[] #[]].toArray 107)) := below_new hb hz
      have hz2 := hBB.size
      have HBB := Lib.hid hBB
      have HY := Lib.hid hby
      clear hb hBB hby
      go_wp2_with fail
      refine (getTextVar_any hi _ l a sz _ p (Nat.lt_of_lt_of_le hg hz2) ((HBB.out.cell (p := ⟨1, 0, none⟩) hg).trans HC.out) hn ha HL.out (H.out.below HBB.out hhi) (Nat.le_trans hhi hz2)).mono ?_
      rintro e w3 ⟨he3, hb3⟩
      skip
      rw [HRaw.out.1, HRaw.out.2.1, HRaw.out.2.2] at he3
      have hB3 := HBB.out.trans (hb3.mono hz2)
      have hY3 := HY.out.below hb3 HY.out.lt
      have hz3 := hB3.size
      have HB3 := Lib.hid hB3
      clear hb3 hB3 HRaw HY HBB
      rw [trip_no] at he3
      subst he3
      clear hY3
      go_wp2
      go_ret3
      exact ⟨rfl, HB3.out⟩
    rw [Bool.true_and]
    cases hq : okBy 4 sz ⟨t.toArray⟩
    · have HO := Lib.hid hq
      clear hq
      rw [trip_no]
      go_enter Tryz.func55, Tryz.ntmps55
      go_wp2_with fail
      refine (fieldAt_any no _).mono ?_
      rintro e w1 ⟨he, hb⟩
      rw [HR.out] at he
      subst he
      have hz := hb.size
      have hby := bk.new w1 107 [.int .i64 no, .int .i64 sz, .int .i64 4, .func (.func pi) #[] #[], .func (.func 116) #[] #[]]
      have hBB : Below w.heap.size w (w1.alloc (.cells [.int .i64 no, .int .i64 sz, .int .i64 4, .func (.func pi) #[] #[], .func (.func 116) #[] #[]].toArray 107)) := below_new hb hz
      have hz2 := hBB.size
      have HBB := Lib.hid hBB
      have HY := Lib.hid hby
      clear hb hBB hby
      go_wp2_with fail
      refine (getTextVar_any hi _ l a sz _ p (Nat.lt_of_lt_of_le hg hz2) ((HBB.out.cell (p := ⟨1, 0, none⟩) hg).trans HC.out) hn ha HL.out (H.out.below HBB.out hhi) (Nat.le_trans hhi hz2)).mono ?_
      rintro e w3 ⟨he3, hb3⟩
      skip
      rw [HRaw.out.1, HRaw.out.2.1, HRaw.out.2.2] at he3
      have hB3 := HBB.out.trans (hb3.mono hz2)
      have hY3 := HY.out.below hb3 HY.out.lt
      have hz3 := hB3.size
      have HB3 := Lib.hid hB3
      clear hb3 hB3 HRaw HY HBB
      rw [trip_yes] at he3
      subst he3
      have c0 := hY3.cell 0
      have c1 := hY3.cell 1
      have c2 := hY3.cell 2
      have c3 := hY3.cell 3
      have c4 := hY3.cell 4
      simp only [List.getElem?_cons_zero, List.getElem?_cons_succ] at c0 c1 c2 c3 c4
      clear hY3
      go_wp2_with fail
      refine (allows_any no sz 4 _ _ _ _ HQ.out (by omega)).mono ?_
      rw [HO.out]
      rintro e w4 ⟨rfl, hb4⟩
      go_wp2
      go_ret3
      exact ⟨rfl, HB3.out.trans (hb4.mono hz3)⟩
    · have HO := Lib.hid hq
      clear hq
      rw [trip_yes]
      go_enter Tryz.func55, Tryz.ntmps55
      go_wp2_with fail
      refine (fieldAt_any no _).mono ?_
      rintro e w1 ⟨he, hb⟩
      rw [HR.out] at he
      subst he
      have hz := hb.size
      have hby := bk.new w1 107 [.int .i64 no, .int .i64 sz, .int .i64 4, .func (.func pi) #[] #[], .func (.func 116) #[] #[]]
      have hBB : Below w.heap.size w (w1.alloc (.cells [.int .i64 no, .int .i64 sz, .int .i64 4, .func (.func pi) #[] #[], .func (.func 116) #[] #[]].toArray 107)) := below_new hb hz
      have hz2 := hBB.size
      have HBB := Lib.hid hBB
      have HY := Lib.hid hby
      clear hb hBB hby
      go_wp2_with fail
      refine (getTextVar_any hi _ l a sz _ p (Nat.lt_of_lt_of_le hg hz2) ((HBB.out.cell (p := ⟨1, 0, none⟩) hg).trans HC.out) hn ha HL.out (H.out.below HBB.out hhi) (Nat.le_trans hhi hz2)).mono ?_
      rintro e w3 ⟨he3, hb3⟩
      skip
      rw [HRaw.out.1, HRaw.out.2.1, HRaw.out.2.2] at he3
      have hB3 := HBB.out.trans (hb3.mono hz2)
      have hY3 := HY.out.below hb3 HY.out.lt
      have hz3 := hB3.size
      have HB3 := Lib.hid hB3
      clear hb3 hB3 HRaw HY HBB
      rw [trip_yes] at he3
      subst he3
      have c0 := hY3.cell 0
      have c1 := hY3.cell 1
      have c2 := hY3.cell 2
      have c3 := hY3.cell 3
      have c4 := hY3.cell 4
      simp only [List.getElem?_cons_zero, List.getElem?_cons_succ] at c0 c1 c2 c3 c4
      clear hY3
      go_wp2_with fail
      refine (allows_any no sz 4 _ _ _ _ HQ.out (by omega)).mono ?_
      rw [HO.out]
      rintro e w4 ⟨rfl, hb4⟩
      go_wp2
      go_ret3
      exact ⟨rfl, HB3.out.trans (hb4.mono hz3)⟩
  · have HRaw : Hid ((lenGot l a 3 && inR l (lenEnd l a 3) (lenVal l a 3)) = rawOk 5 l a sz ∧ tPart l (lenEnd l a 3) (lenVal l a 3) = rawTxt 5 l a sz ∧ (lenEnd l a 3 + lenVal l a 3) = rawEnd 5 l a sz) := Lib.hid ⟨rfl, rfl, rfl⟩
    have HM := Lib.hid (rawTxt_le 5 l a sz hn)
    rw [show getId 5 = 118 from rfl] at HR
    generalize putId 5 = pi at HR
    unfold getOk
    clear hk0
    generalize rawTxt 5 l a sz = t at HRaw HM ⊢
    generalize rawEnd 5 l a sz = en at HRaw ⊢
    generalize rawOk 5 l a sz = ro at HRaw ⊢
    have HQ : Hid ((⟨t.toArray⟩ : ByteArray).size ≤ maxLen) := Lib.hid (by have := HM.out; show t.length ≤ maxLen; unfold maxLen; omega)
    cases ro
    · rw [Bool.false_and, trip_no]
      go_enter Tryz.func55, Tryz.ntmps55
      go_wp2_with fail
      refine (fieldAt_any no _).mono ?_
      rintro e w1 ⟨he, hb⟩
      rw [HR.out] at he
      subst he
      have hz := hb.size
      have hby := bk.new w1 107 [.int .i64 no, .int .i64 sz, .int .i64 5, .func (.func pi) #[] #[], .func (.func 118) #[] #[]]
      have hBB : Below w.heap.size w (w1.alloc (.cells [.int .i64 no, .int .i64 sz, .int .i64 5, .func (.func pi) #[] #[], .func (.func 118) #[] #[]].toArray 107)) := below_new hb hz
      have hz2 := hBB.size
      have HBB := Lib.hid hBB
      have HY := Lib.hid hby
      clear hb hBB hby
      go_wp2_with fail
      refine (getTextLong_any hi _ l a sz _ p (Nat.lt_of_lt_of_le hg hz2) ((HBB.out.cell (p := ⟨1, 0, none⟩) hg).trans HC.out) hn ha HL.out (H.out.below HBB.out hhi) (Nat.le_trans hhi hz2)).mono ?_
      rintro e w3 ⟨he3, hb3⟩
      skip
      rw [HRaw.out.1, HRaw.out.2.1, HRaw.out.2.2] at he3
      have hB3 := HBB.out.trans (hb3.mono hz2)
      have hY3 := HY.out.below hb3 HY.out.lt
      have hz3 := hB3.size
      have HB3 := Lib.hid hB3
      clear hb3 hB3 HRaw HY HBB
      rw [trip_no] at he3
      subst he3
      clear hY3
      go_wp2
      go_ret3
      exact ⟨rfl, HB3.out⟩
    rw [Bool.true_and]
    cases hq : okBy 5 sz ⟨t.toArray⟩
    · have HO := Lib.hid hq
      clear hq
      rw [trip_no]
      go_enter Tryz.func55, Tryz.ntmps55
      go_wp2_with fail
      refine (fieldAt_any no _).mono ?_
      rintro e w1 ⟨he, hb⟩
      rw [HR.out] at he
      subst he
      have hz := hb.size
      have hby := bk.new w1 107 [.int .i64 no, .int .i64 sz, .int .i64 5, .func (.func pi) #[] #[], .func (.func 118) #[] #[]]
      have hBB : Below w.heap.size w (w1.alloc (.cells [.int .i64 no, .int .i64 sz, .int .i64 5, .func (.func pi) #[] #[], .func (.func 118) #[] #[]].toArray 107)) := below_new hb hz
      have hz2 := hBB.size
      have HBB := Lib.hid hBB
      have HY := Lib.hid hby
      clear hb hBB hby
      go_wp2_with fail
      refine (getTextLong_any hi _ l a sz _ p (Nat.lt_of_lt_of_le hg hz2) ((HBB.out.cell (p := ⟨1, 0, none⟩) hg).trans HC.out) hn ha HL.out (H.out.below HBB.out hhi) (Nat.le_trans hhi hz2)).mono ?_
      rintro e w3 ⟨he3, hb3⟩
      skip
      rw [HRaw.out.1, HRaw.out.2.1, HRaw.out.2.2] at he3
      have hB3 := HBB.out.trans (hb3.mono hz2)
      have hY3 := HY.out.below hb3 HY.out.lt
      have hz3 := hB3.size
      have HB3 := Lib.hid hB3
      clear hb3 hB3 HRaw HY HBB
      rw [trip_yes] at he3
      subst he3
      have c0 := hY3.cell 0
      have c1 := hY3.cell 1
      have c2 := hY3.cell 2
      have c3 := hY3.cell 3
      have c4 := hY3.cell 4
      simp only [List.getElem?_cons_zero, List.getElem?_cons_succ] at c0 c1 c2 c3 c4
      clear hY3
      go_wp2_with fail
      refine (allows_any no sz 5 _ _ _ _ HQ.out (by omega)).mono ?_
      rw [HO.out]
      rintro e w4 ⟨rfl, hb4⟩
      go_wp2
      go_ret3
      exact ⟨rfl, HB3.out.trans (hb4.mono hz3)⟩
    · have HO := Lib.hid hq
      clear hq
      rw [trip_yes]
      go_enter Tryz.func55, Tryz.ntmps55
      go_wp2_with fail
      refine (fieldAt_any no _).mono ?_
      rintro e w1 ⟨he, hb⟩
      rw [HR.out] at he
      subst he
      have hz := hb.size
      have hby := bk.new w1 107 [.int .i64 no, .int .i64 sz, .int .i64 5, .func (.func pi) #[] #[], .func (.func 118) #[] #[]]
      have hBB : Below w.heap.size w (w1.alloc (.cells [.int .i64 no, .int .i64 sz, .int .i64 5, .func (.func pi) #[] #[], .func (.func 118) #[] #[]].toArray 107)) := below_new hb hz
      have hz2 := hBB.size
      have HBB := Lib.hid hBB
      have HY := Lib.hid hby
      clear hb hBB hby
      go_wp2_with fail
      refine (getTextLong_any hi _ l a sz _ p (Nat.lt_of_lt_of_le hg hz2) ((HBB.out.cell (p := ⟨1, 0, none⟩) hg).trans HC.out) hn ha HL.out (H.out.below HBB.out hhi) (Nat.le_trans hhi hz2)).mono ?_
      rintro e w3 ⟨he3, hb3⟩
      skip
      rw [HRaw.out.1, HRaw.out.2.1, HRaw.out.2.2] at he3
      have hB3 := HBB.out.trans (hb3.mono hz2)
      have hY3 := HY.out.below hb3 HY.out.lt
      have hz3 := hB3.size
      have HB3 := Lib.hid hB3
      clear hb3 hB3 HRaw HY HBB
      rw [trip_yes] at he3
      subst he3
      have c0 := hY3.cell 0
      have c1 := hY3.cell 1
      have c2 := hY3.cell 2
      have c3 := hY3.cell 3
      have c4 := hY3.cell 4
      simp only [List.getElem?_cons_zero, List.getElem?_cons_succ] at c0 c1 c2 c3 c4
      clear hY3
      go_wp2_with fail
      refine (allows_any no sz 5 _ _ _ _ HQ.out (by omega)).mono ?_
      rw [HO.out]
      rintro e w4 ⟨rfl, hb4⟩
      go_wp2
      go_ret3
      exact ⟨rfl, HB3.out.trans (hb4.mono hz3)⟩
end Go.Proofs.YtiolebpoofkpmaaGreatDoor
