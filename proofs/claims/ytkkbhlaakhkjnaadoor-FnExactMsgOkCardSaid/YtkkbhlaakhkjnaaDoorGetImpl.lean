/- GetField of the program; the sentinel of the number scanner holds an error. -/
import Derived.Test.YtkkbhlaakhkjnaaDoorGetPure
set_option linter.unusedVariables false
namespace Go.Proofs.YtkkbhlaakhkjnaaDoor
open Go.ChangeShapes Go.WideShapes Go.ChangeAt Go.RowKit

set_option maxRecDepth 100000 in
theorem getText_any (hi : Nat) (v : Value) (l : List Int) (a n : Int) (w : World) (hn : l.length ≤ 1073741824) (hn0 : 0 ≤ n) (hn1 : n ≤ 1000000000000000000) (h : rd .u8 hi w v l) :
    Calls Tryd.prog 32 #[v, .int .i64 a, .int .i64 n] w fun e w' => e = trip (inR l a n) (tPart l a n) (a + n) ∧ Below w.heap.size w w' := by
  obtain ⟨m, rfl⟩ : ∃ m : Nat, n = m := ⟨n.toNat, by omega⟩
  have H := Lib.hid h
  clear h
  cases hr : inR l a (m : Int)
  · rw [trip_no]
    have hbad : a < 0 ∨ (l.length : Int) - (m : Int) < a := by
      rcases Int.lt_or_le a 0 with h0 | h0
      · exact Or.inl h0
      · rcases Int.lt_or_le ((l.length : Int) - m) a with h1 | h1
        · exact Or.inr h1
        · have : inR l a (m : Int) = true := by simp [inR]; omega
          rw [this] at hr; cases hr
    have HB := Lib.hid hbad
    clear hbad hr
    go_enter Tryd.func32, Tryd.ntmps32
    go_wp2_with fail
    refine (bytesAt_out hi _ l a m w hn (by omega) H.out HB.out).mono ?_
    rintro e w1 ⟨rfl, rfl⟩
    go_wp2
    go_ret3
    exact ⟨rfl, Below.refl _ _⟩
  · have hb := inR_yes hr
    rw [trip_yes]
    obtain ⟨b0, rfl⟩ : ∃ b0 : Nat, a = b0 := ⟨a.toNat, by omega⟩
    have HT : Hid (tPart l (b0 : Int) (m : Int) = ((l.drop b0).take m).map byteOf) := Lib.hid rfl
    have han : b0 + m ≤ l.length := by omega
    clear hr hb
    rw [HT.out]
    clear HT
    have HY := Lib.hid (bytesAt_in hi _ l b0 m w hn H.out han)
    clear H
    generalize (l.drop b0).take m = q at HY ⊢
    go_enter Tryd.func32, Tryd.ntmps32
    go_wp2_with fail
    refine HY.out.mono ?_
    rintro e w1 ⟨u, rfl, hu, rfl⟩
    have hst := str_of_rd hu
    clear hu
    go_wp2
    go_ret3
    exact ⟨rfl, Below.refl _ _⟩

set_option maxRecDepth 100000 in
set_option maxHeartbeats 800000 in
theorem getBehindBcd_any (hi : Nat) (v : Value) (l : List Int) (a : Int) (w : World) (p : Addr) (hg : 1 < w.heap.size) (hc : w.cell? ⟨1, 0, none⟩ = some (.iface 115 (.pointer (some p)))) (hn : l.length ≤ 1073741824) (ha : a ≤ 9223372036854775807) (hl : isBytes l) (h : rd .u8 hi w v l) (hhi : hi ≤ w.heap.size) :
    Calls Tryd.prog 43 #[v, .int .i64 a, .int .i64 2, .func (.func 30) #[] #[]] w fun e w' => e = trip (lenGot l a 2 && gOk l (lenEnd l a 2) (lenVal l a 2)) (gTxt l (lenEnd l a 2) (lenVal l a 2)) (gEnd l (lenEnd l a 2) (lenVal l a 2)) ∧ Below w.heap.size w w' := by
  have H := Lib.hid h
  have HL := Lib.hid hl
  have HC := Lib.hid hc
  have he := lenEnd_bd l a 2
  have hv := lenVal_bd l a 2
  clear h hc hl
  cases hgot : lenGot l a 2
  · have HG := Lib.hid hgot
    rw [Bool.false_and, trip_no]
    clear hgot
    go_enter Tryd.func43, Tryd.ntmps43
    go_wp2_with fail
    refine (implGetLen_any hi _ l a _ _ p hg HC.out hn ha HL.out H.out hhi).mono ?_
    rw [lenRes_trip, HG.out]
    rintro e w1 ⟨rfl, hb⟩
    go_wp2
    go_ret3
    exact ⟨rfl, hb⟩
  · have HG := Lib.hid hgot
    rw [Bool.true_and]
    clear hgot
    go_enter Tryd.func43, Tryd.ntmps43
    go_wp2_with fail
    refine (implGetLen_any hi _ l a _ _ p hg HC.out hn ha HL.out H.out hhi).mono ?_
    rw [lenRes_trip, HG.out]
    rintro e w1 ⟨rfl, hb⟩
    have HB1 := Lib.hid hb
    have hz1 := hb.size
    clear hb
    go_wp2_with fail
    refine (implGetBcd_any hi _ l _ _ _ hn (by omega) HL.out (H.out.below HB1.out hhi) (Nat.le_trans hhi hz1)).mono ?_
    rintro e w2 ⟨he2, hb2⟩
    rw [gRes_trip] at he2
    obtain ⟨s0, x0, b0, hf⟩ := trip_form (gOk l (lenEnd l a 2) (lenVal l a 2)) (gTxt l (lenEnd l a 2) (lenVal l a 2)) (gEnd l (lenEnd l a 2) (lenVal l a 2))
    have HF := Lib.hid hf
    rw [hf] at he2
    clear hf
    subst he2
    go_wp2
    go_ret3
    rw [HF.out]
    exact ⟨rfl, HB1.out.trans (hb2.mono hz1)⟩

set_option maxRecDepth 100000 in
set_option maxHeartbeats 800000 in
theorem getBehindText_any (hi : Nat) (v : Value) (l : List Int) (a : Int) (w : World) (p : Addr) (hg : 1 < w.heap.size) (hc : w.cell? ⟨1, 0, none⟩ = some (.iface 115 (.pointer (some p)))) (hn : l.length ≤ 1073741824) (ha : a ≤ 9223372036854775807) (hl : isBytes l) (h : rd .u8 hi w v l) (hhi : hi ≤ w.heap.size) :
    Calls Tryd.prog 43 #[v, .int .i64 a, .int .i64 2, .func (.func 32) #[] #[]] w fun e w' => e = trip (lenGot l a 2 && inR l (lenEnd l a 2) (lenVal l a 2)) (tPart l (lenEnd l a 2) (lenVal l a 2)) (lenEnd l a 2 + lenVal l a 2) ∧ Below w.heap.size w w' := by
  have H := Lib.hid h
  have HL := Lib.hid hl
  have HC := Lib.hid hc
  have he := lenEnd_bd l a 2
  have hv := lenVal_bd l a 2
  clear h hc hl
  cases hgot : lenGot l a 2
  · have HG := Lib.hid hgot
    rw [Bool.false_and, trip_no]
    clear hgot
    go_enter Tryd.func43, Tryd.ntmps43
    go_wp2_with fail
    refine (implGetLen_any hi _ l a _ _ p hg HC.out hn ha HL.out H.out hhi).mono ?_
    rw [lenRes_trip, HG.out]
    rintro e w1 ⟨rfl, hb⟩
    go_wp2
    go_ret3
    exact ⟨rfl, hb⟩
  · have HG := Lib.hid hgot
    rw [Bool.true_and]
    clear hgot
    go_enter Tryd.func43, Tryd.ntmps43
    go_wp2_with fail
    refine (implGetLen_any hi _ l a _ _ p hg HC.out hn ha HL.out H.out hhi).mono ?_
    rw [lenRes_trip, HG.out]
    rintro e w1 ⟨rfl, hb⟩
    have HB1 := Lib.hid hb
    have hz1 := hb.size
    clear hb
    go_wp2_with fail
    refine (getText_any hi _ l _ _ _ hn (by omega) (by omega) (H.out.below HB1.out hhi)).mono ?_
    rintro e w2 ⟨he2, hb2⟩
    skip
    obtain ⟨s0, x0, b0, hf⟩ := trip_form (inR l (lenEnd l a 2) (lenVal l a 2)) (tPart l (lenEnd l a 2) (lenVal l a 2)) (lenEnd l a 2 + lenVal l a 2)
    have HF := Lib.hid hf
    rw [hf] at he2
    clear hf
    subst he2
    go_wp2
    go_ret3
    rw [HF.out]
    exact ⟨rfl, HB1.out.trans (hb2.mono hz1)⟩

set_option maxRecDepth 100000 in
set_option maxHeartbeats 800000 in
theorem getBehindLong_any (hi : Nat) (v : Value) (l : List Int) (a : Int) (w : World) (p : Addr) (hg : 1 < w.heap.size) (hc : w.cell? ⟨1, 0, none⟩ = some (.iface 115 (.pointer (some p)))) (hn : l.length ≤ 1073741824) (ha : a ≤ 9223372036854775807) (hl : isBytes l) (h : rd .u8 hi w v l) (hhi : hi ≤ w.heap.size) :
    Calls Tryd.prog 43 #[v, .int .i64 a, .int .i64 3, .func (.func 32) #[] #[]] w fun e w' => e = trip (lenGot l a 3 && inR l (lenEnd l a 3) (lenVal l a 3)) (tPart l (lenEnd l a 3) (lenVal l a 3)) (lenEnd l a 3 + lenVal l a 3) ∧ Below w.heap.size w w' := by
  have H := Lib.hid h
  have HL := Lib.hid hl
  have HC := Lib.hid hc
  have he := lenEnd_bd l a 3
  have hv := lenVal_bd l a 3
  clear h hc hl
  cases hgot : lenGot l a 3
  · have HG := Lib.hid hgot
    rw [Bool.false_and, trip_no]
    clear hgot
    go_enter Tryd.func43, Tryd.ntmps43
    go_wp2_with fail
    refine (implGetLen_any hi _ l a _ _ p hg HC.out hn ha HL.out H.out hhi).mono ?_
    rw [lenRes_trip, HG.out]
    rintro e w1 ⟨rfl, hb⟩
    go_wp2
    go_ret3
    exact ⟨rfl, hb⟩
  · have HG := Lib.hid hgot
    rw [Bool.true_and]
    clear hgot
    go_enter Tryd.func43, Tryd.ntmps43
    go_wp2_with fail
    refine (implGetLen_any hi _ l a _ _ p hg HC.out hn ha HL.out H.out hhi).mono ?_
    rw [lenRes_trip, HG.out]
    rintro e w1 ⟨rfl, hb⟩
    have HB1 := Lib.hid hb
    have hz1 := hb.size
    clear hb
    go_wp2_with fail
    refine (getText_any hi _ l _ _ _ hn (by omega) (by omega) (H.out.below HB1.out hhi)).mono ?_
    rintro e w2 ⟨he2, hb2⟩
    skip
    obtain ⟨s0, x0, b0, hf⟩ := trip_form (inR l (lenEnd l a 3) (lenVal l a 3)) (tPart l (lenEnd l a 3) (lenVal l a 3)) (lenEnd l a 3 + lenVal l a 3)
    have HF := Lib.hid hf
    rw [hf] at he2
    clear hf
    subst he2
    go_wp2
    go_ret3
    rw [HF.out]
    exact ⟨rfl, HB1.out.trans (hb2.mono hz1)⟩

set_option maxRecDepth 100000 in
theorem getNumVar_any (hi : Nat) (v : Value) (l : List Int) (a n : Int) (w : World) (p : Addr) (hg : 1 < w.heap.size) (hc : w.cell? ⟨1, 0, none⟩ = some (.iface 115 (.pointer (some p)))) (hn : l.length ≤ 1073741824) (ha : a ≤ 9223372036854775807) (hl : isBytes l) (h : rd .u8 hi w v l) (hhi : hi ≤ w.heap.size) :
    Calls Tryd.prog 34 #[v, .int .i64 a, .int .i64 n] w fun e w' => e = trip (lenGot l a 2 && gOk l (lenEnd l a 2) (lenVal l a 2)) (gTxt l (lenEnd l a 2) (lenVal l a 2)) (gEnd l (lenEnd l a 2) (lenVal l a 2)) ∧ Below w.heap.size w w' := by
  have HH := Lib.hid (getBehindBcd_any hi v l a w p hg hc hn ha hl h hhi)
  clear h hc hl
  go_enter Tryd.func34, Tryd.ntmps34
  go_wp2_with fail
  refine HH.out.mono ?_
  rintro e w1 ⟨he, hb⟩
  obtain ⟨s0, x0, b0, hf⟩ := trip_form (lenGot l a 2 && gOk l (lenEnd l a 2) (lenVal l a 2)) (gTxt l (lenEnd l a 2) (lenVal l a 2)) (gEnd l (lenEnd l a 2) (lenVal l a 2))
  have HF := Lib.hid hf
  rw [hf] at he
  clear hf
  subst he
  go_wp2
  go_ret3
  rw [HF.out]
  exact ⟨rfl, hb⟩

set_option maxRecDepth 100000 in
theorem getTextVar_any (hi : Nat) (v : Value) (l : List Int) (a n : Int) (w : World) (p : Addr) (hg : 1 < w.heap.size) (hc : w.cell? ⟨1, 0, none⟩ = some (.iface 115 (.pointer (some p)))) (hn : l.length ≤ 1073741824) (ha : a ≤ 9223372036854775807) (hl : isBytes l) (h : rd .u8 hi w v l) (hhi : hi ≤ w.heap.size) :
    Calls Tryd.prog 36 #[v, .int .i64 a, .int .i64 n] w fun e w' => e = trip (lenGot l a 2 && inR l (lenEnd l a 2) (lenVal l a 2)) (tPart l (lenEnd l a 2) (lenVal l a 2)) (lenEnd l a 2 + lenVal l a 2) ∧ Below w.heap.size w w' := by
  have HH := Lib.hid (getBehindText_any hi v l a w p hg hc hn ha hl h hhi)
  clear h hc hl
  go_enter Tryd.func36, Tryd.ntmps36
  go_wp2_with fail
  refine HH.out.mono ?_
  rintro e w1 ⟨he, hb⟩
  obtain ⟨s0, x0, b0, hf⟩ := trip_form (lenGot l a 2 && inR l (lenEnd l a 2) (lenVal l a 2)) (tPart l (lenEnd l a 2) (lenVal l a 2)) (lenEnd l a 2 + lenVal l a 2)
  have HF := Lib.hid hf
  rw [hf] at he
  clear hf
  subst he
  go_wp2
  go_ret3
  rw [HF.out]
  exact ⟨rfl, hb⟩

set_option maxRecDepth 100000 in
theorem getTextLong_any (hi : Nat) (v : Value) (l : List Int) (a n : Int) (w : World) (p : Addr) (hg : 1 < w.heap.size) (hc : w.cell? ⟨1, 0, none⟩ = some (.iface 115 (.pointer (some p)))) (hn : l.length ≤ 1073741824) (ha : a ≤ 9223372036854775807) (hl : isBytes l) (h : rd .u8 hi w v l) (hhi : hi ≤ w.heap.size) :
    Calls Tryd.prog 38 #[v, .int .i64 a, .int .i64 n] w fun e w' => e = trip (lenGot l a 3 && inR l (lenEnd l a 3) (lenVal l a 3)) (tPart l (lenEnd l a 3) (lenVal l a 3)) (lenEnd l a 3 + lenVal l a 3) ∧ Below w.heap.size w w' := by
  have HH := Lib.hid (getBehindLong_any hi v l a w p hg hc hn ha hl h hhi)
  clear h hc hl
  go_enter Tryd.func38, Tryd.ntmps38
  go_wp2_with fail
  refine HH.out.mono ?_
  rintro e w1 ⟨he, hb⟩
  obtain ⟨s0, x0, b0, hf⟩ := trip_form (lenGot l a 3 && inR l (lenEnd l a 3) (lenVal l a 3)) (tPart l (lenEnd l a 3) (lenVal l a 3)) (lenEnd l a 3 + lenVal l a 3)
  have HF := Lib.hid hf
  rw [hf] at he
  clear hf
  subst he
  go_wp2
  go_ret3
  rw [HF.out]
  exact ⟨rfl, hb⟩

/-- what the decoder of a kind finds, before it is asked whether it fits -/
def rawOk (kd : Int) (l : List Int) (a sz : Int) : Bool := if kd = 1 then gOk l a sz else if kd = 2 then inR l a sz else if kd = 3 then (lenGot l a 2 && gOk l (lenEnd l a 2) (lenVal l a 2)) else if kd = 4 then (lenGot l a 2 && inR l (lenEnd l a 2) (lenVal l a 2)) else (lenGot l a 3 && inR l (lenEnd l a 3) (lenVal l a 3))
def rawTxt (kd : Int) (l : List Int) (a sz : Int) : List UInt8 := if kd = 1 then gTxt l a sz else if kd = 2 then tPart l a sz else if kd = 3 then gTxt l (lenEnd l a 2) (lenVal l a 2) else if kd = 4 then tPart l (lenEnd l a 2) (lenVal l a 2) else tPart l (lenEnd l a 3) (lenVal l a 3)
def rawEnd (kd : Int) (l : List Int) (a sz : Int) : Int := if kd = 1 then gEnd l a sz else if kd = 2 then (a + sz) else if kd = 3 then gEnd l (lenEnd l a 2) (lenVal l a 2) else if kd = 4 then (lenEnd l a 2 + lenVal l a 2) else (lenEnd l a 3 + lenVal l a 3)
def getOk (kd : Int) (l : List Int) (a sz : Int) : Bool := rawOk kd l a sz && okBy kd sz ⟨(rawTxt kd l a sz).toArray⟩
/-- what GetField finds -/
def getRes (l : List Int) (a no : Int) : Ending := if fKind no = 0 then trip false [] 0 else trip (getOk (fKind no) l a (fSize no)) (rawTxt (fKind no) l a (fSize no)) (rawEnd (fKind no) l a (fSize no))
set_option maxRecDepth 100000 in
theorem rawTxt_le (kd : Int) (l : List Int) (a sz : Int) (hn : l.length ≤ 1073741824) : (rawTxt kd l a sz).length ≤ 1073741824 := by
  unfold rawTxt
  repeat' split
  all_goals first | exact Nat.le_trans (gTxt_len _ _ _) (by decide) | exact Nat.le_trans (tPart_le _ _ _) hn
end Go.Proofs.YtkkbhlaakhkjnaaDoor
