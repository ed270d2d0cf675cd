/- GetBcd: both functions read n packed digits at an offset; no conditions. -/
import Derived.Test.YtdjlhijaadombaaGreatDoorHex
import Derived.Test.YtdjlhijaadombaaGreatDoorBytesAt
import Derived.Test.YtdjlhijaadombaaGreatDoorDig
import Derived.BigRegion
import Derived.IntWalk
set_option linter.unusedVariables false
namespace Go.Proofs.YtdjlhijaadombaaGreatDoor
open Go.ChangeShapes Go.WideShapes Go.ChangeAt Go.RowKit

/-- are all halves decimal digits? -/
def small (p : List Int) : Bool := (List.range (2 * p.length)).all fun i => decide (halfAt p i ≤ 9)
def decN (p : List Int) (n : Nat) : List UInt8 := (List.range n).map fun i => byteOf (48 + halfAt p i)
def gIn (l : List Int) (a n : Int) : Bool := decide (1 ≤ n) && decide (n ≤ 38) && decide (0 ≤ a) && decide (a + (n + 1) / 2 ≤ l.length)
def gPart (l : List Int) (a n : Int) : List Int := (l.drop a.toNat).take ((n + 1) / 2).toNat
def gOk (l : List Int) (a n : Int) : Bool := gIn l a n && small (gPart l a n) && (decide (n % 2 = 0) || decide (halfAt (gPart l a n) 0 = 0))
def gTxt (l : List Int) (a n : Int) : List UInt8 := if gOk l a n = true then (if n % 2 = 1 then (decN (gPart l a n) (2 * (gPart l a n).length)).drop 1 else decN (gPart l a n) (2 * (gPart l a n).length)) else []
def gEnd (l : List Int) (a n : Int) : Int := if gOk l a n = true then a + (n + 1) / 2 else 0
def gRes (l : List Int) (a n : Int) : Ending := .returned (.tuple #[.string ⟨(gTxt l a n).toArray⟩, .int .i64 (gEnd l a n), .bool (gOk l a n)])

set_option maxRecDepth 100000 in
theorem half_bd {p : List Int} (h : isBytes p) (i : Nat) : 0 ≤ halfAt p i ∧ halfAt p i ≤ 15 := by
  have := h.getD (i / 2)
  unfold halfAt
  split <;> omega
set_option maxRecDepth 100000 in
theorem dig_hex {h : Int} (h0 : 0 ≤ h) (h1 : h ≤ 15) : isDig (byteOf (hexI h)) = decide (h ≤ 9) := by
  have : h = 0 ∨ h = 1 ∨ h = 2 ∨ h = 3 ∨ h = 4 ∨ h = 5 ∨ h = 6 ∨ h = 7 ∨ h = 8 ∨ h = 9 ∨ h = 10 ∨ h = 11 ∨ h = 12 ∨ h = 13 ∨ h = 14 ∨ h = 15 := by omega
  rcases this with rfl | rfl | rfl | rfl | rfl | rfl | rfl | rfl | rfl | rfl | rfl | rfl | rfl | rfl | rfl | rfl <;> rfl
set_option maxRecDepth 100000 in
theorem dig_dec {h : Int} (h0 : 0 ≤ h) (h1 : h ≤ 15) : isDig (byteOf (48 + h)) = decide (h ≤ 9) := by
  have : h = 0 ∨ h = 1 ∨ h = 2 ∨ h = 3 ∨ h = 4 ∨ h = 5 ∨ h = 6 ∨ h = 7 ∨ h = 8 ∨ h = 9 ∨ h = 10 ∨ h = 11 ∨ h = 12 ∨ h = 13 ∨ h = 14 ∨ h = 15 := by omega
  rcases this with rfl | rfl | rfl | rfl | rfl | rfl | rfl | rfl | rfl | rfl | rfl | rfl | rfl | rfl | rfl | rfl <;> rfl
set_option maxRecDepth 100000 in
theorem all_hex {p : List Int} (h : isBytes p) : (hexL p).all isDig = small p := by
  unfold hexL hexN small
  rw [List.map_map, List.all_map]
  congr 1
  funext i
  exact dig_hex (half_bd h i).1 (half_bd h i).2
set_option maxRecDepth 100000 in
theorem all_dec {p : List Int} (h : isBytes p) : (decN p (2 * p.length)).all isDig = small p := by
  unfold decN small
  rw [List.all_map]
  congr 1
  funext i
  exact dig_dec (half_bd h i).1 (half_bd h i).2
set_option maxRecDepth 100000 in
theorem hex_dec {p : List Int} (hs : small p = true) : hexL p = decN p (2 * p.length) := by
  unfold hexL hexN decN small at *
  rw [List.map_map]
  refine List.map_congr_left fun i hi => ?_
  rw [List.all_eq_true] at hs
  have := hs i hi
  simp only [decide_eq_true_eq] at this
  show byteOf (hexI (halfAt p i)) = _
  unfold hexI
  rw [if_pos (by omega)]
set_option maxRecDepth 100000 in
theorem decN_len (p : List Int) (n : Nat) : (decN p n).length = n := by simp [decN]
set_option maxRecDepth 100000 in
theorem hexL_len (p : List Int) : (hexL p).length = 2 * p.length := by simp [hexL, hexN]
set_option maxRecDepth 100000 in
theorem decN_two (p : List Int) (k : Nat) : decN p (2 * (k + 1)) = decN p (2 * k) ++ [byteOf (48 + p.getD k 0 / 16), byteOf (48 + p.getD k 0 % 16)] := by
  unfold decN
  rw [show 2 * (k + 1) = 2 * k + 1 + 1 by omega, List.range_succ, List.range_succ]
  simp [half_even, half_odd]
set_option maxRecDepth 100000 in
theorem digs_list (t : List UInt8) (h : 0 < t.length) : digs ⟨t.toArray⟩ = t.all isDig := by
  unfold digs
  have : (⟨t.toArray⟩ : ByteArray).size = t.length := by rfl
  rw [this, decide_eq_true h, Bool.true_and]
set_option maxRecDepth 100000 in
/-- without its first sign: the same test, if that sign is a zero -/
theorem all_tail {p : List Int} (h : isBytes p) (h0 : 0 < p.length) (hz : halfAt p 0 = 0) : ((decN p (2 * p.length)).drop 1).all isDig = small p := by
  have e := all_dec h
  obtain ⟨m, hm⟩ : ∃ m, 2 * p.length = m + 1 := ⟨2 * p.length - 1, by omega⟩
  rw [hm] at e ⊢
  have hd : decN p (m + 1) = byteOf 48 :: (decN p (m + 1)).drop 1 := by
    unfold decN
    rw [List.range_succ_eq_map]
    simp [hz]
  rw [hd] at e
  simpa [show isDig (byteOf 48) = true from rfl] using e
set_option maxRecDepth 100000 in
theorem gPart_len {l : List Int} {a n : Int} (h : gIn l a n = true) : (gPart l a n).length = ((n + 1) / 2).toNat := by
  simp only [gIn, Bool.and_eq_true, decide_eq_true_eq] at h
  unfold gPart
  rw [List.length_take, List.length_drop]
  omega
set_option maxRecDepth 100000 in
theorem gPart_bytes {l : List Int} (h : isBytes l) (a n : Int) : isBytes (gPart l a n) := fun z hz => h z (List.mem_of_mem_drop (List.mem_of_mem_take hz))
set_option maxRecDepth 100000 in
theorem gRes_no {l : List Int} {a n : Int} (h : gOk l a n = false) : gRes l a n = .returned (.tuple #[.string ⟨#[]⟩, .int .i64 0, .bool false]) := by
  simp [gRes, gTxt, gEnd, h]
set_option maxRecDepth 100000 in
theorem gOk_out {l : List Int} {a n : Int} (h : gIn l a n = false) : gOk l a n = false := by simp [gOk, h]
set_option maxRecDepth 100000 in
theorem gOk_big {l : List Int} {a n : Int} (h : small (gPart l a n) = false) : gOk l a n = false := by simp [gOk, h]
set_option maxRecDepth 100000 in
theorem gOk_lead {l : List Int} {a n : Int} (ho : n % 2 = 1) (h : halfAt (gPart l a n) 0 ≠ 0) : gOk l a n = false := by
  have : decide (n % 2 = 0) = false := decide_eq_false (by omega)
  simp [gOk, h, this]
set_option maxRecDepth 100000 in
theorem gRes_odd {l : List Int} {a n : Int} (hi : gIn l a n = true) (hs : small (gPart l a n) = true) (ho : n % 2 = 1) (hz : halfAt (gPart l a n) 0 = 0) :
    gRes l a n = .returned (.tuple #[.string ⟨((decN (gPart l a n) (2 * (gPart l a n).length)).drop 1).toArray⟩, .int .i64 (a + (n + 1) / 2), .bool true]) := by
  have : gOk l a n = true := by simp [gOk, hi, hs, hz]
  simp only [gRes, gTxt, gEnd, this, ho, if_true]
set_option maxRecDepth 100000 in
theorem gRes_even {l : List Int} {a n : Int} (hi : gIn l a n = true) (hs : small (gPart l a n) = true) (ho : ¬ n % 2 = 1) :
    gRes l a n = .returned (.tuple #[.string ⟨(decN (gPart l a n) (2 * (gPart l a n).length)).toArray⟩, .int .i64 (a + (n + 1) / 2), .bool true]) := by
  have h2 : n % 2 = 0 := by omega
  have : gOk l a n = true := by simp [gOk, hi, hs, h2]
  simp only [gRes, gTxt, gEnd, this, if_true]
  rw [if_neg ho]
set_option maxRecDepth 100000 in
theorem gIn_no {l : List Int} {a n : Int} (h : n < 1 ∨ 38 < n ∨ a < 0 ∨ (l.length : Int) < a + (n + 1) / 2) : gIn l a n = false := by
  cases hg : gIn l a n
  · rfl
  · simp only [gIn, Bool.and_eq_true, decide_eq_true_eq] at hg; omega

set_option maxRecDepth 100000 in
theorem gPart_get {l : List Int} {a n : Int} (h : gIn l a n = true) (k : Nat) (hk : k < ((n + 1) / 2).toNat) : (gPart l a n).getD k 0 = l.getD (a.toNat + k) 0 := by
  unfold gPart
  rw [List.getD_eq_getElem?_getD, List.getD_eq_getElem?_getD, List.getElem?_take_of_lt hk, List.getElem?_drop]
set_option maxRecDepth 100000 in
theorem dec_first {p : List Int} (h : isBytes p) (h0 : 0 < p.length) : ∃ c r, decN p (2 * p.length) = c :: r ∧ (c.toNat : Int) = 48 + halfAt p 0 := by
  obtain ⟨m, hm⟩ : ∃ m, 2 * p.length = m + 1 := ⟨2 * p.length - 1, by omega⟩
  rw [hm]
  unfold decN
  rw [List.range_succ_eq_map]
  refine ⟨_, _, rfl, ?_⟩
  have hb := half_bd h 0
  unfold byteOf
  rw [UInt8.toNat_ofNat']
  omega
set_option maxRecDepth 100000 in
theorem str_first {t : List UInt8} {c : UInt8} {r : List UInt8} (h : t = c :: r) (h0 : 0 < (⟨t.toArray⟩ : ByteArray).size) : (⟨t.toArray⟩ : ByteArray)[0] = c := by subst h; rfl
set_option maxRecDepth 100000 in
theorem str_tail (t : List UInt8) : (⟨t.toArray⟩ : ByteArray).extract 1 (⟨t.toArray⟩ : ByteArray).size = ⟨(t.drop 1).toArray⟩ := by
  apply ByteArray.ext
  rw [ByteArray.data_extract]
  show t.toArray.extract 1 t.length = _
  simp [List.extract_toArray]
  exact List.take_of_length_le (by simp)

set_option maxRecDepth 100000 in
set_option maxHeartbeats 1600000 in
theorem implGetBcd_any (hi : Nat) (v : Value) (l : List Int) (a n : Int) (w : World) (hn : l.length ≤ 1073741824) (ha : a ≤ 9223372036854775807) (hl : isBytes l) (h : rd .u8 hi w v l) (hhi : hi ≤ w.heap.size) :
    Calls Tryz.prog 58 #[v, .int .i64 a, .int .i64 n] w fun e w' => e = gRes l a n ∧ Below w.heap.size w w' := by
  by_cases h1 : n < 1
  · rw [gRes_no (gOk_out (gIn_no (.inl h1)))]
    go_enter Tryz.func58, Tryz.ntmps58
    go_wp2
    go_ret3
    exact ⟨rfl, Below.refl _ _⟩
  by_cases h2 : 38 < n
  · rw [gRes_no (gOk_out (gIn_no (.inr (.inl h2))))]
    go_enter Tryz.func58, Tryz.ntmps58
    go_wp2
    go_ret3
    exact ⟨rfl, Below.refl _ _⟩
  obtain ⟨N, hN⟩ : ∃ N : Nat, (n + 1) / 2 = (N : Int) := ⟨((n + 1) / 2).toNat, by omega⟩
  have hN64 : N ≤ 64 := by omega
  have hN1 : 1 ≤ N := by omega
  have H := Lib.hid h
  by_cases hbad : a < 0 ∨ (l.length : Int) - N < a
  · rw [gRes_no (gOk_out (gIn_no (.inr (.inr (by rcases hbad with h | h; exact .inl h; exact .inr (by omega))))))]
    have HB := Lib.hid hbad
    clear hbad h
    go_enter Tryz.func58, Tryz.ntmps58
    go_wp2_with fail
    refine (bytesAt_no hi _ l a N w hn hN64 H.out HB.out).mono ?_
    rintro e w1 ⟨rfl, rfl⟩
    go_wp2
    go_ret3
    exact ⟨rfl, Below.refl _ _⟩
  have hin : gIn l a n = true := by simp [gIn]; omega
  obtain ⟨b0, rfl⟩ : ∃ b0 : Nat, a = b0 := ⟨a.toNat, by omega⟩
  have hpl := gPart_len hin
  have hpb := gPart_bytes hl (b0 : Int) n
  have hpp : gPart l (b0 : Int) n = (l.drop b0).take N := by unfold gPart; rw [hN]; rfl
  have HI := Lib.hid hin
  have han : b0 + N ≤ l.length := by omega
  rw [hN, Int.toNat_natCast] at hpl
  have HPP := Lib.hid hpp
  clear hin hpp h hbad
  go_enter Tryz.func58, Tryz.ntmps58
  go_wp2_with fail
  refine (bytesAt_yes hi _ l b0 N w hn hN64 hN1 H.out han).mono ?_
  rw [← HPP.out]
  generalize hp : gPart l (b0 : Int) n = p at *
  rintro e w1 ⟨u, rfl, hu, rfl⟩
  have HP := Lib.hid hp
  have HU := Lib.hid hu
  have hm0 : 0 < p.length := by omega
  have hm2 : p.length ≤ 19 := by omega
  obtain ⟨A1, c1, rfl, -⟩ := hu.form
  have HL := Lib.hid hpl
  have HN := Lib.hid hN
  clear hp hu hpl
  go_wp2_with fail
  refine (implHexText_any hi _ p _ (by omega) hpb HU.out hhi).mono ?_
  rintro e w1 ⟨rfl, hb⟩
  have hft := all_hex hpb
  have HF := Lib.hid (dec_first hpb hm0)
  have HX := Lib.hid (fun hs => hex_dec (p := p) hs)
  have htl := hexL_len p
  have hsz : (⟨(hexL p).toArray⟩ : ByteArray).size = 2 * p.length := htl
  have hpos : 0 < (⟨(hexL p).toArray⟩ : ByteArray).size := by omega
  have ED : Hid (digs ⟨(hexL p).toArray⟩ = small p) := Lib.hid (by rw [digs_list _ (by omega), hft])
  have HST := Lib.hid (str_tail (hexL p))
  have HFS := Lib.hid (fun (c : UInt8) (r : List UInt8) (h : hexL p = c :: r) => str_first h hpos)
  generalize hSS : (⟨(hexL p).toArray⟩ : ByteArray) = S at hsz hpos ED HST HFS ⊢
  have hxs : S.size ≤ maxLen := by unfold maxLen; omega
  have HSS := Lib.hid hSS
  clear hSS hsz htl hft
  cases hsm : small p
  · have HSM := Lib.hid hsm
    rw [hsm] at ED
    clear hsm
    go_wp2_with (go_at_call 45; refine (implDigits_any _ _ hxs).mono ?_; rw [ED.out]; rintro e w2 ⟨rfl, hb2⟩)
    go_ret3
    rw [gRes_no (gOk_big (by rw [HP.out]; exact HSM.out))]
    exact ⟨rfl, hb.trans (hb2.mono hb.size)⟩
  have HSM := Lib.hid hsm
  rw [hsm] at ED
  have HXD := Lib.hid (HX.out hsm)
  clear hsm
  by_cases hodd : n % 2 = 1
  · have e1 : (n % 2 == 1) = true := beq_iff_eq.2 hodd
    obtain ⟨c2, r2, hcr, hc1⟩ := HF.out
    have HS0 : Hid (S[0]'hpos = c2) := Lib.hid (HFS.out c2 r2 (HXD.out.trans hcr))
    by_cases hz : halfAt p 0 = 0
    · have e2 : ((S[0].toNat : Int) != 48) = false := by rw [HS0.out, hc1, hz]; rfl
      have HOD := Lib.hid hodd
      have HZZ := Lib.hid hz
      clear hz hc1 hodd hcr
      go_wp2_with (go_at_call 45; refine (implDigits_any _ _ hxs).mono ?_; rw [ED.out]; rintro e w2 ⟨rfl, hb2⟩)
      go_ret3
      rw [gRes_odd HI.out (by rw [HP.out]; exact HSM.out) HOD.out (by rw [HP.out]; exact HZZ.out), HP.out, ← HXD.out, ← HST.out, HN.out, HL.out]
      exact ⟨rfl, hb.trans (hb2.mono hb.size)⟩
    · have hb0 := (half_bd hpb 0).1
      have e2 : ((S[0].toNat : Int) != 48) = true := bne_iff_ne.2 (by rw [HS0.out, hc1]; omega)
      have HG := Lib.hid (gOk_lead (l := l) (a := (b0 : Int)) hodd (by rw [HP.out]; exact hz))
      clear hz hc1 hodd hcr
      go_wp2_with (go_at_call 45; refine (implDigits_any _ _ hxs).mono ?_; rw [ED.out]; rintro e w2 ⟨rfl, hb2⟩)
      go_ret3
      rw [gRes_no HG.out]
      exact ⟨rfl, hb.trans (hb2.mono hb.size)⟩
  · have e1 : (n % 2 == 1) = false := beq_eq_false_iff_ne.2 hodd
    have HOD := Lib.hid hodd
    clear hodd
    go_wp2_with (go_at_call 45; refine (implDigits_any _ _ hxs).mono ?_; rw [ED.out]; rintro e w2 ⟨rfl, hb2⟩)
    go_ret3
    rw [gRes_even HI.out (by rw [HP.out]; exact HSM.out) HOD.out, HP.out, ← HXD.out, HSS.out, HN.out, HL.out]
    exact ⟨rfl, hb.trans (hb2.mono hb.size)⟩
end Go.Proofs.YtdjlhijaadombaaGreatDoor
