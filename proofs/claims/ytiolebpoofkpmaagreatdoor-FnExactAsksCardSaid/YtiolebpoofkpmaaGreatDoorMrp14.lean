/- GetBcd: both functions read n packed digits at an offset; no conditions. -/
import Derived.Test.YtiolebpoofkpmaaGreatDoorMrp12
import Derived.Test.YtiolebpoofkpmaaGreatDoorMrp1
import Derived.BigRegion
import Derived.IntWalk
import Derived.Test.YtiolebpoofkpmaaGreatDoorMrp4
import Derived.Lib.ItoaNum
import Derived.Lib.ItoaLen
import Derived.Test.YtiolebpoofkpmaaGreatDoorShelf
import Derived.Lib.AppendIntMem
import Derived.Lib.Repeat
import Derived.Test.YtiolebpoofkpmaaGreatDoorMrp8
import Derived.Lib.ConvBytes
import Derived.Laws.AppendOwn
import Derived.Test.YtiolebpoofkpmaaGreatDoorMrp7
import Derived.Test.YtiolebpoofkpmaaGreatDoorMrp9
import Derived.Laws.EntriesVeiled
import Derived.LaidMore
set_option linter.unusedVariables false
namespace Go.Proofs.YtiolebpoofkpmaaGreatDoor
open Go.ChangeShapes Go.WideShapes Go.ChangeAt Go.RowKit

/-- are all halves decimal digits? -/
def small (p : List Int) : Bool := (List.range (2 * p.length)).all fun i => decide (halfAt p i ≤ 9)
def decN (p : List Int) (n : Nat) : List UInt8 := (List.range n).map fun i => byteOf (48 + halfAt p i)
def gIn (l : List Int) (a n : Int) : Bool := decide (1 ≤ n) && decide (n ≤ 38) && decide (0 ≤ a) && decide (a + (n + 1) / 2 ≤ l.length)
def gPart (l : List Int) (a n : Int) : List Int := (l.drop a.toNat).take ((n + 1) / 2).toNat
def gOk (l : List Int) (a n : Int) : Bool := gIn l a n && small (gPart l a n) && (decide (n % 2 = 0) || decide (halfAt (gPart l a n) 0 = 0))
def gTxt (l : List Int) (a n : Int) : List UInt8 := if gOk l a n = true then (if n % 2 = 1 then (decN (gPart l a n) (2 * (gPart l a n).length)).drop 1 else decN (gPart l a n) (2 * (gPart l a n).length)) else []
def gEnd (l : List Int) (a n : Int) : Int := if gOk l a n = true then a + (n + 1) / 2 else 0
def gRes (l : List Int) (a n : Int) : Ending := .returned (.tuple #[.string ⟨(gTxt l a n).toArray⟩, .int .i64 (gEnd l a n), .bool (gOk l a n)])

set_option maxRecDepth 100000 in
theorem half_bd {p : List Int} (h : isBytes p) (i : Nat) : 0 ≤ halfAt p i ∧ halfAt p i ≤ 15 := by
  have := h.getD (i / 2)
  unfold halfAt
  split <;> omega
set_option maxRecDepth 100000 in
theorem dig_hex {h : Int} (h0 : 0 ≤ h) (h1 : h ≤ 15) : isDig (byteOf (hexI h)) = decide (h ≤ 9) := by
  have : h = 0 ∨ h = 1 ∨ h = 2 ∨ h = 3 ∨ h = 4 ∨ h = 5 ∨ h = 6 ∨ h = 7 ∨ h = 8 ∨ h = 9 ∨ h = 10 ∨ h = 11 ∨ h = 12 ∨ h = 13 ∨ h = 14 ∨ h = 15 := by omega
  rcases this with rfl | rfl | rfl | rfl | rfl | rfl | rfl | rfl | rfl | rfl | rfl | rfl | rfl | rfl | rfl | rfl <;> rfl
set_option maxRecDepth 100000 in
theorem dig_dec {h : Int} (h0 : 0 ≤ h) (h1 : h ≤ 15) : isDig (byteOf (48 + h)) = decide (h ≤ 9) := by
  have : h = 0 ∨ h = 1 ∨ h = 2 ∨ h = 3 ∨ h = 4 ∨ h = 5 ∨ h = 6 ∨ h = 7 ∨ h = 8 ∨ h = 9 ∨ h = 10 ∨ h = 11 ∨ h = 12 ∨ h = 13 ∨ h = 14 ∨ h = 15 := by omega
  rcases this with rfl | rfl | rfl | rfl | rfl | rfl | rfl | rfl | rfl | rfl | rfl | rfl | rfl | rfl | rfl | rfl <;> rfl
set_option maxRecDepth 100000 in
theorem all_hex {p : List Int} (h : isBytes p) : (hexL p).all isDig = small p := by
  unfold hexL hexN small
  rw [List.map_map, List.all_map]
  congr 1
  funext i
  exact dig_hex (half_bd h i).1 (half_bd h i).2
set_option maxRecDepth 100000 in
theorem all_dec {p : List Int} (h : isBytes p) : (decN p (2 * p.length)).all isDig = small p := by
  unfold decN small
  rw [List.all_map]
  congr 1
  funext i
  exact dig_dec (half_bd h i).1 (half_bd h i).2
set_option maxRecDepth 100000 in
theorem hex_dec {p : List Int} (hs : small p = true) : hexL p = decN p (2 * p.length) := by
  unfold hexL hexN decN small at *
  rw [List.map_map]
  refine List.map_congr_left fun i hi => ?_
  rw [List.all_eq_true] at hs
  have := hs i hi
  simp only [decide_eq_true_eq] at this
  show byteOf (hexI (halfAt p i)) = _
  unfold hexI
  rw [if_pos (by omega)]
set_option maxRecDepth 100000 in
theorem decN_len (p : List Int) (n : Nat) : (decN p n).length = n := by simp [decN]
set_option maxRecDepth 100000 in
theorem hexL_len (p : List Int) : (hexL p).length = 2 * p.length := by simp [hexL, hexN]
set_option maxRecDepth 100000 in
theorem decN_two (p : List Int) (k : Nat) : decN p (2 * (k + 1)) = decN p (2 * k) ++ [byteOf (48 + p.getD k 0 / 16), byteOf (48 + p.getD k 0 % 16)] := by
  unfold decN
  rw [show 2 * (k + 1) = 2 * k + 1 + 1 by omega, List.range_succ, List.range_succ]
  simp [half_even, half_odd]
set_option maxRecDepth 100000 in
theorem digs_list (t : List UInt8) (h : 0 < t.length) : digs ⟨t.toArray⟩ = t.all isDig := by
  unfold digs
  have : (⟨t.toArray⟩ : ByteArray).size = t.length := by rfl
  rw [this, decide_eq_true h, Bool.true_and]
set_option maxRecDepth 100000 in
/-- without its first sign: the same test, if that sign is a zero -/
theorem all_tail {p : List Int} (h : isBytes p) (h0 : 0 < p.length) (hz : halfAt p 0 = 0) : ((decN p (2 * p.length)).drop 1).all isDig = small p := by
  have e := all_dec h
  obtain ⟨m, hm⟩ : ∃ m, 2 * p.length = m + 1 := ⟨2 * p.length - 1, by omega⟩
  rw [hm] at e ⊢
  have hd : decN p (m + 1) = byteOf 48 :: (decN p (m + 1)).drop 1 := by
    unfold decN
    rw [List.range_succ_eq_map]
    simp [hz]
  rw [hd] at e
  simpa [show isDig (byteOf 48) = true from rfl] using e
set_option maxRecDepth 100000 in
theorem gPart_len {l : List Int} {a n : Int} (h : gIn l a n = true) : (gPart l a n).length = ((n + 1) / 2).toNat := by
  simp only [gIn, Bool.and_eq_true, decide_eq_true_eq] at h
  unfold gPart
  rw [List.length_take, List.length_drop]
  omega
set_option maxRecDepth 100000 in
theorem gPart_bytes {l : List Int} (h : isBytes l) (a n : Int) : isBytes (gPart l a n) := fun z hz => h z (List.mem_of_mem_drop (List.mem_of_mem_take hz))
set_option maxRecDepth 100000 in
theorem gRes_no {l : List Int} {a n : Int} (h : gOk l a n = false) : gRes l a n = .returned (.tuple #[.string ⟨#[]⟩, .int .i64 0, .bool false]) := by
  simp [gRes, gTxt, gEnd, h]
set_option maxRecDepth 100000 in
theorem gOk_out {l : List Int} {a n : Int} (h : gIn l a n = false) : gOk l a n = false := by simp [gOk, h]
set_option maxRecDepth 100000 in
theorem gOk_big {l : List Int} {a n : Int} (h : small (gPart l a n) = false) : gOk l a n = false := by simp [gOk, h]
set_option maxRecDepth 100000 in
theorem gOk_lead {l : List Int} {a n : Int} (ho : n % 2 = 1) (h : halfAt (gPart l a n) 0 ≠ 0) : gOk l a n = false := by
  have : decide (n % 2 = 0) = false := decide_eq_false (by omega)
  simp [gOk, h, this]
set_option maxRecDepth 100000 in
theorem gRes_odd {l : List Int} {a n : Int} (hi : gIn l a n = true) (hs : small (gPart l a n) = true) (ho : n % 2 = 1) (hz : halfAt (gPart l a n) 0 = 0) :
    gRes l a n = .returned (.tuple #[.string ⟨((decN (gPart l a n) (2 * (gPart l a n).length)).drop 1).toArray⟩, .int .i64 (a + (n + 1) / 2), .bool true]) := by
  have : gOk l a n = true := by simp [gOk, hi, hs, hz]
  simp only [gRes, gTxt, gEnd, this, ho, if_true]
set_option maxRecDepth 100000 in
theorem gRes_even {l : List Int} {a n : Int} (hi : gIn l a n = true) (hs : small (gPart l a n) = true) (ho : ¬ n % 2 = 1) :
    gRes l a n = .returned (.tuple #[.string ⟨(decN (gPart l a n) (2 * (gPart l a n).length)).toArray⟩, .int .i64 (a + (n + 1) / 2), .bool true]) := by
  have h2 : n % 2 = 0 := by omega
  have : gOk l a n = true := by simp [gOk, hi, hs, h2]
  simp only [gRes, gTxt, gEnd, this, if_true]
  rw [if_neg ho]
set_option maxRecDepth 100000 in
theorem gIn_no {l : List Int} {a n : Int} (h : n < 1 ∨ 38 < n ∨ a < 0 ∨ (l.length : Int) < a + (n + 1) / 2) : gIn l a n = false := by
  cases hg : gIn l a n
  · rfl
  · simp only [gIn, Bool.and_eq_true, decide_eq_true_eq] at hg; omega

set_option maxRecDepth 100000 in
theorem gPart_get {l : List Int} {a n : Int} (h : gIn l a n = true) (k : Nat) (hk : k < ((n + 1) / 2).toNat) : (gPart l a n).getD k 0 = l.getD (a.toNat + k) 0 := by
  unfold gPart
  rw [List.getD_eq_getElem?_getD, List.getD_eq_getElem?_getD, List.getElem?_take_of_lt hk, List.getElem?_drop]
set_option maxRecDepth 100000 in
theorem dec_first {p : List Int} (h : isBytes p) (h0 : 0 < p.length) : ∃ c r, decN p (2 * p.length) = c :: r ∧ (c.toNat : Int) = 48 + halfAt p 0 := by
  obtain ⟨m, hm⟩ : ∃ m, 2 * p.length = m + 1 := ⟨2 * p.length - 1, by omega⟩
  rw [hm]
  unfold decN
  rw [List.range_succ_eq_map]
  refine ⟨_, _, rfl, ?_⟩
  have hb := half_bd h 0
  unfold byteOf
  rw [UInt8.toNat_ofNat']
  omega
set_option maxRecDepth 100000 in
theorem str_first {t : List UInt8} {c : UInt8} {r : List UInt8} (h : t = c :: r) (h0 : 0 < (⟨t.toArray⟩ : ByteArray).size) : (⟨t.toArray⟩ : ByteArray)[0] = c := by subst h; rfl
set_option maxRecDepth 100000 in
theorem str_tail (t : List UInt8) : (⟨t.toArray⟩ : ByteArray).extract 1 (⟨t.toArray⟩ : ByteArray).size = ⟨(t.drop 1).toArray⟩ := by
  apply ByteArray.ext
  rw [ByteArray.data_extract]
  show t.toArray.extract 1 t.length = _
  simp [List.extract_toArray]
  exact List.take_of_length_le (by simp)

set_option maxRecDepth 100000 in
set_option maxHeartbeats 1600000 in
theorem specGetBcd_any (hi : Nat) (v : Value) (l : List Int) (a n : Int) (w : World) (hn : l.length ≤ 1073741824) (ha : a ≤ 9223372036854775807) (hl : isBytes l) (h : rd .u8 hi w v l) (hhi : hi ≤ w.heap.size) :
    Calls Tryz.prog 18 #[v, .int .i64 a, .int .i64 n] w fun e w' => e = gRes l a n ∧ Below w.heap.size w w' := by
  obtain ⟨A, c, rfl, hc, hj⟩ := h
  by_cases h1 : n < 1
  · rw [gRes_no (gOk_out (gIn_no (.inl h1)))]
    clear hj
    go_enter Tryz.func18, Tryz.ntmps18
    go_wp2
    go_ret3
    exact ⟨rfl, Below.refl _ _⟩
  by_cases h2 : 38 < n
  · rw [gRes_no (gOk_out (gIn_no (.inr (.inl h2))))]
    clear hj
    go_enter Tryz.func18, Tryz.ntmps18
    go_wp2
    go_ret3
    exact ⟨rfl, Below.refl _ _⟩
  by_cases h3 : a < 0
  · rw [gRes_no (gOk_out (gIn_no (.inr (.inr (.inl h3)))))]
    clear hj
    go_enter Tryz.func18, Tryz.ntmps18
    go_wp2
    go_ret3
    exact ⟨rfl, Below.refl _ _⟩
  by_cases h4 : (l.length : Int) < a
  · rw [gRes_no (gOk_out (gIn_no (.inr (.inr (.inr (by omega))))))]
    clear hj
    go_enter Tryz.func18, Tryz.ntmps18
    go_wp2
    go_ret3
    exact ⟨rfl, Below.refl _ _⟩
  by_cases h5 : (l.length : Int) - a < (n + 1) / 2
  · rw [gRes_no (gOk_out (gIn_no (.inr (.inr (.inr (by omega))))))]
    clear hj
    go_enter Tryz.func18, Tryz.ntmps18
    go_wp2
    go_ret3
    exact ⟨rfl, Below.refl _ _⟩
  have hin : gIn l a n = true := by simp [gIn]; omega
  obtain ⟨b0, rfl⟩ : ∃ b0 : Nat, a = b0 := ⟨a.toNat, by omega⟩
  have hpl := gPart_len hin
  have hpb := gPart_bytes hl (b0 : Int) n
  have HG := Lib.hid fun k hk => gPart_get (k := k) hin hk
  have HI := Lib.hid hin
  have HR := Lib.hid hj
  clear hin hj
  generalize hp : gPart l (b0 : Int) n = p at *
  have HP := Lib.hid hp
  have HL := Lib.hid hpl
  have hm0 : 0 < p.length := by omega
  have hm1 : ((n + 1) / 2 : Int) = (p.length : Int) := by omega
  have hm2 : p.length ≤ 19 := by omega
  have HM1 := Lib.hid hm1
  clear hp hpl
  go_enter Tryz.func18, Tryz.ntmps18
  go_wp2
  go_loopw [9, 10] (fun sv iv wr => ∃ (k : Nat) (t : List UInt8), k ≤ p.length ∧ iv = .int .i64 ((b0 : Int) + (k : Int)) ∧ sv = .string ⟨t.toArray⟩ ∧ t = decN p (2 * k) ∧ Below w.heap.size w wr) (fun _ iv _ => (((b0 : Int) + (p.length : Int)) - intOf iv).toNat)
  case atStart => exact ⟨0, [], Nat.zero_le _, by simp, rfl, rfl, Below.refl _ _⟩
  case round =>
    obtain ⟨k, t, hk, rfl, rfl, ht, hb⟩ := hrel
    have htl : t.length ≤ 100 := by rw [ht, decN_len]; omega
    have HE := Lib.hid ht
    clear ht
    by_cases hlt : k < p.length
    · obtain ⟨b, off, rfl, hbl, hcell⟩ := HR.out (b0 + k) (by omega)
      have hcell := (hb.cell (p := ⟨b, off + (b0 + k), none⟩) (show b < w.heap.size by omega)).trans hcell
      have hg := HG.out k (by rw [HL.out] at hlt; exact hlt)
      rw [show ((b0 : Int)).toNat + k = b0 + k by omega] at hg
      rw [← hg] at hcell
      have hx := hpb.getD k
      have HT := Lib.hid (decN_two p k)
      clear hg
      generalize p.getD k 0 = x at hx hcell HT
      have g1 : (b0 : Int) + (k : Int) < (l.length : Int) := by omega
      have g2 : 0 ≤ (b0 : Int) + (k : Int) := by omega
      have g3 : ((b0 : Int) + (k : Int)).toNat = b0 + k := by omega
      obtain ⟨hx0, hx1⟩ := hx
      have r1 : IntKind.i64.wrap (48 + x / 16) = 48 + x / 16 := IntWalk.i64_in _ (by omega)
      have r2 : IntKind.i64.wrap (48 + x % 16) = 48 + x % 16 := IntWalk.i64_in _ (by omega)
      have r3 : IntKind.u8.wrap (48 + x / 16) = 48 + x / 16 := IntWalk.u8_in _ (by omega)
      have r4 : IntKind.u8.wrap (48 + x % 16) = 48 + x % 16 := IntWalk.u8_in _ (by omega)
      have hcv := fun (W : World) (c d : Int) (T : TypeId) => conv_two_drew W c d T
      go_wp2
      go_region
      clear r1 r2 r3 r4
      go_wp2
      go_roundw
      case rel => exact ⟨k + 1, _, by omega, by go_num, congrArg Value.string (sapp _ [_, _]), by rw [HT.out, HE.out], (hb.alloc hb.size _).drew⟩
      case measure => simp [intOf] <;> omega
    · obtain rfl : k = p.length := by omega
      have hft := all_dec hpb
      have HF := Lib.hid (dec_first hpb hm0)
      have hta := fun hz => all_tail hpb hm0 hz
      have htl2 : t.length = 2 * p.length := by rw [HE.out, decN_len]
      have hsz : (⟨t.toArray⟩ : ByteArray).size = 2 * p.length := htl2
      have HSL := Lib.hid (digs_list t (by omega))
      have HST := Lib.hid (str_tail t)
      have g5 : ¬ (b0 : Int) + (p.length : Int) < (b0 : Int) + (p.length : Int) := by omega
      have hpos : 0 < (⟨t.toArray⟩ : ByteArray).size := by omega
      by_cases hodd : n % 2 = 1
      · have e1 : (n % 2 == 1) = true := beq_iff_eq.2 hodd
        obtain ⟨c1, r1, hcr, hc1⟩ := HF.out
        have HS0 := Lib.hid (str_first (HE.out.trans hcr) hpos)
        have HSD := Lib.hid (digs_list (t.drop 1) (by rw [List.length_drop]; omega))
        generalize hSS : (⟨t.toArray⟩ : ByteArray) = S at hsz hpos HSL HST HS0 ⊢
        have hs0 : 0 < S.size := hpos
        have HSS := Lib.hid hSS
        have HS0 : Hid (S[0]'hs0 = c1) := Lib.hid HS0.out
        clear hSS hcr htl2 hsz
        by_cases hz : halfAt p 0 = 0
        · have e2 : ((S[0].toNat : Int) != 48) = false := by rw [HS0.out, hc1, hz]; rfl
          have HTT := Lib.hid (hta hz)
          have HOD := Lib.hid hodd
          have hxs : (S.extract 1 S.size).size ≤ maxLen := by rw [HST.out]; show (t.drop 1).length ≤ _; rw [List.length_drop]; unfold maxLen; omega
          have ED : Hid (digs (S.extract 1 S.size) = small p) := Lib.hid (by rw [HST.out, HSD.out, HE.out, HTT.out])
          have HZZ := Lib.hid hz
          clear hft hta hz hc1 hodd
          cases hsm : small p
          · have HSM := Lib.hid hsm
            rw [hsm] at ED
            clear hsm
            go_wp2_with (go_at_call 38; refine (specDigits_any _ _ hxs).mono ?_; rw [ED.out]; rintro e w1 ⟨rfl, rfl⟩)
            go_ret3
            rw [gRes_no (gOk_big (by rw [HP.out]; exact HSM.out))]
            exact ⟨rfl, hb⟩
          · have HSM := Lib.hid hsm
            rw [hsm] at ED
            clear hsm
            go_wp2_with (go_at_call 38; refine (specDigits_any _ _ hxs).mono ?_; rw [ED.out]; rintro e w1 ⟨rfl, rfl⟩)
            go_ret3
            rw [gRes_odd HI.out (by rw [HP.out]; exact HSM.out) HOD.out (by rw [HP.out]; exact HZZ.out), HP.out, ← HE.out, ← HST.out, HM1.out]
            exact ⟨rfl, hb⟩
        · have hb0 := (half_bd hpb 0).1
          have e2 : ((S[0].toNat : Int) != 48) = true := bne_iff_ne.2 (by rw [HS0.out, hc1]; omega)
          have HG := Lib.hid (gOk_lead (l := l) (a := (b0 : Int)) hodd (by rw [HP.out]; exact hz))
          clear hft hta hz hc1 hodd
          go_wp2
          go_ret3
          rw [gRes_no HG.out]
          exact ⟨rfl, hb⟩
      · have e1 : (n % 2 == 1) = false := beq_eq_false_iff_ne.2 hodd
        have HOD := Lib.hid hodd
        have ED : Hid (digs ⟨t.toArray⟩ = small p) := Lib.hid (by rw [HSL.out, HE.out, hft])
        generalize hSS : (⟨t.toArray⟩ : ByteArray) = S at hsz ED ⊢
        have hxs : S.size ≤ maxLen := by unfold maxLen; omega
        have HSS := Lib.hid hSS
        clear hSS hsz htl2 hodd hft hta
        cases hsm : small p
        · have HSM := Lib.hid hsm
          rw [hsm] at ED
          clear hsm
          go_wp2_with (go_at_call 38; refine (specDigits_any _ _ hxs).mono ?_; rw [ED.out]; rintro e w1 ⟨rfl, rfl⟩)
          go_ret3
          rw [gRes_no (gOk_big (by rw [HP.out]; exact HSM.out))]
          exact ⟨rfl, hb⟩
        · have HSM := Lib.hid hsm
          rw [hsm] at ED
          clear hsm
          go_wp2_with (go_at_call 38; refine (specDigits_any _ _ hxs).mono ?_; rw [ED.out]; rintro e w1 ⟨rfl, rfl⟩)
          go_ret3
          rw [gRes_even HI.out (by rw [HP.out]; exact HSM.out) HOD.out, HP.out, ← HE.out, HSS.out, HM1.out]
          exact ⟨rfl, hb⟩

set_option maxRecDepth 100000 in
set_option maxHeartbeats 1600000 in
theorem implGetBcd_any (hi : Nat) (v : Value) (l : List Int) (a n : Int) (w : World) (hn : l.length ≤ 1073741824) (ha : a ≤ 9223372036854775807) (hl : isBytes l) (h : rd .u8 hi w v l) (hhi : hi ≤ w.heap.size) :
    Calls Tryz.prog 52 #[v, .int .i64 a, .int .i64 n] w fun e w' => e = gRes l a n ∧ Below w.heap.size w w' := by
  by_cases h1 : n < 1
  · rw [gRes_no (gOk_out (gIn_no (.inl h1)))]
    go_enter Tryz.func52, Tryz.ntmps52
    go_wp2
    go_ret3
    exact ⟨rfl, Below.refl _ _⟩
  by_cases h2 : 38 < n
  · rw [gRes_no (gOk_out (gIn_no (.inr (.inl h2))))]
    go_enter Tryz.func52, Tryz.ntmps52
    go_wp2
    go_ret3
    exact ⟨rfl, Below.refl _ _⟩
  obtain ⟨N, hN⟩ : ∃ N : Nat, (n + 1) / 2 = (N : Int) := ⟨((n + 1) / 2).toNat, by omega⟩
  have hN64 : N ≤ 64 := by omega
  have hN1 : 1 ≤ N := by omega
  have H := Lib.hid h
  by_cases hbad : a < 0 ∨ (l.length : Int) - N < a
  · rw [gRes_no (gOk_out (gIn_no (.inr (.inr (by rcases hbad with h | h; exact .inl h; exact .inr (by omega))))))]
    have HB := Lib.hid hbad
    clear hbad h
    go_enter Tryz.func52, Tryz.ntmps52
    go_wp2_with fail
    refine (bytesAt_no hi _ l a N w hn hN64 H.out HB.out).mono ?_
    rintro e w1 ⟨rfl, rfl⟩
    go_wp2
    go_ret3
    exact ⟨rfl, Below.refl _ _⟩
  have hin : gIn l a n = true := by simp [gIn]; omega
  obtain ⟨b0, rfl⟩ : ∃ b0 : Nat, a = b0 := ⟨a.toNat, by omega⟩
  have hpl := gPart_len hin
  have hpb := gPart_bytes hl (b0 : Int) n
  have hpp : gPart l (b0 : Int) n = (l.drop b0).take N := by unfold gPart; rw [hN]; rfl
  have HI := Lib.hid hin
  have han : b0 + N ≤ l.length := by omega
  rw [hN, Int.toNat_natCast] at hpl
  have HPP := Lib.hid hpp
  clear hin hpp h hbad
  go_enter Tryz.func52, Tryz.ntmps52
  go_wp2_with fail
  refine (bytesAt_yes hi _ l b0 N w hn hN64 hN1 H.out han).mono ?_
  rw [← HPP.out]
  generalize hp : gPart l (b0 : Int) n = p at *
  rintro e w1 ⟨u, rfl, hu, rfl⟩
  have HP := Lib.hid hp
  have HU := Lib.hid hu
  have hm0 : 0 < p.length := by omega
  have hm2 : p.length ≤ 19 := by omega
  obtain ⟨A1, c1, rfl, -⟩ := hu.form
  have HL := Lib.hid hpl
  have HN := Lib.hid hN
  clear hp hu hpl
  go_wp2_with fail
  refine (implHexText_any hi _ p _ (by omega) hpb HU.out hhi).mono ?_
  rintro e w1 ⟨rfl, hb⟩
  have hft := all_hex hpb
  have HF := Lib.hid (dec_first hpb hm0)
  have HX := Lib.hid (fun hs => hex_dec (p := p) hs)
  have htl := hexL_len p
  have hsz : (⟨(hexL p).toArray⟩ : ByteArray).size = 2 * p.length := htl
  have hpos : 0 < (⟨(hexL p).toArray⟩ : ByteArray).size := by omega
  have ED : Hid (digs ⟨(hexL p).toArray⟩ = small p) := Lib.hid (by rw [digs_list _ (by omega), hft])
  have HST := Lib.hid (str_tail (hexL p))
  have HFS := Lib.hid (fun (c : UInt8) (r : List UInt8) (h : hexL p = c :: r) => str_first h hpos)
  generalize hSS : (⟨(hexL p).toArray⟩ : ByteArray) = S at hsz hpos ED HST HFS ⊢
  have hxs : S.size ≤ maxLen := by unfold maxLen; omega
  have HSS := Lib.hid hSS
  clear hSS hsz htl hft
  cases hsm : small p
  · have HSM := Lib.hid hsm
    rw [hsm] at ED
    clear hsm
    go_wp2_with (go_at_call 72; refine (implDigits_any _ _ hxs).mono ?_; rw [ED.out]; rintro e w2 ⟨rfl, hb2⟩)
    go_ret3
    rw [gRes_no (gOk_big (by rw [HP.out]; exact HSM.out))]
    exact ⟨rfl, hb.trans (hb2.mono hb.size)⟩
  have HSM := Lib.hid hsm
  rw [hsm] at ED
  have HXD := Lib.hid (HX.out hsm)
  clear hsm
  by_cases hodd : n % 2 = 1
  · have e1 : (n % 2 == 1) = true := beq_iff_eq.2 hodd
    obtain ⟨c2, r2, hcr, hc1⟩ := HF.out
    have HS0 : Hid (S[0]'hpos = c2) := Lib.hid (HFS.out c2 r2 (HXD.out.trans hcr))
    by_cases hz : halfAt p 0 = 0
    · have e2 : ((S[0].toNat : Int) != 48) = false := by rw [HS0.out, hc1, hz]; rfl
      have HOD := Lib.hid hodd
      have HZZ := Lib.hid hz
      clear hz hc1 hodd hcr
      go_wp2_with (go_at_call 72; refine (implDigits_any _ _ hxs).mono ?_; rw [ED.out]; rintro e w2 ⟨rfl, hb2⟩)
      go_ret3
      rw [gRes_odd HI.out (by rw [HP.out]; exact HSM.out) HOD.out (by rw [HP.out]; exact HZZ.out), HP.out, ← HXD.out, ← HST.out, HN.out, HL.out]
      exact ⟨rfl, hb.trans (hb2.mono hb.size)⟩
    · have hb0 := (half_bd hpb 0).1
      have e2 : ((S[0].toNat : Int) != 48) = true := bne_iff_ne.2 (by rw [HS0.out, hc1]; omega)
      have HG := Lib.hid (gOk_lead (l := l) (a := (b0 : Int)) hodd (by rw [HP.out]; exact hz))
      clear hz hc1 hodd hcr
      go_wp2_with (go_at_call 72; refine (implDigits_any _ _ hxs).mono ?_; rw [ED.out]; rintro e w2 ⟨rfl, hb2⟩)
      go_ret3
      rw [gRes_no HG.out]
      exact ⟨rfl, hb.trans (hb2.mono hb.size)⟩
  · have e1 : (n % 2 == 1) = false := beq_eq_false_iff_ne.2 hodd
    have HOD := Lib.hid hodd
    clear hodd
    go_wp2_with (go_at_call 72; refine (implDigits_any _ _ hxs).mono ?_; rw [ED.out]; rintro e w2 ⟨rfl, hb2⟩)
    go_ret3
    rw [gRes_even HI.out (by rw [HP.out]; exact HSM.out) HOD.out, HP.out, ← HXD.out, HSS.out, HN.out, HL.out]
    exact ⟨rfl, hb.trans (hb2.mono hb.size)⟩
end Go.Proofs.YtiolebpoofkpmaaGreatDoor
set_option linter.unusedVariables false
namespace Go.Proofs.YtiolebpoofkpmaaGreatDoor
open Go.ChangeShapes Go.WideShapes Go.ChangeAt Go.RowKit

end Go.Proofs.YtiolebpoofkpmaaGreatDoor
set_option linter.unusedVariables false
namespace Go.Proofs.YtiolebpoofkpmaaGreatDoor
open Go.ChangeShapes Go.WideShapes Go.ChangeAt Go.RowKit

end Go.Proofs.YtiolebpoofkpmaaGreatDoor
set_option linter.unusedVariables false
namespace Go.Proofs.YtiolebpoofkpmaaGreatDoor
open Go.ChangeShapes Go.WideShapes Go.ChangeAt Go.RowKit

def wideOk (n w : Int) : Bool := decide (0 ≤ n) && decide (1 ≤ w) && decide (w ≤ 18) && decide (((Lib.decDigits n.toNat).length : Int) ≤ w)
def wideOf (n w : Int) : List UInt8 := if wideOk n w = true then List.replicate (w.toNat - (Lib.decDigits n.toNat).length) 48 ++ Lib.decDigits n.toNat else []
end Go.Proofs.YtiolebpoofkpmaaGreatDoor
set_option linter.unusedVariables false
namespace Go.Proofs.YtiolebpoofkpmaaGreatDoor
open Go.ChangeShapes Go.WideShapes Go.ChangeAt Go.RowKit

end Go.Proofs.YtiolebpoofkpmaaGreatDoor
set_option linter.unusedVariables false
namespace Go.Proofs.YtiolebpoofkpmaaGreatDoor
open Go.ChangeShapes Go.WideShapes Go.ChangeAt Go.RowKit

def lenDig (d : Int) : Bool := decide (d = 2) || decide (d = 3)
def putLen (n d : Int) : List Int := if lenDig d = true then bcd ⟨(wideOf n d).toArray⟩ else []
set_option maxRecDepth 100000 in
theorem lenDig_no {d : Int} (h : lenDig d = false) : d ≠ 2 ∧ d ≠ 3 := by simpa [lenDig] using h
set_option maxRecDepth 100000 in
theorem lenDig_yes {d : Int} (h : lenDig d = true) : d = 2 ∨ d = 3 := by simpa [lenDig] using h
set_option maxRecDepth 100000 in
theorem isLenDigits_any (d : Int) (w : World) :
    Calls Tryz.prog 152 #[.int .i64 d] w fun e w' => e = .returned (.bool (lenDig d)) ∧ w = w' := by
  by_cases h2 : d = 2
  · subst h2
    go_enter Tryz.func152, Tryz.ntmps152
    go_wp2
    go_ret
    exact ⟨rfl, rfl⟩
  · by_cases h3 : d = 3
    · subst h3
      go_enter Tryz.func152, Tryz.ntmps152
      go_wp2
      go_ret
      exact ⟨rfl, rfl⟩
    · have e2 : (d == 2) = false := beq_eq_false_iff_ne.2 h2
      have e3 : (d == 3) = false := beq_eq_false_iff_ne.2 h3
      have hl : lenDig d = false := by simp [lenDig, h2, h3]
      rw [hl]
      clear hl
      go_enter Tryz.func152, Tryz.ntmps152
      go_wp2
      go_ret
      exact ⟨rfl, rfl⟩

set_option maxRecDepth 100000 in
theorem gTxt_len (l : List Int) (a n : Int) : (gTxt l a n).length ≤ 38 := by
  unfold gTxt
  split
  · next h =>
    have hi : gIn l a n = true := by simp only [gOk, Bool.and_eq_true] at h; exact h.1.1
    have hp := gPart_len hi
    simp only [gIn, Bool.and_eq_true, decide_eq_true_eq] at hi
    split
    · rw [List.length_drop, decN_len]; omega
    · rw [decN_len]; omega
  · simp
def lenVal (l : List Int) (a d : Int) : Int := if lenDig d = true then narVal ⟨(gTxt l a d).toArray⟩ else 0
def lenEnd (l : List Int) (a d : Int) : Int := if lenDig d = true then gEnd l a d else 0
def lenGot (l : List Int) (a d : Int) : Bool := lenDig d && gOk l a d
def lenRes (l : List Int) (a d : Int) : Ending := .returned (.tuple #[.int .i64 (lenVal l a d), .int .i64 (lenEnd l a d), .bool (lenGot l a d)])
set_option maxRecDepth 100000 in
theorem lenRes_no {l : List Int} {a d : Int} (h : lenDig d = false) : lenRes l a d = .returned (.tuple #[.int .i64 0, .int .i64 0, .bool false]) := by simp [lenRes, lenVal, lenEnd, lenGot, h]
set_option maxRecDepth 100000 in
theorem lenRes_yes {l : List Int} {a d : Int} (h : lenDig d = true) : lenRes l a d = .returned (.tuple #[.int .i64 (narVal ⟨(gTxt l a d).toArray⟩), .int .i64 (gEnd l a d), .bool (gOk l a d)]) := by simp [lenRes, lenVal, lenEnd, lenGot, h]
set_option maxRecDepth 100000 in
theorem lenRes_bad {l : List Int} {a d : Int} (h : lenDig d = true) (hg : gOk l a d = false) : lenRes l a d = .returned (.tuple #[.int .i64 0, .int .i64 0, .bool false]) := by
  rw [lenRes_yes h, hg]
  have h1 : gTxt l a d = [] := by simp [gTxt, hg]
  have h2 : gEnd l a d = 0 := by simp [gEnd, hg]
  rw [h1, h2]
  rfl

set_option maxRecDepth 100000 in
theorem specGetLen_any (hi : Nat) (v : Value) (l : List Int) (a d : Int) (w : World) (hn : l.length ≤ 1073741824) (ha : a ≤ 9223372036854775807) (hl : isBytes l) (h : rd .u8 hi w v l) (hhi : hi ≤ w.heap.size) :
    Calls Tryz.prog 43 #[v, .int .i64 a, .int .i64 d] w fun e w' => e = lenRes l a d ∧ Below w.heap.size w w' := by
  have H := Lib.hid h
  clear h
  cases hld : lenDig d
  · have h2 : (d != 2) = true := bne_iff_ne.2 (lenDig_no hld).1
    have h3 : (d != 3) = true := bne_iff_ne.2 (lenDig_no hld).2
    rw [lenRes_no hld]
    clear hld
    go_enter Tryz.func43, Tryz.ntmps43
    go_wp2
    go_ret3
    exact ⟨rfl, Below.refl _ _⟩
  · have hsz : (⟨(gTxt l a d).toArray⟩ : ByteArray).size ≤ maxLen := Nat.le_trans (gTxt_len l a d) (by decide)
    rw [lenRes_yes hld]
    rcases lenDig_yes hld with rfl | rfl
    all_goals
      clear hld
      go_enter Tryz.func43, Tryz.ntmps43
      go_wp2_with fail
      refine (specGetBcd_any hi _ l a _ w hn ha hl H.out hhi).mono ?_
      rintro e w1 ⟨he, hb⟩
      unfold gRes at he
      subst he
      go_wp2_with fail
      refine (specNarrow_any _ _ hsz).mono ?_
      rintro e w2 ⟨rfl, rfl⟩
      go_wp2
      go_ret3
      exact ⟨rfl, hb⟩

set_option maxRecDepth 100000 in
theorem implGetLen_any (hi : Nat) (v : Value) (l : List Int) (a d : Int) (w : World) (p : Addr) (hg : 1 < w.heap.size) (hc : w.cell? ⟨1, 0, none⟩ = some (.iface 207 (.pointer (some p))))
    (hn : l.length ≤ 1073741824) (ha : a ≤ 9223372036854775807) (hl : isBytes l) (h : rd .u8 hi w v l) (hhi : hi ≤ w.heap.size) :
    Calls Tryz.prog 145 #[v, .int .i64 a, .int .i64 d] w fun e w' => e = lenRes l a d ∧ Below w.heap.size w w' := by
  have H := Lib.hid h
  have HC := Lib.hid hc
  clear h hc
  cases hld : lenDig d
  · have HL := Lib.hid hld
    rw [lenRes_no hld]
    clear hld
    go_enter Tryz.func145, Tryz.ntmps145
    go_wp2_with (go_at_call 152; refine (isLenDigits_any d _).mono ?_; rw [HL.out]; rintro e w1 ⟨rfl, rfl⟩)
    go_ret3
    exact ⟨rfl, Below.refl _ _⟩
  · have hsz : (⟨(gTxt l a d).toArray⟩ : ByteArray).size ≤ maxLen := Nat.le_trans (gTxt_len l a d) (by decide)
    have HL := Lib.hid hld
    have HY := Lib.hid (lenRes_yes (l := l) (a := a) hld)
    have HB := Lib.hid (fun h => lenRes_bad (l := l) (a := a) hld h)
    clear hld
    go_enter Tryz.func145, Tryz.ntmps145
    go_wp2_with (go_at_call 152; refine (isLenDigits_any d _).mono ?_; rw [HL.out]; rintro e w1 ⟨rfl, rfl⟩)
    refine (implGetBcd_any hi _ l a _ _ hn ha hl H.out hhi).mono ?_
    rintro e w1 ⟨he, hb⟩
    unfold gRes at he
    subst he
    cases hgo : gOk l a d
    · have HG := Lib.hid hgo
      clear hgo
      go_wp2
      go_ret3
      rw [HB.out HG.out]
      exact ⟨rfl, hb⟩
    · have HG := Lib.hid hgo
      clear hgo
      go_wp2_with fail
      refine (implNarrow_any _ _ p (Nat.lt_of_lt_of_le hg hb.size) ((hb.cell (p := ⟨1, 0, none⟩) hg).trans HC.out)).mono ?_
      rintro e w2 ⟨rfl, hb2⟩
      go_wp2
      go_ret3
      rw [HY.out, HG.out]
      exact ⟨rfl, hb.trans (hb2.mono hb.size)⟩
end Go.Proofs.YtiolebpoofkpmaaGreatDoor
set_option linter.unusedVariables false
namespace Go.Proofs.YtiolebpoofkpmaaGreatDoor
open Go.ChangeShapes Go.WideShapes Go.ChangeAt Go.RowKit

/-- the bytes of a string as numbers -/
def bytesL (s : ByteArray) : List Int := s.data.toList.map fun c => (c.toNat : Int)
end Go.Proofs.YtiolebpoofkpmaaGreatDoor
set_option linter.unusedVariables false
namespace Go.Proofs.YtiolebpoofkpmaaGreatDoor
open Go.ChangeShapes Go.WideShapes Go.ChangeAt Go.RowKit

end Go.Proofs.YtiolebpoofkpmaaGreatDoor
set_option linter.unusedVariables false
namespace Go.Proofs.YtiolebpoofkpmaaGreatDoor
open Go.ChangeShapes Go.WideShapes Go.ChangeAt Go.RowKit

def fWidth (kd : Int) : Int := if kd = 3 ∨ kd = 4 then 2 else if kd = 5 then 3 else 0
set_option maxRecDepth 100000 in
theorem width_any (kd : Int) (w : World) :
    Calls Tryz.prog 42 #[.int .i64 kd] w fun e w' => e = .returned (.int .i64 (fWidth kd)) ∧ w = w' := by
  go_enter Tryz.func42, Tryz.ntmps42
  go_wp2
  all_goals go_ret
  all_goals refine ⟨ret_int ?_, rfl⟩
  all_goals simp only [beq_iff_eq, beq_eq_false_iff_ne, ne_eq] at *
  all_goals first | (subst_vars; rfl) | simp [fWidth, *]
/-- what PutField encodes of a content that fits -/
def putBody (kd : Int) (s : ByteArray) : List Int :=
  if kd = 1 then bcd s else if kd = 2 then bytesL s else if kd = 3 then putLen s.size 2 ++ bcd s else if kd = 4 then putLen s.size 2 ++ bytesL s else putLen s.size 3 ++ bytesL s
def putFL (no : Int) (s : ByteArray) : List Int := if fOk no s = true then putBody (fKind no) s else []
set_option maxRecDepth 100000 in
theorem kind_size (no : Int) : (fKind no = 1 → fSize no ≤ 12) ∧ (fKind no = 2 → fSize no ≤ 12) ∧ (fKind no = 3 → fSize no ≤ 19) ∧ (fKind no = 4 → fSize no ≤ 20) ∧ fSize no ≤ 60 := by
  unfold fKind fSize
  repeat' (split <;> try omega)
set_option maxRecDepth 100000 in
theorem fOk_size {no : Int} {s : ByteArray} (h : fOk no s = true) : s.size ≤ 60 ∧ (fKind no = 1 → digs s = true ∧ s.size ≤ 12) ∧ (fKind no = 3 → digs s = true ∧ s.size ≤ 19) ∧ fKind no ≠ 0 ∧ 0 < s.size ∨ fKind no = 2 ∧ s.size ≤ 60 := by
  obtain ⟨z1, z2, z3, z4, z5⟩ := kind_size no
  unfold fOk okBy at h
  rcases kind_cases no with e | e | e | e | e | e
  · simp [e] at h
  · rw [if_pos e] at h
    simp only [Bool.and_eq_true, decide_eq_true_eq] at h
    have := z1 e
    have hp := digs_pos h.2
    exact Or.inl ⟨by omega, fun _ => ⟨h.2, by omega⟩, fun h' => by omega, by omega, hp⟩
  · rw [if_neg (by omega), if_pos e] at h
    simp only [Bool.and_eq_true, decide_eq_true_eq] at h
    exact Or.inr ⟨e, by omega⟩
  · rw [if_neg (by omega), if_neg (by omega), if_pos e] at h
    simp only [Bool.and_eq_true, decide_eq_true_eq] at h
    have := z3 e
    have hp := digs_pos h.2
    exact Or.inl ⟨by omega, fun h' => by omega, fun _ => ⟨h.2, by omega⟩, by omega, hp⟩
  · rw [if_neg (by omega), if_neg (by omega), if_neg (by omega), if_pos (by omega)] at h
    simp only [Bool.and_eq_true, decide_eq_true_eq] at h
    exact Or.inl ⟨by omega, fun h' => by omega, fun h' => by omega, by omega, by omega⟩
  · rw [if_neg (by omega), if_neg (by omega), if_neg (by omega), if_pos (by omega)] at h
    simp only [Bool.and_eq_true, decide_eq_true_eq] at h
    exact Or.inl ⟨by omega, fun h' => by omega, fun h' => by omega, by omega, by omega⟩
set_option maxRecDepth 100000 in
theorem fOk_60 {no : Int} {s : ByteArray} (h : fOk no s = true) : s.size ≤ 60 := by
  rcases fOk_size h with h | h
  · exact h.1
  · exact h.2
end Go.Proofs.YtiolebpoofkpmaaGreatDoor
set_option linter.unusedVariables false
namespace Go.Proofs.YtiolebpoofkpmaaGreatDoor
open Go.ChangeShapes Go.WideShapes Go.ChangeAt Go.RowKit

set_option maxRecDepth 100000 in
theorem rowV_zero {no : Int} (h : fKind no = 0) : rowV no = .agg #[.int .i64 0, .int .i64 0, .int .i64 0, .nilFunc, .nilFunc] := by rw [rowV, if_pos h]
set_option maxRecDepth 100000 in
theorem rowV_yes {no : Int} (h : fKind no ≠ 0) : rowV no = .agg #[.int .i64 no, .int .i64 (fSize no), .int .i64 (fKind no), .func (.func (putId (fKind no))) #[] #[], .func (.func (getId (fKind no))) #[] #[]] := by rw [rowV, if_neg h, rowCells]
end Go.Proofs.YtiolebpoofkpmaaGreatDoor
set_option linter.unusedVariables false
namespace Go.Proofs.YtiolebpoofkpmaaGreatDoor
open Go.ChangeShapes Go.WideShapes Go.ChangeAt Go.RowKit

/-- a text, an offset and whether there is one -/
def trip (ok : Bool) (t : List UInt8) (e : Int) : Ending := .returned (.tuple #[.string ⟨(if ok = true then t else []).toArray⟩, .int .i64 (if ok = true then e else 0), .bool ok])
set_option maxRecDepth 100000 in
theorem trip_no {t : List UInt8} {e : Int} : trip false t e = .returned (.tuple #[.string ⟨#[]⟩, .int .i64 0, .bool false]) := rfl
set_option maxRecDepth 100000 in
theorem trip_yes {t : List UInt8} {e : Int} : trip true t e = .returned (.tuple #[.string ⟨t.toArray⟩, .int .i64 e, .bool true]) := rfl
set_option maxRecDepth 100000 in
theorem trip_form (ok : Bool) (t : List UInt8) (e : Int) : ∃ (s : ByteArray) (x : Int) (b : Bool), trip ok t e = .returned (.tuple #[.string s, .int .i64 x, .bool b]) := ⟨_, _, _, rfl⟩
set_option maxRecDepth 100000 in
theorem trip_of {ok : Bool} {t : List UInt8} {e : Int} (h : ok = false) : trip ok t e = .returned (.tuple #[.string ⟨#[]⟩, .int .i64 0, .bool false]) := by subst h; rfl
set_option maxRecDepth 100000 in
theorem trip_on {ok : Bool} {t : List UInt8} {e : Int} (h : ok = true) : trip ok t e = .returned (.tuple #[.string ⟨t.toArray⟩, .int .i64 e, .bool true]) := by subst h; rfl
set_option maxRecDepth 100000 in
theorem gRes_trip (l : List Int) (a n : Int) : gRes l a n = trip (gOk l a n) (gTxt l a n) (gEnd l a n) := by
  cases h : gOk l a n
  · rw [gRes_no h, trip_no]
  · rw [gRes, h, trip_yes]
set_option maxRecDepth 100000 in
theorem fSize_pos {no : Int} (h : fKind no ≠ 0) : 1 ≤ fSize no := by
  unfold fKind at h
  unfold fSize
  repeat' (split at h <;> try omega)
  all_goals repeat' (split <;> try omega)
def inR (l : List Int) (a n : Int) : Bool := decide (0 ≤ a) && decide (0 ≤ n) && decide (a + n ≤ l.length)
def tPart (l : List Int) (a n : Int) : List UInt8 := ((l.drop a.toNat).take n.toNat).map byteOf
set_option maxRecDepth 100000 in
theorem inR_yes {l : List Int} {a n : Int} (h : inR l a n = true) : 0 ≤ a ∧ 0 ≤ n ∧ a + n ≤ l.length := by
  simp only [inR, Bool.and_eq_true, decide_eq_true_eq] at h; exact ⟨h.1.1, h.1.2, h.2⟩
set_option maxRecDepth 100000 in
theorem inR_no {l : List Int} {a n : Int} (h : a < 0 ∨ n < 0 ∨ (l.length : Int) < a + n) : inR l a n = false := by
  cases hq : inR l a n
  · rfl
  · have := inR_yes hq; omega
set_option maxRecDepth 100000 in
theorem tPart_len {l : List Int} {a n : Int} (h : inR l a n = true) : (tPart l a n).length = n.toNat := by
  have := inR_yes h
  unfold tPart
  rw [List.length_map, List.length_take, List.length_drop]
  omega
set_option maxRecDepth 100000 in
theorem tPart_le (l : List Int) (a n : Int) : (tPart l a n).length ≤ l.length := by
  unfold tPart
  rw [List.length_map, List.length_take, List.length_drop]
  omega
set_option maxRecDepth 100000 in
theorem gOk_in {l : List Int} {a n : Int} (h : gOk l a n = true) : gIn l a n = true ∧ small (gPart l a n) = true ∧ (n % 2 = 0 ∨ halfAt (gPart l a n) 0 = 0) := by
  simp only [gOk, Bool.and_eq_true, Bool.or_eq_true, decide_eq_true_eq] at h
  exact ⟨h.1.1, h.1.2, h.2⟩
set_option maxRecDepth 100000 in
theorem gIn_bd {l : List Int} {a n : Int} (h : gIn l a n = true) : 1 ≤ n ∧ n ≤ 38 ∧ 0 ≤ a ∧ a + (n + 1) / 2 ≤ l.length := by
  simp only [gIn, Bool.and_eq_true, decide_eq_true_eq] at h; exact ⟨h.1.1.1, h.1.1.2, h.1.2, h.2⟩
set_option maxRecDepth 100000 in
theorem gTxt_ok {l : List Int} {a n : Int} (hl : isBytes l) (h : gOk l a n = true) : ((gTxt l a n).length : Int) = n ∧ digs ⟨(gTxt l a n).toArray⟩ = true := by
  obtain ⟨hi, hs, hz⟩ := gOk_in h
  have hb := gIn_bd hi
  have hp := gPart_len hi
  have hpb := gPart_bytes hl a n
  have hlen : ((gTxt l a n).length : Int) = n := by
    unfold gTxt
    rw [if_pos h]
    split
    · rw [List.length_drop, decN_len, hp]; omega
    · rw [decN_len, hp]; omega
  refine ⟨hlen, ?_⟩
  rw [digs_list _ (by omega)]
  unfold gTxt
  rw [if_pos h]
  split
  · next ho =>
    rw [all_tail hpb (by rw [hp]; omega) (by omega), hs]
  · rw [all_dec hpb, hs]
set_option maxRecDepth 100000 in
theorem lenEnd_bd (l : List Int) (a d : Int) : 0 ≤ lenEnd l a d ∧ lenEnd l a d ≤ l.length := by
  unfold lenEnd gEnd
  split
  · split
    · next h =>
      have := gIn_bd (gOk_in h).1
      omega
    · omega
  · omega
set_option maxRecDepth 100000 in
theorem lenVal_bd (l : List Int) (a d : Int) : 0 ≤ lenVal l a d ∧ lenVal l a d ≤ 999999999999999999 := by
  unfold lenVal narVal
  split
  · split
    · next h =>
      have := nar_scan h
      exact ⟨dec_pos _ (digs_all this.2.2.1), this.2.1⟩
    · omega
  · omega
set_option maxRecDepth 100000 in
theorem lenRes_trip (l : List Int) (a d : Int) : lenRes l a d = .returned (.tuple #[.int .i64 (lenVal l a d), .int .i64 (lenEnd l a d), .bool (lenGot l a d)]) := rfl
set_option maxRecDepth 100000 in
theorem lenGot_neg {l : List Int} {a d : Int} (h : a < 0) : lenGot l a d = false := by
  unfold lenGot
  rw [gOk_out (gIn_no (.inr (.inr (.inl h)))), Bool.and_false]

set_option maxRecDepth 100000 in
theorem bytesAt_out (hi : Nat) (v : Value) (l : List Int) (at' : Int) (n : Nat) (w : World) (hn : l.length ≤ 1073741824) (hn' : n ≤ 1000000000000000000) (h : rd .u8 hi w v l) (hbad : at' < 0 ∨ (l.length : Int) - n < at') :
    Calls Tryz.prog 70 #[v, .int .i64 at', .int .i64 (n : Int)] w fun e w' => e = .returned (.tuple #[.slice none 0 0, .bool false]) ∧ w = w' := by
  obtain ⟨A, c, rfl, hc, -⟩ := h
  by_cases h0 : at' < 0
  · go_enter Tryz.func70, Tryz.ntmps70
    go_wp2
    go_ret2
    exact ⟨rfl, rfl⟩
  · have h1 : (l.length : Int) - n < at' := by omega
    clear hbad
    go_enter Tryz.func70, Tryz.ntmps70
    go_wp2
    go_ret2
    exact ⟨rfl, rfl⟩
set_option maxRecDepth 100000 in
set_option maxHeartbeats 800000 in
theorem bytesAt_in (hi : Nat) (v : Value) (l : List Int) (a n : Nat) (w : World) (hn : l.length ≤ 1073741824) (h : rd .u8 hi w v l) (han : a + n ≤ l.length) :
    Calls Tryz.prog 70 #[v, .int .i64 (a : Int), .int .i64 (n : Int)] w fun e w' => ∃ u, e = .returned (.tuple #[u, .bool true]) ∧ rd .u8 hi w u ((l.drop a).take n) ∧ w = w' := by
  obtain ⟨A, c, rfl, hc, hj⟩ := h
  by_cases hl0 : l.length = 0
  · have hl : l = [] := List.eq_nil_of_length_eq_zero hl0
    subst hl
    obtain rfl : a = 0 := by simp at han; omega
    obtain rfl : n = 0 := by simp at han; omega
    have q3 : (0 : Int) ≤ (c : Int) := by omega
    clear hj hl0
    cases A with
    | none =>
      go_enter Tryz.func70, Tryz.ntmps70
      go_wp2
      go_ret2
      exact ⟨_, rfl, ⟨none, c, rfl, by simp, fun j hj => by simp at hj⟩, rfl⟩
    | some ad =>
      by_cases hc0 : c = 0
      · subst hc0
        go_enter Tryz.func70, Tryz.ntmps70
        go_wp2
        go_ret2
        exact ⟨_, rfl, ⟨_, _, rfl, by simp, fun j hj => by simp at hj⟩, rfl⟩
      · go_enter Tryz.func70, Tryz.ntmps70
        go_wp2
        go_ret2
        exact ⟨_, rfl, ⟨_, _, rfl, by simp, fun j hj => by simp at hj⟩, rfl⟩
  obtain ⟨b, off, rfl, hb, -⟩ := hj 0 (by omega)
  have hj' : ∀ j, j < l.length → w.cell? ⟨b, off + j, none⟩ = some (.int .u8 (l.getD j 0)) := fun j hjl => by
    obtain ⟨b', off', e, _, hx⟩ := hj j hjl
    simp only [Option.some.injEq, Addr.mk.injEq, and_true] at e
    obtain ⟨rfl, rfl⟩ := e
    exact hx
  have HR := Lib.hid (rd_part hj' hb hc han)
  have q1 : (0 : Int) ≤ (a : Int) := by omega
  have q2 : (a : Int) + (n : Int) ≤ (c : Int) := by omega
  have q3 : (a : Int) ≤ (a : Int) + (n : Int) := by omega
  have HA := Lib.hid han
  clear hj hj'
  by_cases hca : c = a
  · have HX := Lib.hid hca
    obtain rfl : n = 0 := by omega
    go_enter Tryz.func70, Tryz.ntmps70
    go_wp2
    go_ret2
    refine ⟨_, rfl, ?_, rfl⟩
    exact ⟨some ⟨b, off, none⟩, c - a, by simp; have := HX.out; omega, by simp, fun j hj => by simp at hj⟩
  · go_enter Tryz.func70, Tryz.ntmps70
    go_wp2
    go_ret2
    refine ⟨_, rfl, ?_, rfl⟩
    show rd .u8 hi w (.slice (some ⟨b, off + a, none⟩) (a + n - a) (c - a)) _
    rw [Nat.add_sub_cancel_left]
    exact HR.out

end Go.Proofs.YtiolebpoofkpmaaGreatDoor
set_option linter.unusedVariables false
namespace Go.Proofs.YtiolebpoofkpmaaGreatDoor
open Go.ChangeShapes Go.WideShapes Go.ChangeAt Go.RowKit

end Go.Proofs.YtiolebpoofkpmaaGreatDoor
set_option linter.unusedVariables false
namespace Go.Proofs.YtiolebpoofkpmaaGreatDoor
open Go.ChangeShapes Go.WideShapes Go.ChangeAt Go.RowKit

set_option maxRecDepth 100000 in
theorem infoI64 : (Tryz.prog.info? 3).map (fun i => (i.zero, i.size, i.bytes)) = some (some (.int .i64 0), 1, 8) := by kernel_rfl
end Go.Proofs.YtiolebpoofkpmaaGreatDoor
