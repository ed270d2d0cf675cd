/- What was put is got back: digits, lengths, fields; wherever it lies. Plain facts on lists; no conditions. -/
import Derived.Test.YtkkbhlaakhkjnaaDoorGetImpl
set_option linter.unusedVariables false
set_option linter.unusedSimpArgs false
namespace Go.Proofs.YtkkbhlaakhkjnaaDoor
open Go.ChangeShapes Go.WideShapes Go.ChangeAt Go.RowKit

set_option maxRecDepth 100000 in
theorem mid_part (P M Q : List Int) : ((P ++ M ++ Q).drop P.length).take M.length = M := by
  rw [List.append_assoc, List.drop_left, List.take_left]
set_option maxRecDepth 100000 in
theorem pairs_get (L : List Int) (n k : Nat) (h : k < n) : (pairs L n).getD k 0 = 16 * L.getD (2 * k) 0 + L.getD (2 * k + 1) 0 := by
  unfold pairs
  simp [h]
set_option maxRecDepth 100000 in
theorem half_pairs (L : List Int) (hL : halvesOk L) (n i : Nat) (h : i < 2 * n) : halfAt (pairs L n) i = L.getD i 0 := by
  rcases Nat.mod_two_eq_zero_or_one i with e | e
  · obtain ⟨k, rfl⟩ : ∃ k, i = 2 * k := ⟨i / 2, by omega⟩
    rw [half_even, pairs_get _ _ _ (by omega)]
    have h1 := hL (2 * k); have h2 := hL (2 * k + 1)
    omega
  · obtain ⟨k, rfl⟩ : ∃ k, i = 2 * k + 1 := ⟨i / 2, by omega⟩
    rw [half_odd, pairs_get _ _ _ (by omega)]
    have h1 := hL (2 * k); have h2 := hL (2 * k + 1)
    omega
set_option maxRecDepth 100000 in
theorem hv_getD {s : ByteArray} (hd : digs s = true) (i : Nat) (h : i < s.size) : (hv s).getD i 0 = (s[i].toNat : Int) - 48 ∧ 48 ≤ s[i].toNat ∧ s[i].toNat ≤ 57 := by
  have := digs_get hd i h
  exact ⟨by rw [hv_get s i h, hexv_dig this], this.1, this.2⟩
set_option maxRecDepth 100000 in
theorem hv_halves {s : ByteArray} (hd : digs s = true) : halvesOk (hv s) := by
  intro i
  by_cases h : i < s.size
  · have := hv_getD hd i h
    omega
  · rw [List.getD_eq_getElem?_getD, List.getElem?_eq_none (by rw [hv_len]; omega)]
    simp
set_option maxRecDepth 100000 in
/-- the digits of a text of even length -/
theorem dec_back {t : ByteArray} (hd : digs t = true) (he : t.size % 2 = 0) : decN (pairs (hv t) (t.size / 2)) (2 * (pairs (hv t) (t.size / 2)).length) = t.data.toList := by
  rw [pairs_len]
  unfold decN
  refine List.ext_getElem (by simp; omega) fun i h1 h2 => ?_
  have hi : i < t.size := by simpa using h2
  rw [List.getElem_map, List.getElem_range, half_pairs _ (hv_halves hd) _ _ (by omega)]
  have hg := hv_getD hd i hi
  rw [hg.1]
  have : t.data.toList[i] = t[i] := rfl
  rw [this]
  unfold byteOf
  rw [show (48 + ((t[i].toNat : Int) - 48)).toNat = t[i].toNat by omega]
  exact UInt8.ofNat_toNat
set_option maxRecDepth 100000 in
theorem small_back {t : ByteArray} (hd : digs t = true) (n : Nat) (hn : 2 * n ≤ t.size) : small (pairs (hv t) n) = true := by
  unfold small
  rw [pairs_len, List.all_eq_true]
  intro i hi
  have hi' : i < 2 * n := by simpa using hi
  rw [half_pairs _ (hv_halves hd) _ _ hi', (hv_getD hd i (by omega)).1]
  have := hv_getD hd i (by omega)
  simp
  omega
set_option maxRecDepth 100000 in
theorem pad_digs {s : ByteArray} (hd : digs s = true) : digs (padS s) = true := by
  unfold padS
  split
  · exact digs_pad hd
  · exact hd
set_option maxRecDepth 100000 in
theorem pad_sz (s : ByteArray) : (padS s).size = 2 * ((s.size + 1) / 2) := by
  unfold padS
  split
  · rw [pad_size]; omega
  · omega
set_option maxRecDepth 100000 in
theorem bcd_size {s : ByteArray} (h : bcdOk s = true) : (bcd s).length = (s.size + 1) / 2 := by
  rw [bcd_yes h, pairs_len, pad_sz]; omega
set_option maxRecDepth 100000 in
theorem bcdOk_iff (s : ByteArray) : bcdOk s = true ↔ digs s = true ∧ s.size ≤ 38 := by simp [bcdOk]
set_option maxRecDepth 100000 in
theorem bcd_bytes (s : ByteArray) : isBytes (bcd s) := by
  by_cases h : bcdOk s = true
  · have hh := hv_halves (pad_digs ((bcdOk_iff s).1 h).1)
    rw [bcd_yes h]
    intro z hz
    unfold pairs at hz
    obtain ⟨i, _, rfl⟩ := List.mem_map.1 hz
    have h1 := hh (2 * i)
    have h2 := hh (2 * i + 1)
    omega
  · unfold bcd
    rw [if_neg h]
    intro z hz
    cases hz
set_option maxRecDepth 100000 in
/-- digits are found again -/
theorem bcd_back {s : ByteArray} (h : bcdOk s = true) (P Q : List Int) :
    gOk (P ++ bcd s ++ Q) P.length s.size = true ∧ gTxt (P ++ bcd s ++ Q) P.length s.size = s.data.toList ∧ gEnd (P ++ bcd s ++ Q) P.length s.size = P.length + (bcd s).length := by
  obtain ⟨hd, h38⟩ := (bcdOk_iff s).1 h
  have hp := digs_pos hd
  have hlen := bcd_size h
  have hn : (((s.size : Int) + 1) / 2).toNat = (bcd s).length := by rw [hlen]; omega
  have hpart : gPart (P ++ bcd s ++ Q) P.length s.size = bcd s := by
    unfold gPart
    rw [hn, show ((P.length : Int)).toNat = P.length by omega, mid_part]
  have hin : gIn (P ++ bcd s ++ Q) P.length s.size = true := by
    unfold gIn
    simp only [Bool.and_eq_true, decide_eq_true_eq, List.length_append]
    refine ⟨⟨⟨by omega, by omega⟩, by omega⟩, by omega⟩
  have hpd := pad_digs hd
  have hps := pad_sz s
  have hsm : small (bcd s) = true := by rw [bcd_yes h]; exact small_back hpd _ (by omega)
  have hdec : decN (bcd s) (2 * (bcd s).length) = (padS s).data.toList := by rw [bcd_yes h]; exact dec_back hpd (by omega)
  have hok : gOk (P ++ bcd s ++ Q) P.length s.size = true := by
    unfold gOk
    rw [hin, hpart, hsm]
    simp only [Bool.true_and, Bool.or_eq_true, decide_eq_true_eq]
    rcases Nat.mod_two_eq_zero_or_one s.size with e | e
    · left; omega
    · right
      have hb := bcd_yes h
      rw [hb, half_pairs _ (hv_halves hpd) _ _ (by omega), (hv_getD hpd 0 (by omega)).1]
      have : padS s = ⟨#[48]⟩ ++ s := by unfold padS; rw [if_pos e]
      have h0 : (padS s).data.toList = 48 :: s.data.toList := by rw [this]; simp
      have h1 : (padS s)[0]'(by omega) = 48 := by
        show (padS s).data.toList[0]'(by simp; omega) = 48
        simp only [h0, List.getElem_cons_zero]
      rw [h1]
      decide
  refine ⟨hok, ?_, ?_⟩
  · unfold gTxt
    rw [if_pos hok, hpart, hdec]
    rcases Nat.mod_two_eq_zero_or_one s.size with e | e
    · rw [if_neg (by omega)]; unfold padS; rw [if_neg (by omega)]
    · rw [if_pos (by omega)]; unfold padS; rw [if_pos e]; simp
  · unfold gEnd
    rw [if_pos hok, hlen]
    omega
set_option maxRecDepth 100000 in
theorem wide_61 : ∀ n, n < 61 → (digs ⟨(wideOf (n : Nat) 2).toArray⟩ = true ∧ (wideOf (n : Nat) 2).length = 2 ∧ narVal ⟨(wideOf (n : Nat) 2).toArray⟩ = n) ∧ (digs ⟨(wideOf (n : Nat) 3).toArray⟩ = true ∧ (wideOf (n : Nat) 3).length = 3 ∧ narVal ⟨(wideOf (n : Nat) 3).toArray⟩ = n) := by decide +kernel
set_option maxRecDepth 100000 in
theorem wide_both {n : Nat} (hn : n ≤ 60) {d : Int} (hd : d = 2 ∨ d = 3) : digs ⟨(wideOf (n : Nat) d).toArray⟩ = true ∧ ((wideOf (n : Nat) d).length : Int) = d ∧ narVal ⟨(wideOf (n : Nat) d).toArray⟩ = n := by
  obtain ⟨h2, h3⟩ := wide_61 n (by omega)
  rcases hd with rfl | rfl
  · exact ⟨h2.1, by omega, h2.2.2⟩
  · exact ⟨h3.1, by omega, h3.2.2⟩
set_option maxRecDepth 100000 in
/-- a length is found again -/
theorem len_back {n : Nat} (hn : n ≤ 60) {d : Int} (hd : d = 2 ∨ d = 3) (P Q : List Int) :
    lenGot (P ++ putLen n d ++ Q) P.length d = true ∧ lenVal (P ++ putLen n d ++ Q) P.length d = n ∧ lenEnd (P ++ putLen n d ++ Q) P.length d = P.length + (putLen n d).length := by
  have hl : lenDig d = true := by rcases hd with rfl | rfl <;> rfl
  obtain ⟨h1, h2, h3⟩ := wide_both hn hd
  have hs : ((⟨(wideOf (n : Nat) d).toArray⟩ : ByteArray).size : Int) = d := h2
  have hok : bcdOk ⟨(wideOf (n : Nat) d).toArray⟩ = true := (bcdOk_iff _).2 ⟨h1, by omega⟩
  obtain ⟨b1, b2, b3⟩ := bcd_back hok P Q
  rw [hs] at b1 b2 b3
  have hp : putLen n d = bcd ⟨(wideOf (n : Nat) d).toArray⟩ := by unfold putLen; rw [if_pos hl]
  rw [hp]
  refine ⟨by unfold lenGot; rw [hl, b1]; rfl, ?_, by unfold lenEnd; rw [if_pos hl, b3]⟩
  unfold lenVal
  rw [if_pos hl, b2]
  exact h3
set_option maxRecDepth 100000 in
theorem part_back (s : ByteArray) (P Q : List Int) : inR (P ++ bytesL s ++ Q) P.length s.size = true ∧ tPart (P ++ bytesL s ++ Q) P.length s.size = s.data.toList := by
  have hl := bytesL_len s
  constructor
  · unfold inR
    simp only [Bool.and_eq_true, decide_eq_true_eq, List.length_append, hl]
    refine ⟨⟨by omega, by omega⟩, by omega⟩
  · unfold tPart
    rw [show ((P.length : Int)).toNat = P.length by omega, show ((s.size : Int)).toNat = (bytesL s).length by rw [hl]; omega, mid_part, byteOf_back]
set_option maxRecDepth 100000 in
theorem raw3 (l : List Int) (a sz : Int) : rawOk 3 l a sz = (lenGot l a 2 && gOk l (lenEnd l a 2) (lenVal l a 2)) ∧ rawTxt 3 l a sz = gTxt l (lenEnd l a 2) (lenVal l a 2) ∧ rawEnd 3 l a sz = gEnd l (lenEnd l a 2) (lenVal l a 2) := ⟨rfl, rfl, rfl⟩
set_option maxRecDepth 100000 in
theorem raw4 (l : List Int) (a sz : Int) : rawOk 4 l a sz = (lenGot l a 2 && inR l (lenEnd l a 2) (lenVal l a 2)) ∧ rawTxt 4 l a sz = tPart l (lenEnd l a 2) (lenVal l a 2) ∧ rawEnd 4 l a sz = lenEnd l a 2 + lenVal l a 2 := ⟨rfl, rfl, rfl⟩
set_option maxRecDepth 100000 in
theorem raw5 (l : List Int) (a sz : Int) : rawOk 5 l a sz = (lenGot l a 3 && inR l (lenEnd l a 3) (lenVal l a 3)) ∧ rawTxt 5 l a sz = tPart l (lenEnd l a 3) (lenVal l a 3) ∧ rawEnd 5 l a sz = lenEnd l a 3 + lenVal l a 3 := ⟨rfl, rfl, rfl⟩
set_option maxRecDepth 100000 in
theorem back_str (s : ByteArray) : (⟨s.data.toList.toArray⟩ : ByteArray) = s := by simp
set_option maxRecDepth 100000 in
/-- a field is found again, wherever it lies -/
theorem field_back {no : Int} {s : ByteArray} (h : fOk no s = true) (P Q : List Int) :
    getRes (P ++ putFL no s ++ Q) P.length no = .returned (.tuple #[.string s, .int .i64 (P.length + (putFL no s).length), .bool true]) := by
  have hk : fKind no ≠ 0 := fun e => by rw [fOk_no e] at h; cases h
  have h60 := fOk_60 h
  have hokb : okBy (fKind no) (fSize no) s = true := h
  have hput : putFL no s = putBody (fKind no) s := by unfold putFL; rw [if_pos h]
  unfold getRes
  rw [if_neg hk, hput]
  have key : rawOk (fKind no) (P ++ putBody (fKind no) s ++ Q) P.length (fSize no) = true ∧ rawTxt (fKind no) (P ++ putBody (fKind no) s ++ Q) P.length (fSize no) = s.data.toList ∧ rawEnd (fKind no) (P ++ putBody (fKind no) s ++ Q) P.length (fSize no) = P.length + (putBody (fKind no) s).length := by
    have hsz := fOk_size h
    have hkc := kind_cases no
    generalize fKind no = kd at *
    generalize fSize no = sz at *
    rcases hkc with rfl | rfl | rfl | rfl | rfl | rfl
    · exact absurd rfl hk
    · simp [okBy] at hokb
      have hb : bcdOk s = true := (bcdOk_iff s).2 ⟨hokb.2, by omega⟩
      obtain ⟨b1, b2, b3⟩ := bcd_back hb P Q
      rw [hokb.1] at b1 b2 b3
      refine ⟨?_, ?_, ?_⟩
      · simp [rawOk, putBody, ← List.append_assoc, b1]
      · simp [rawTxt, putBody, ← List.append_assoc, b2]
      · simp [rawEnd, putBody, ← List.append_assoc, b3]
    · simp [okBy] at hokb
      obtain ⟨b1, b2⟩ := part_back s P Q
      have hl := bytesL_len s
      rw [hokb.1] at b1 b2
      refine ⟨?_, ?_, ?_⟩
      · simp [rawOk, putBody, ← List.append_assoc, b1]
      · simp [rawTxt, putBody, ← List.append_assoc, b2]
      · simp only [rawEnd, putBody]; simp [hl]; omega
    · simp [okBy] at hokb
      have hb : bcdOk s = true := (bcdOk_iff s).2 ⟨hokb.2, by omega⟩
      obtain ⟨l1, l2, l3⟩ := len_back (n := s.size) (by omega) (.inl rfl : (2 : Int) = 2 ∨ (2 : Int) = 3) P (bcd s ++ Q)
      obtain ⟨b1, b2, b3⟩ := bcd_back hb (P ++ putLen s.size 2) Q
      have e : P ++ putBody 3 s ++ Q = P ++ putLen s.size 2 ++ (bcd s ++ Q) := by simp [putBody]
      have e' : P ++ putLen s.size 2 ++ (bcd s ++ Q) = P ++ putLen s.size 2 ++ bcd s ++ Q := by simp
      have hc : ((P ++ putLen s.size 2).length : Int) = P.length + (putLen s.size 2).length := by simp
      rw [hc] at b1 b2 b3
      rw [e]
      refine ⟨?_, ?_, ?_⟩
      · rw [(raw3 _ _ _).1, l1, l2, l3, e', b1]; rfl
      · rw [(raw3 _ _ _).2.1, l2, l3, e', b2]
      · rw [(raw3 _ _ _).2.2, l2, l3, e', b3]; simp [putBody]; omega
    · simp [okBy] at hokb
      obtain ⟨l1, l2, l3⟩ := len_back (n := s.size) (by omega) (.inl rfl : (2 : Int) = 2 ∨ (2 : Int) = 3) P (bytesL s ++ Q)
      obtain ⟨b1, b2⟩ := part_back s (P ++ putLen s.size 2) Q
      have hl := bytesL_len s
      have e : P ++ putBody 4 s ++ Q = P ++ putLen s.size 2 ++ (bytesL s ++ Q) := by simp [putBody]
      have e' : P ++ putLen s.size 2 ++ (bytesL s ++ Q) = P ++ putLen s.size 2 ++ bytesL s ++ Q := by simp
      have hc : ((P ++ putLen s.size 2).length : Int) = P.length + (putLen s.size 2).length := by simp
      rw [hc] at b1 b2
      rw [e]
      refine ⟨?_, ?_, ?_⟩
      · rw [(raw4 _ _ _).1, l1, l2, l3, e', b1]; rfl
      · rw [(raw4 _ _ _).2.1, l2, l3, e', b2]
      · rw [(raw4 _ _ _).2.2, l2, l3]; simp [putBody, hl]; omega
    · simp [okBy] at hokb
      obtain ⟨l1, l2, l3⟩ := len_back (n := s.size) (by omega) (.inr rfl : (3 : Int) = 2 ∨ (3 : Int) = 3) P (bytesL s ++ Q)
      obtain ⟨b1, b2⟩ := part_back s (P ++ putLen s.size 3) Q
      have hl := bytesL_len s
      have e : P ++ putBody 5 s ++ Q = P ++ putLen s.size 3 ++ (bytesL s ++ Q) := by simp [putBody]
      have e' : P ++ putLen s.size 3 ++ (bytesL s ++ Q) = P ++ putLen s.size 3 ++ bytesL s ++ Q := by simp
      have hc : ((P ++ putLen s.size 3).length : Int) = P.length + (putLen s.size 3).length := by simp
      rw [hc] at b1 b2
      rw [e]
      refine ⟨?_, ?_, ?_⟩
      · rw [(raw5 _ _ _).1, l1, l2, l3, e', b1]; rfl
      · rw [(raw5 _ _ _).2.1, l2, l3, e', b2]
      · rw [(raw5 _ _ _).2.2, l2, l3]; simp [putBody, hl]; omega
  obtain ⟨k1, k2, k3⟩ := key
  have hg : getOk (fKind no) (P ++ putBody (fKind no) s ++ Q) P.length (fSize no) = true := by
    unfold getOk
    rw [k1, k2, back_str, hokb]
    rfl
  rw [trip_on hg, k2, k3, back_str]
end Go.Proofs.YtkkbhlaakhkjnaaDoor
