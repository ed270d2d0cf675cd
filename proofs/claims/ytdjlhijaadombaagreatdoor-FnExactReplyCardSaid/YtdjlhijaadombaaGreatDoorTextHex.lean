/- TextHex: both functions return the bytes that a text of hexadecimal digits denotes; no conditions. -/
import Derived.Test.YtdjlhijaadombaaGreatDoorHalves
import Derived.Test.YtdjlhijaadombaaGreatDoorShelf
import Derived.Lib.Bytealg
set_option linter.unusedVariables false
namespace Go.Proofs.YtdjlhijaadombaaGreatDoor
open Go.ChangeShapes Go.WideShapes Go.ChangeAt Go.RowKit

/-- the value of a hexadecimal digit, or -1 -/
def hexv (c : UInt8) : Int := if 48 ≤ c.toNat ∧ c.toNat ≤ 57 then (c.toNat : Int) - 48 else if 97 ≤ c.toNat ∧ c.toNat ≤ 102 then (c.toNat : Int) - 87 else -1
def isHex (c : UInt8) : Bool := decide (0 ≤ hexv c)
def hv (s : ByteArray) : List Int := s.data.toList.map hexv
def hexOk (s : ByteArray) : Bool := decide (s.size % 2 = 0) && s.data.toList.all isHex
def unhex (s : ByteArray) : List Int := if hexOk s = true then pairs (hv s) (s.size / 2) else []
set_option maxRecDepth 100000 in
theorem hexv_bd (c : UInt8) : -1 ≤ hexv c ∧ hexv c ≤ 15 := by unfold hexv; split <;> (try split) <;> omega
set_option maxRecDepth 100000 in
theorem hv_len (s : ByteArray) : (hv s).length = s.size := by simp [hv]
set_option maxRecDepth 100000 in
theorem hv_get (s : ByteArray) (k : Nat) (h : k < s.size) : (hv s).getD k 0 = hexv s[k] := by
  unfold hv
  rw [List.getD_eq_getElem?_getD, List.getElem?_map, List.getElem?_eq_getElem (by simpa using h)]
  rfl
set_option maxRecDepth 100000 in
theorem hexOk_odd {s : ByteArray} (h : ¬ s.size % 2 = 0) : hexOk s = false := by simp [hexOk, h]
set_option maxRecDepth 100000 in
theorem hexOk_bad {s : ByteArray} {k : Nat} (h : k < s.size) (hb : hexv s[k] < 0) : hexOk s = false := by
  have := allP_no isHex s k h (by unfold isHex; exact decide_eq_false (by omega))
  simp [hexOk, this]
set_option maxRecDepth 100000 in
theorem hexOk_good {s : ByteArray} (h : s.size % 2 = 0) (ha : s.data.toList.all isHex = true) : hexOk s = true := by simp [hexOk, h, ha]
set_option maxRecDepth 100000 in
theorem unhex_no {s : ByteArray} (h : hexOk s = false) : unhex s = [] := by simp [unhex, h]
set_option maxRecDepth 100000 in
theorem unhex_yes {s : ByteArray} (h : hexOk s = true) : unhex s = pairs (hv s) (s.size / 2) := by simp [unhex, h]
set_option maxRecDepth 100000 in
theorem hex_halves {s : ByteArray} (ha : s.data.toList.all isHex = true) : halvesOk (hv s) := by
  intro i
  by_cases h : i < s.size
  · rw [hv_get s i h]
    have := allP_get isHex s ha i h
    have h2 := hexv_bd s[i]
    simp [isHex] at this
    omega
  · rw [List.getD_eq_getElem?_getD, List.getElem?_eq_none (by rw [hv_len]; omega)]
    simp
set_option maxRecDepth 100000 in
theorem unhex_len (s : ByteArray) : (unhex s).length ≤ s.size := by
  unfold unhex; split
  · rw [pairs_len]; omega
  · simp
set_option maxRecDepth 100000 in
theorem resB_no {w w' : World} (hb : Below w.heap.size w w') : resB [] false w (.returned (.tuple #[.slice none 0 0, .bool false])) w' := ⟨_, rfl, ow_none _ _ _ _, hb⟩
set_option maxRecDepth 100000 in
theorem all_two {s : ByteArray} {k : Nat} (h : 2 * k + 1 < s.size) (ha : (s.data.toList.take (2 * k)).all isHex = true) (h0 : 0 ≤ hexv (s[2 * k]'(by omega))) (h1 : 0 ≤ hexv s[2 * k + 1]) : (s.data.toList.take (2 * (k + 1))).all isHex = true := by
  have := allP_one isHex s (2 * k) (by omega) ha (decide_eq_true h0)
  exact allP_one isHex s (2 * k + 1) h this (decide_eq_true h1)

set_option maxRecDepth 100000 in
theorem hexIx (c : UInt8) : Lib.indexByte [48, 49, 50, 51, 52, 53, 54, 55, 56, 57, 97, 98, 99, 100, 101, 102] c = hexv c := by
  have h : ∀ n < 256, Lib.indexByte [48, 49, 50, 51, 52, 53, 54, 55, 56, 57, 97, 98, 99, 100, 101, 102] (UInt8.ofNat n) = hexv (UInt8.ofNat n) := by decide +kernel
  have := h c.toNat (by have := c.toNat_lt; omega)
  simpa using this
set_option maxRecDepth 100000 in
theorem index_any (c : UInt8) (w : World) :
    Calls Tryz.prog 96 #[.string ⟨#[48, 49, 50, 51, 52, 53, 54, 55, 56, 57, 97, 98, 99, 100, 101, 102]⟩, .int .u8 (c.toNat : Int)] w fun e w' => e = .returned (.int .i64 (hexv c)) ∧ w = w' := by
  refine (Tryz.strings_IndexByte _ _ w).mono ?_
  rintro e w' ⟨rfl, rfl⟩
  refine ⟨ret_int ?_, rfl⟩
  rw [← hexIx c]
  congr 1
  simp

set_option maxRecDepth 100000 in
set_option maxHeartbeats 1600000 in
theorem implTextHex_any (s : ByteArray) (w : World) (hs : s.size ≤ 1073741824) :
    Calls Tryz.prog 83 #[.string s] w (resB (unhex s) (hexOk s) w) := by
  by_cases hodd : s.size % 2 = 0
  · have e1 : ((s.size : Int) % 2 == 1) = false := beq_eq_false_iff_ne.2 (by omega)
    have HO := Lib.hid hodd
    clear hodd
    go_enter Tryz.func83, Tryz.ntmps83
    go_wp2
    go_loopw [4, 5, 6, 13] (fun bv _ _ iv wr => ∃ k : Nat, k ≤ s.size ∧ iv = .int .i64 (k : Int) ∧ (s.data.toList.take k).all isHex = true ∧ wr.ownsRow w.heap.size 5 1 bv ((hv s).take k).length (((hv s).take k).map (Value.int .u8)) ∧ Below w.heap.size w wr) (fun _ _ _ iv _ => s.size - (intOf iv).toNat)
    case atStart => exact ⟨0, Nat.zero_le _, rfl, rfl, ⟨rfl, Or.inl ⟨rfl, rfl⟩⟩, Below.refl _ _⟩
    case round =>
      obtain ⟨k, hk, rfl, ha, hown, hb⟩ := hrel
      have HA := Lib.hid ha
      clear ha
      by_cases hlt : k < s.size
      · have hx := hexv_bd s[k]
        have HB := Lib.hid (fun h => hexOk_bad (s := s) (k := k) hlt h)
        have HN := Lib.hid (fun h => allP_one isHex s k hlt HA.out h)
        have htk : ((hv s).take k).length ≤ s.size := by rw [List.length_take, hv_len]; omega
        have htl : ((hv s).take k).length + 1 ≤ 9223372036854775807 := by omega
        have htb : (((hv s).take k).length + 1) * 1 ≤ 140737488355328 := by omega
        have HT : Hid ((hv s).take (k + 1) = (hv s).take k ++ [hexv s[k]]) := Lib.hid (by
          rw [← hv_get s k hlt, List.take_succ_eq_append_getElem (by rw [hv_len]; exact hlt), List.getD_eq_getElem?_getD, List.getElem?_eq_getElem (by rw [hv_len]; exact hlt)]; rfl)
        generalize (hv s).take k = M at hown HT htl htb
        clear htk
        by_cases hx0 : hexv s[k] < 0
        · have HG := Lib.hid (HB.out hx0)
          go_wp2_with (go_at_call 96; refine (index_any _ _).mono ?_; rintro e w1 ⟨rfl, rfl⟩)
          go_ret2
          rw [unhex_no HG.out, HG.out]
          exact resB_no hb
        · go_wp2_with (first | (go_at_call 96; refine (index_any _ _).mono ?_; rintro e w1 ⟨rfl, rfl⟩) | (at_builtin; refine app_one (Value.int .u8) (int_one .u8) 56 5 (.int .u8 0) 1 Tryz.underlying56 infoU8 rfl _ _ rfl (by rfl) w wr _ M _ (by rfl) (by rfl) hown hb htl htb ?_))
          intro v' w1 hown' hb'
          clear hown hb
          go_wp2
          go_roundw
          case rel => exact ⟨k + 1, by omega, by go_num, HN.out (decide_eq_true (by omega)), by rw [HT.out]; simpa using hown', hb'⟩
          case measure => simp [intOf] <;> omega
      · obtain rfl : k = s.size := by omega
        have hall := allP_end isHex s s.size (by omega) HA.out
        have hh := hex_halves hall
        have HG := Lib.hid (hexOk_good HO.out hall)
        rw [List.take_of_length_le (by rw [hv_len]; exact Nat.le_refl _)] at hown
        have HN := Lib.hid (nums_of_own hown).rd
        have HL := Lib.hid (hv_len s)
        clear hown hall
        go_wp2_with fail
        refine (halves_any _ _ (hv s) _ (by rw [HL.out]; omega) hh HN.out (Nat.le_refl _)).mono ?_
        rintro e w1 ⟨u, rfl, hu, hb1⟩
        have HU := Lib.hid hu
        clear hu
        go_wp2
        go_ret2
        rw [unhex_yes HG.out, HG.out]
        have := HU.out
        rw [HL.out] at this
        exact ⟨_, rfl, this.mono hb.size, hb.trans (hb1.mono hb.size)⟩
  · have e1 : ((s.size : Int) % 2 == 1) = true := beq_iff_eq.2 (by omega)
    have ho := Lib.hid (hexOk_odd hodd)
    clear hodd
    go_enter Tryz.func83, Tryz.ntmps83
    go_wp2
    go_ret2
    rw [unhex_no ho.out, ho.out]
    exact resB_no (Below.refl _ _)
end Go.Proofs.YtdjlhijaadombaaGreatDoor
