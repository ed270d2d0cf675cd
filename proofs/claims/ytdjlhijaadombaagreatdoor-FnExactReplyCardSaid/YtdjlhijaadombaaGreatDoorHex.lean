/- HexText: both functions return two hexadecimal digits for every byte; no conditions. -/
import Derived.Test.YtdjlhijaadombaaGreatDoorAll
import Derived.Test.YtdjlhijaadombaaGreatDoorNums
import Derived.Laws.BytesArg
import Derived.Maps.AppendAt
import Derived.RegionTactic
import Derived.StillTailTactics
set_option linter.unusedVariables false
namespace Go.Proofs.YtdjlhijaadombaaGreatDoor
open Go.ChangeShapes Go.WideShapes Go.ChangeAt Go.RowKit

set_option maxRecDepth 100000 in
theorem sapp (a b : List UInt8) : ((⟨a.toArray⟩ : ByteArray) ++ (⟨b.toArray⟩ : ByteArray)) = ⟨(a ++ b).toArray⟩ := by apply ByteArray.ext; simp
def hexI (h : Int) : Int := if h < 10 then 48 + h else 87 + h
/-- the upper or the lower half of byte i / 2 -/
def halfAt (l : List Int) (i : Nat) : Int := if i % 2 = 0 then l.getD (i / 2) 0 / 16 else l.getD (i / 2) 0 % 16
def hexN (l : List Int) (n : Nat) : List Int := (List.range n).map fun i => hexI (halfAt l i)
def hexL (l : List Int) : List UInt8 := (hexN l (2 * l.length)).map byteOf
set_option maxRecDepth 100000 in
theorem hexN_step (l : List Int) (n : Nat) : hexN l (n + 1) = hexN l n ++ [hexI (halfAt l n)] := by simp [hexN, List.range_succ]
set_option maxRecDepth 100000 in
theorem hexN_len (l : List Int) (n : Nat) : (hexN l n).length = n := by simp [hexN]
set_option maxRecDepth 100000 in
theorem half_even (l : List Int) (k : Nat) : halfAt l (2 * k) = l.getD k 0 / 16 := by
  unfold halfAt; rw [if_pos (by omega), show 2 * k / 2 = k by omega]
set_option maxRecDepth 100000 in
theorem half_odd (l : List Int) (k : Nat) : halfAt l (2 * k + 1) = l.getD k 0 % 16 := by
  unfold halfAt; rw [if_neg (by omega), show (2 * k + 1) / 2 = k by omega]
set_option maxRecDepth 100000 in
theorem hexN_two (l : List Int) (k : Nat) : (hexN l (2 * (k + 1))).map byteOf = (hexN l (2 * k)).map byteOf ++ [byteOf (hexI (l.getD k 0 / 16)), byteOf (hexI (l.getD k 0 % 16))] := by
  rw [show 2 * (k + 1) = 2 * k + 1 + 1 by omega, hexN_step, hexN_step, half_even, half_odd]; simp
set_option maxRecDepth 100000 in
/-- the digit of a half -/
theorem run_hexd (K : IntKind) (h : Int) (h0 : 0 ≤ h) (h1 : h ≤ 15) (W : World) :
    (Instr.index 9 (.string ⟨#[48, 49, 50, 51, 52, 53, 54, 55, 56, 57, 97, 98, 99, 100, 101, 102]⟩) (.int K h)).run Tryz.prog W = .ok (.int .u8 (hexI h)) W := by
  have : h = 0 ∨ h = 1 ∨ h = 2 ∨ h = 3 ∨ h = 4 ∨ h = 5 ∨ h = 6 ∨ h = 7 ∨ h = 8 ∨ h = 9 ∨ h = 10 ∨ h = 11 ∨ h = 12 ∨ h = 13 ∨ h = 14 ∨ h = 15 := by omega
  rcases this with rfl | rfl | rfl | rfl | rfl | rfl | rfl | rfl | rfl | rfl | rfl | rfl | rfl | rfl | rfl | rfl <;> rfl
set_option maxRecDepth 100000 in
theorem conv_two (W : World) (c d : Int) (T : TypeId) : (convert 56 9 (.slice (some ⟨W.heap.size, 0, none⟩) 2 2)).run Tryz.prog (W.alloc (.cells #[.int .u8 c, .int .u8 d] T)) = .ok (.string ⟨#[byteOf c, byteOf d]⟩) (W.alloc (.cells #[.int .u8 c, .int .u8 d] T)) := by
  have h := run_convert_bytes_arg (P := Tryz.prog) (W.alloc (.cells #[.int .u8 c, .int .u8 d] T)) 56 5 Tryz.underlying56 Tryz.underlying5 W.heap.size 0 2 2 [c, d] rfl
    (fun i hi => by
      have : i = 0 ∨ i = 1 := by omega
      rcases this with rfl | rfl <;> simp) 9 Tryz.underlying9
  exact h
set_option maxRecDepth 100000 in
theorem conv_two_drew (W : World) (c d : Int) (T : TypeId) : (convert 56 9 (.slice (some ⟨W.heap.size, 0, none⟩) 2 2)).run Tryz.prog (W.alloc (.cells #[.int .u8 c, .int .u8 d] T)).drew = .ok (.string ⟨#[byteOf c, byteOf d]⟩) (W.alloc (.cells #[.int .u8 c, .int .u8 d] T)).drew := conv_two W.drew c d T

set_option maxRecDepth 100000 in
theorem infoU8b : (Tryz.prog.info? 5).map (fun i => (i.zero, i.size, i.bytes)) = some (some (.int .u8 0), 1, 1) := by kernel_rfl
set_option maxRecDepth 100000 in
set_option maxHeartbeats 1600000 in
theorem implHexText_any (hi : Nat) (v : Value) (l : List Int) (w : World) (hn : l.length ≤ 1073741824) (hl : isBytes l) (h : rd .u8 hi w v l) (hhi : hi ≤ w.heap.size) :
    Calls Tryz.prog 85 #[v] w fun e w' => e = .returned (.string ⟨(hexL l).toArray⟩) ∧ Below w.heap.size w w' := by
  obtain ⟨A, c, rfl, hc, h⟩ := h
  have HR := Lib.hid h
  clear h
  go_enter Tryz.func85, Tryz.ntmps85
  go_wp2
  go_loopw [3, 4, 5, 9] (fun tv _ _ iv wr => ∃ k : Nat, k ≤ 2 * l.length ∧ iv = .int .i64 k ∧ wr.ownsRow w.heap.size 5 1 tv (hexN l k).length ((hexN l k).map (Value.int .u8)) ∧ Below w.heap.size w wr) (fun _ _ _ iv _ => 2 * l.length - (intOf iv).toNat)
  case atStart => exact ⟨0, Nat.zero_le _, rfl, ⟨rfl, Or.inl ⟨rfl, rfl⟩⟩, Below.refl _ _⟩
  case round =>
    obtain ⟨k, hk, rfl, hown, hb⟩ := hrel
    by_cases hlt : k < 2 * l.length
    · obtain ⟨b, off, rfl, hbl, hcell⟩ := HR.out (k / 2) (by omega)
      have hcell := (hb.cell (p := ⟨b, off + k / 2, none⟩) (show b < w.heap.size by omega)).trans hcell
      have hx := hl.getD (k / 2)
      have HT := Lib.hid (hexN_step l k)
      have HV := Lib.hid (half_even l (k / 2))
      have HW := Lib.hid (half_odd l (k / 2))
      generalize l.getD (k / 2) 0 = x at hx hcell HV HW
      obtain ⟨hx0, hx1⟩ := hx
      have HX := Lib.hid hn
      have htl : (hexN l k).length + 1 ≤ 9223372036854775807 := by rw [hexN_len]; omega
      have htb : ((hexN l k).length + 1) * 1 ≤ 140737488355328 := by rw [hexN_len]; omega
      by_cases hev : k % 2 = 0
      · obtain ⟨m, rfl⟩ : ∃ m, k = 2 * m := ⟨k / 2, by omega⟩
        rw [show 2 * m / 2 = m by omega] at hcell HV
        have g0 : (2 : Int) * (m : Int) < 2 * (l.length : Int) := by omega
        have g1 : (m : Int) < (l.length : Int) := by omega
        have g2 : 0 ≤ (m : Int) := by omega
        have i1 := run_hexd .u8 (x / 16) (by omega) (by omega)
        clear hev HW
        have HT := Lib.hid (by have := HT.out; rw [HV.out] at this; exact this : hexN l (2 * m + 1) = hexN l (2 * m) ++ [hexI (x / 16)])
        generalize hexN l (2 * m) = L at hown HT htl htb
        go_wp2_with (at_builtin; refine app_one (Value.int .u8) (int_one .u8) 56 5 (.int .u8 0) 1 Tryz.underlying56 infoU8b rfl _ _ rfl (by rfl) w wr _ L _ (by rfl) (by rfl) hown hb htl htb ?_)
        intro v' w1 hown' hb'
        clear hown hb
        go_wp2
        go_roundw
        case rel => exact ⟨2 * m + 1, by omega, by go_num, by rw [HT.out]; simpa using hown', hb'⟩
        case measure => simp [intOf] <;> omega
      · obtain ⟨m, rfl⟩ : ∃ m, k = 2 * m + 1 := ⟨k / 2, by omega⟩
        rw [show (2 * m + 1) / 2 = m by omega] at hcell HW
        have g0 : (2 : Int) * (m : Int) + 1 < 2 * (l.length : Int) := by omega
        have g1 : (m : Int) < (l.length : Int) := by omega
        have g2 : 0 ≤ (m : Int) := by omega
        have g3 : (2 * (m : Int) + 1) / 2 = m := by omega
        have g4 : (2 * (m : Int) + 1) % 2 = 1 := by omega
        have i1 := run_hexd .u8 (x % 16) (by omega) (by omega)
        clear hev HV
        have HT := Lib.hid (by have := HT.out; rw [HW.out] at this; exact this : hexN l (2 * m + 1 + 1) = hexN l (2 * m + 1) ++ [hexI (x % 16)])
        generalize hexN l (2 * m + 1) = L at hown HT htl htb
        go_wp2_with (at_builtin; refine app_one (Value.int .u8) (int_one .u8) 56 5 (.int .u8 0) 1 Tryz.underlying56 infoU8b rfl _ _ rfl (by rfl) w wr _ L _ (by rfl) (by rfl) hown hb htl htb ?_)
        intro v' w1 hown' hb'
        clear hown hb
        go_wp2
        go_roundw
        case rel => exact ⟨2 * m + 1 + 1, by omega, by go_num, by rw [HT.out]; simpa using hown', hb'⟩
        case measure => simp [intOf] <;> omega
    · obtain rfl : k = 2 * l.length := by omega
      have hcv := str_of_own hown
      clear hown
      go_wp2
      go_ret
      exact ⟨rfl, hb⟩
end Go.Proofs.YtdjlhijaadombaaGreatDoor
