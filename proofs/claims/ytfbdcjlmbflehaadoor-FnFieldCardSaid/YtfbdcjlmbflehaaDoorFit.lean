/- FieldFit of both; no conditions. -/
import Derived.Test.YtfbdcjlmbflehaaDoorGetPure
import Derived.Test.YtfbdcjlmbflehaaDoorShelf
set_option linter.unusedVariables false
namespace Go.Proofs.YtfbdcjlmbflehaaDoor
open Go.ChangeShapes Go.WideShapes Go.ChangeAt Go.RowKit

def padL (j : Nat) (s : ByteArray) : ByteArray := ⟨(List.replicate j 48 ++ s.data.toList).toArray⟩
def padR (j : Nat) (s : ByteArray) : ByteArray := ⟨(s.data.toList ++ List.replicate j 32).toArray⟩
set_option maxRecDepth 100000 in
theorem padL_zero (s : ByteArray) : padL 0 s = s := rfl
set_option maxRecDepth 100000 in
theorem padR_zero (s : ByteArray) : padR 0 s = s := by unfold padR; simp
set_option maxRecDepth 100000 in
theorem padL_size (j : Nat) (s : ByteArray) : (padL j s).size = j + s.size := by show (List.replicate j 48 ++ s.data.toList).length = _; simp
set_option maxRecDepth 100000 in
theorem padR_size (j : Nat) (s : ByteArray) : (padR j s).size = s.size + j := by show (s.data.toList ++ List.replicate j 32).length = _; simp
set_option maxRecDepth 100000 in
theorem padL_step (j : Nat) (s : ByteArray) : (⟨#[48]⟩ : ByteArray) ++ padL j s = padL (j + 1) s := by
  unfold padL
  apply ByteArray.ext
  simp [List.replicate_succ]
set_option maxRecDepth 100000 in
theorem padR_step (j : Nat) (s : ByteArray) : padR j s ++ (⟨#[32]⟩ : ByteArray) = padR (j + 1) s := by
  unfold padR
  apply ByteArray.ext
  rw [ByteArray.data_append]
  have h32 : (⟨#[32]⟩ : ByteArray).data = [(32 : UInt8)].toArray := rfl
  rw [h32, List.append_toArray, List.replicate_succ', List.append_assoc]
/-- s filled up for a kind and a size -/
def fitS (kd : Int) (m : Nat) (s : ByteArray) : ByteArray := if kd = 1 then padL (m - s.size) s else if kd = 2 then padR (m - s.size) s else s
def sizeB : Value → Nat | .string s => s.size | _ => 0
def fitRes (no : Int) (s : ByteArray) : ByteArray := if fOk no (fitS (fKind no) (fSize no).toNat s) = true then fitS (fKind no) (fSize no).toNat s else ⟨#[]⟩
set_option maxRecDepth 100000 in
theorem fitS_size (kd : Int) (m : Nat) (s : ByteArray) (hm : m ≤ 60) (hs : s.size ≤ 1048576) : (fitS kd m s).size ≤ 1048576 := by
  unfold fitS
  split
  · rw [padL_size]; omega
  · split
    · rw [padR_size]; omega
    · exact hs
set_option maxRecDepth 100000 in
theorem rep_32 (c : Nat) : Lib.repeatL [32] c = List.replicate c 32 := by
  induction c with
  | zero => rfl
  | succ c ih => rw [List.replicate_succ, ← ih]; rfl
set_option maxRecDepth 100000 in
theorem fSize_nn (no : Int) : 0 ≤ fSize no := by
  by_cases h : fKind no = 0
  · rw [fSize_no h]; omega
  · have := fSize_pos h; omega

set_option maxRecDepth 100000 in
set_option maxHeartbeats 1600000 in
theorem specFieldFit_any (no : Int) (s : ByteArray) (w : World) (hs : s.size ≤ 1048576) :
    Calls Tryd.prog 34 #[.int .i64 no, .string s] w fun e w' => e = .returned (.string (fitRes no s)) ∧ w = w' := by
  have H1 := Lib.hid (specFieldKind_any no)
  have H2 := Lib.hid (specFieldSize_any no)
  have hsz := (kind_size no).2.2.2.2
  have hnn := fSize_nn no
  have hk := kind_cases no
  have HR : Hid (fitRes no s = if fOk no (fitS (fKind no) (fSize no).toNat s) = true then fitS (fKind no) (fSize no).toNat s else ⟨#[]⟩) := Lib.hid rfl
  have HT := Lib.hid (fitS_size (fKind no) (fSize no).toNat s (by omega) hs)
  have HO := Lib.hid (specFieldOk_any no (fitS (fKind no) (fSize no).toNat s) w (by have := HT.out; unfold maxLen; omega))
  have HD : Hid (fitS (fKind no) (fSize no).toNat s = if fKind no = 1 then padL ((fSize no).toNat - s.size) s else if fKind no = 2 then padR ((fSize no).toNat - s.size) s else s) := Lib.hid rfl
  generalize fitS (fKind no) (fSize no).toNat s = f at HR HT HO HD
  generalize fKind no = kd at H1 HD hk
  generalize fSize no = sz at H2 HD hsz hnn
  obtain ⟨m, rfl⟩ : ∃ m : Nat, sz = m := ⟨sz.toNat, by omega⟩
  rw [Int.toNat_natCast] at HD
  rw [HR.out]
  clear HR
  have hm : m ≤ 60 := by omega
  have hend : ∀ Q : ByteArray → Prop, Q (if fOk no f = true then f else ⟨#[]⟩) ↔ (fOk no f = true → Q f) ∧ (fOk no f = false → Q ⟨#[]⟩) := by
    intro Q
    cases fOk no f <;> simp
  clear hend
  generalize hfo : fOk no f = ok at HO ⊢
  clear hfo
  generalize hres : (if ok = true then f else ⟨#[]⟩ : ByteArray) = r
  have HRES := Lib.hid hres
  clear hres hnn hsz
  rcases hk with rfl | rfl | rfl | rfl | rfl | rfl
  · have hf : f = s := by rw [HD.out]; rfl
    subst hf
    clear HD
    by_cases h1 : (f.size : Int) < (m : Int)
    · have d0 : decide ((f.size : Int) < (m : Int)) = true := decide_eq_true h1
      go_enter Tryd.func34, Tryd.ntmps34
      go_wp2
      go_loop [1] (fun v => v = .string f) (fun _ => 0)
      case atStart => rfl
      case round =>
        subst hrel
        go_wp2_with fail
        refine (H2.out _).mono ?_
        rintro e w1 ⟨rfl, rfl⟩
        go_wp2_with fail
        refine (H1.out _).mono ?_
        rintro e w1 ⟨rfl, rfl⟩
        go_wp2
        go_loop [1] (fun v => v = .string f) (fun _ => 0)
        case atStart => rfl
        case round =>
          subst hrel
          go_wp2_with fail
          refine (H2.out _).mono ?_
          rintro e w1 ⟨rfl, rfl⟩
          go_wp2_with fail
          refine (H1.out _).mono ?_
          rintro e w1 ⟨rfl, rfl⟩
          go_wp2_with fail
          refine HO.out.mono ?_
          rintro e w1 ⟨rfl, rfl⟩
          cases ok
          · go_wp2
            go_ret
            exact ⟨by rw [← HRES.out]; rfl, rfl⟩
          · go_wp2
            go_ret
            exact ⟨by rw [← HRES.out]; rfl, rfl⟩
    · have d0 : decide ((f.size : Int) < (m : Int)) = false := decide_eq_false h1
      go_enter Tryd.func34, Tryd.ntmps34
      go_wp2
      go_loop [1] (fun v => v = .string f) (fun _ => 0)
      case atStart => rfl
      case round =>
        subst hrel
        go_wp2_with fail
        refine (H2.out _).mono ?_
        rintro e w1 ⟨rfl, rfl⟩
        skip
        go_wp2
        go_loop [1] (fun v => v = .string f) (fun _ => 0)
        case atStart => rfl
        case round =>
          subst hrel
          go_wp2_with fail
          refine (H2.out _).mono ?_
          rintro e w1 ⟨rfl, rfl⟩
          skip
          go_wp2_with fail
          refine HO.out.mono ?_
          rintro e w1 ⟨rfl, rfl⟩
          cases ok
          · go_wp2
            go_ret
            exact ⟨by rw [← HRES.out]; rfl, rfl⟩
          · go_wp2
            go_ret
            exact ⟨by rw [← HRES.out]; rfl, rfl⟩
  · by_cases h1 : (s.size : Int) < (m : Int)
    · have HF : Hid (f = padL (m - s.size) s) := Lib.hid (by rw [HD.out]; rfl)
      clear HD
      skip

      go_enter Tryd.func34, Tryd.ntmps34
      go_wp2
      have HST := Lib.hid (fun j => padL_step j s)
      have HSZ := Lib.hid (fun j => padL_size j s)
      have HZ := Lib.hid (padL_zero s)
      go_loop [1] (fun v => ∃ j : Nat, (j ≤ m - s.size) ∧ v = .string (padL j s)) (fun v => m - sizeB v)
      case atStart => exact ⟨0, Nat.zero_le _, by rw [HZ.out]⟩
      case round =>
        obtain ⟨j, hj, rfl⟩ := hrel
        have hst := HST.out j
        have hsz := HSZ.out j
        generalize ht0 : padL j s = t at hst hsz ⊢
        have HT0 := Lib.hid ht0
        clear ht0
        have HS1 := Lib.hid hst
        have HS2 := Lib.hid hsz
        by_cases hlt : (t.size : Int) < (m : Int)
        · have d0 : decide ((t.size : Int) < (m : Int)) = true := decide_eq_true hlt
          have d1 : j + 1 ≤ m - s.size := by omega
          have d2 : t.size < m := by omega
          clear hst hsz
          go_wp2_with fail
          refine (H2.out _).mono ?_
          rintro e w1 ⟨rfl, rfl⟩
          go_wp2_with fail
          refine (H1.out _).mono ?_
          rintro e w1 ⟨rfl, rfl⟩
          go_wp2
          go_round
          case rel => exact ⟨j + 1, d1, by rw [← HS1.out]⟩
          case measure => simp only [sizeB]; rw [HS1.out, HSZ.out]; have := HS2.out; omega
        · have d0 : decide ((t.size : Int) < (m : Int)) = false := decide_eq_false hlt
          have hjm : j = m - s.size := by omega
          subst hjm
          clear hst hsz
          obtain rfl : t = f := by rw [HF.out, HT0.out]
          go_wp2_with fail
          refine (H2.out _).mono ?_
          rintro e w1 ⟨rfl, rfl⟩
          go_wp2
          go_loop [1] (fun v => v = .string t) (fun _ => 0)
          case atStart => rfl
          case round =>
            subst hrel
            go_wp2_with fail
            refine (H2.out _).mono ?_
            rintro e w1 ⟨rfl, rfl⟩
            go_wp2_with fail
            refine HO.out.mono ?_
            rintro e w1 ⟨rfl, rfl⟩
            cases ok
            · go_wp2
              go_ret
              exact ⟨by rw [← HRES.out]; rfl, rfl⟩
            · go_wp2
              go_ret
              exact ⟨by rw [← HRES.out]; rfl, rfl⟩
    · have hf : f = s := by rw [HD.out]; simp; rw [show m - s.size = 0 by omega]; exact padL_zero s
      subst hf
      clear HD
      have d0 : decide ((f.size : Int) < (m : Int)) = false := decide_eq_false h1

      go_enter Tryd.func34, Tryd.ntmps34
      go_wp2
      go_loop [1] (fun v => v = .string f) (fun _ => 0)
      case atStart => rfl
      case round =>
        subst hrel
        go_wp2_with fail
        refine (H2.out _).mono ?_
        rintro e w1 ⟨rfl, rfl⟩
        skip
        go_wp2
        go_loop [1] (fun v => v = .string f) (fun _ => 0)
        case atStart => rfl
        case round =>
          subst hrel
          go_wp2_with fail
          refine (H2.out _).mono ?_
          rintro e w1 ⟨rfl, rfl⟩
          skip
          go_wp2_with fail
          refine HO.out.mono ?_
          rintro e w1 ⟨rfl, rfl⟩
          cases ok
          · go_wp2
            go_ret
            exact ⟨by rw [← HRES.out]; rfl, rfl⟩
          · go_wp2
            go_ret
            exact ⟨by rw [← HRES.out]; rfl, rfl⟩
  · by_cases h1 : (s.size : Int) < (m : Int)
    · have HF : Hid (f = padR (m - s.size) s) := Lib.hid (by rw [HD.out]; rfl)
      clear HD
      have d0 : decide ((s.size : Int) < (m : Int)) = true := decide_eq_true h1

      go_enter Tryd.func34, Tryd.ntmps34
      go_wp2
      go_loop [1] (fun v => v = .string s) (fun _ => 0)
      case atStart => rfl
      case round =>
        subst hrel
        go_wp2_with fail
        refine (H2.out _).mono ?_
        rintro e w1 ⟨rfl, rfl⟩
        go_wp2_with fail
        refine (H1.out _).mono ?_
        rintro e w1 ⟨rfl, rfl⟩
        clear d0
        go_wp2
        have HST := Lib.hid (fun j => padR_step j s)
        have HSZ := Lib.hid (fun j => padR_size j s)
        have HZ := Lib.hid (padR_zero s)
        go_loop [1] (fun v => ∃ j : Nat, (j ≤ m - s.size) ∧ v = .string (padR j s)) (fun v => m - sizeB v)
        case atStart => exact ⟨0, Nat.zero_le _, by rw [HZ.out]⟩
        case round =>
          obtain ⟨j, hj, rfl⟩ := hrel
          have hst := HST.out j
          have hsz := HSZ.out j
          generalize ht0 : padR j s = t at hst hsz ⊢
          have HT0 := Lib.hid ht0
          clear ht0
          have HS1 := Lib.hid hst
          have HS2 := Lib.hid hsz
          by_cases hlt : (t.size : Int) < (m : Int)
          · have d0 : decide ((t.size : Int) < (m : Int)) = true := decide_eq_true hlt
            have d1 : j + 1 ≤ m - s.size := by omega
            have d2 : t.size < m := by omega
            clear hst hsz
            go_wp2_with fail
            refine (H2.out _).mono ?_
            rintro e w1 ⟨rfl, rfl⟩
            go_wp2_with fail
            refine (H1.out _).mono ?_
            rintro e w1 ⟨rfl, rfl⟩
            go_wp2
            go_round
            case rel => exact ⟨j + 1, d1, by rw [← HS1.out]⟩
            case measure => simp only [sizeB]; rw [HS1.out, HSZ.out]; have := HS2.out; omega
          · have d0 : decide ((t.size : Int) < (m : Int)) = false := decide_eq_false hlt
            have hjm : j = m - s.size := by omega
            subst hjm
            clear hst hsz
            obtain rfl : t = f := by rw [HF.out, HT0.out]
            go_wp2_with fail
            refine (H2.out _).mono ?_
            rintro e w1 ⟨rfl, rfl⟩
            go_wp2_with fail
            refine HO.out.mono ?_
            rintro e w1 ⟨rfl, rfl⟩
            cases ok
            · go_wp2
              go_ret
              exact ⟨by rw [← HRES.out]; rfl, rfl⟩
            · go_wp2
              go_ret
              exact ⟨by rw [← HRES.out]; rfl, rfl⟩
    · have hf : f = s := by rw [HD.out]; simp; rw [show m - s.size = 0 by omega]; exact padR_zero s
      subst hf
      clear HD
      have d0 : decide ((f.size : Int) < (m : Int)) = false := decide_eq_false h1

      go_enter Tryd.func34, Tryd.ntmps34
      go_wp2
      go_loop [1] (fun v => v = .string f) (fun _ => 0)
      case atStart => rfl
      case round =>
        subst hrel
        go_wp2_with fail
        refine (H2.out _).mono ?_
        rintro e w1 ⟨rfl, rfl⟩
        skip
        go_wp2
        go_loop [1] (fun v => v = .string f) (fun _ => 0)
        case atStart => rfl
        case round =>
          subst hrel
          go_wp2_with fail
          refine (H2.out _).mono ?_
          rintro e w1 ⟨rfl, rfl⟩
          skip
          go_wp2_with fail
          refine HO.out.mono ?_
          rintro e w1 ⟨rfl, rfl⟩
          cases ok
          · go_wp2
            go_ret
            exact ⟨by rw [← HRES.out]; rfl, rfl⟩
          · go_wp2
            go_ret
            exact ⟨by rw [← HRES.out]; rfl, rfl⟩
  · have hf : f = s := by rw [HD.out]; rfl
    subst hf
    clear HD
    by_cases h1 : (f.size : Int) < (m : Int)
    · have d0 : decide ((f.size : Int) < (m : Int)) = true := decide_eq_true h1
      go_enter Tryd.func34, Tryd.ntmps34
      go_wp2
      go_loop [1] (fun v => v = .string f) (fun _ => 0)
      case atStart => rfl
      case round =>
        subst hrel
        go_wp2_with fail
        refine (H2.out _).mono ?_
        rintro e w1 ⟨rfl, rfl⟩
        go_wp2_with fail
        refine (H1.out _).mono ?_
        rintro e w1 ⟨rfl, rfl⟩
        go_wp2
        go_loop [1] (fun v => v = .string f) (fun _ => 0)
        case atStart => rfl
        case round =>
          subst hrel
          go_wp2_with fail
          refine (H2.out _).mono ?_
          rintro e w1 ⟨rfl, rfl⟩
          go_wp2_with fail
          refine (H1.out _).mono ?_
          rintro e w1 ⟨rfl, rfl⟩
          go_wp2_with fail
          refine HO.out.mono ?_
          rintro e w1 ⟨rfl, rfl⟩
          cases ok
          · go_wp2
            go_ret
            exact ⟨by rw [← HRES.out]; rfl, rfl⟩
          · go_wp2
            go_ret
            exact ⟨by rw [← HRES.out]; rfl, rfl⟩
    · have d0 : decide ((f.size : Int) < (m : Int)) = false := decide_eq_false h1
      go_enter Tryd.func34, Tryd.ntmps34
      go_wp2
      go_loop [1] (fun v => v = .string f) (fun _ => 0)
      case atStart => rfl
      case round =>
        subst hrel
        go_wp2_with fail
        refine (H2.out _).mono ?_
        rintro e w1 ⟨rfl, rfl⟩
        skip
        go_wp2
        go_loop [1] (fun v => v = .string f) (fun _ => 0)
        case atStart => rfl
        case round =>
          subst hrel
          go_wp2_with fail
          refine (H2.out _).mono ?_
          rintro e w1 ⟨rfl, rfl⟩
          skip
          go_wp2_with fail
          refine HO.out.mono ?_
          rintro e w1 ⟨rfl, rfl⟩
          cases ok
          · go_wp2
            go_ret
            exact ⟨by rw [← HRES.out]; rfl, rfl⟩
          · go_wp2
            go_ret
            exact ⟨by rw [← HRES.out]; rfl, rfl⟩
  · have hf : f = s := by rw [HD.out]; rfl
    subst hf
    clear HD
    by_cases h1 : (f.size : Int) < (m : Int)
    · have d0 : decide ((f.size : Int) < (m : Int)) = true := decide_eq_true h1
      go_enter Tryd.func34, Tryd.ntmps34
      go_wp2
      go_loop [1] (fun v => v = .string f) (fun _ => 0)
      case atStart => rfl
      case round =>
        subst hrel
        go_wp2_with fail
        refine (H2.out _).mono ?_
        rintro e w1 ⟨rfl, rfl⟩
        go_wp2_with fail
        refine (H1.out _).mono ?_
        rintro e w1 ⟨rfl, rfl⟩
        go_wp2
        go_loop [1] (fun v => v = .string f) (fun _ => 0)
        case atStart => rfl
        case round =>
          subst hrel
          go_wp2_with fail
          refine (H2.out _).mono ?_
          rintro e w1 ⟨rfl, rfl⟩
          go_wp2_with fail
          refine (H1.out _).mono ?_
          rintro e w1 ⟨rfl, rfl⟩
          go_wp2_with fail
          refine HO.out.mono ?_
          rintro e w1 ⟨rfl, rfl⟩
          cases ok
          · go_wp2
            go_ret
            exact ⟨by rw [← HRES.out]; rfl, rfl⟩
          · go_wp2
            go_ret
            exact ⟨by rw [← HRES.out]; rfl, rfl⟩
    · have d0 : decide ((f.size : Int) < (m : Int)) = false := decide_eq_false h1
      go_enter Tryd.func34, Tryd.ntmps34
      go_wp2
      go_loop [1] (fun v => v = .string f) (fun _ => 0)
      case atStart => rfl
      case round =>
        subst hrel
        go_wp2_with fail
        refine (H2.out _).mono ?_
        rintro e w1 ⟨rfl, rfl⟩
        skip
        go_wp2
        go_loop [1] (fun v => v = .string f) (fun _ => 0)
        case atStart => rfl
        case round =>
          subst hrel
          go_wp2_with fail
          refine (H2.out _).mono ?_
          rintro e w1 ⟨rfl, rfl⟩
          skip
          go_wp2_with fail
          refine HO.out.mono ?_
          rintro e w1 ⟨rfl, rfl⟩
          cases ok
          · go_wp2
            go_ret
            exact ⟨by rw [← HRES.out]; rfl, rfl⟩
          · go_wp2
            go_ret
            exact ⟨by rw [← HRES.out]; rfl, rfl⟩
  · have hf : f = s := by rw [HD.out]; rfl
    subst hf
    clear HD
    by_cases h1 : (f.size : Int) < (m : Int)
    · have d0 : decide ((f.size : Int) < (m : Int)) = true := decide_eq_true h1
      go_enter Tryd.func34, Tryd.ntmps34
      go_wp2
      go_loop [1] (fun v => v = .string f) (fun _ => 0)
      case atStart => rfl
      case round =>
        subst hrel
        go_wp2_with fail
        refine (H2.out _).mono ?_
        rintro e w1 ⟨rfl, rfl⟩
        go_wp2_with fail
        refine (H1.out _).mono ?_
        rintro e w1 ⟨rfl, rfl⟩
        go_wp2
        go_loop [1] (fun v => v = .string f) (fun _ => 0)
        case atStart => rfl
        case round =>
          subst hrel
          go_wp2_with fail
          refine (H2.out _).mono ?_
          rintro e w1 ⟨rfl, rfl⟩
          go_wp2_with fail
          refine (H1.out _).mono ?_
          rintro e w1 ⟨rfl, rfl⟩
          go_wp2_with fail
          refine HO.out.mono ?_
          rintro e w1 ⟨rfl, rfl⟩
          cases ok
          · go_wp2
            go_ret
            exact ⟨by rw [← HRES.out]; rfl, rfl⟩
          · go_wp2
            go_ret
            exact ⟨by rw [← HRES.out]; rfl, rfl⟩
    · have d0 : decide ((f.size : Int) < (m : Int)) = false := decide_eq_false h1
      go_enter Tryd.func34, Tryd.ntmps34
      go_wp2
      go_loop [1] (fun v => v = .string f) (fun _ => 0)
      case atStart => rfl
      case round =>
        subst hrel
        go_wp2_with fail
        refine (H2.out _).mono ?_
        rintro e w1 ⟨rfl, rfl⟩
        skip
        go_wp2
        go_loop [1] (fun v => v = .string f) (fun _ => 0)
        case atStart => rfl
        case round =>
          subst hrel
          go_wp2_with fail
          refine (H2.out _).mono ?_
          rintro e w1 ⟨rfl, rfl⟩
          skip
          go_wp2_with fail
          refine HO.out.mono ?_
          rintro e w1 ⟨rfl, rfl⟩
          cases ok
          · go_wp2
            go_ret
            exact ⟨by rw [← HRES.out]; rfl, rfl⟩
          · go_wp2
            go_ret
            exact ⟨by rw [← HRES.out]; rfl, rfl⟩

set_option maxRecDepth 100000 in
set_option maxHeartbeats 1600000 in
theorem implFieldFit_any (no : Int) (s : ByteArray) (w : World) (hs : s.size ≤ 1048576) :
    Calls Tryd.prog 16 #[.int .i64 no, .string s] w fun e w' => e = .returned (.string (fitRes no s)) ∧ Below w.heap.size w w' := by
  by_cases hk0 : fKind no = 0
  · have HR := Lib.hid (rowV_zero hk0)
    have HK : Hid (okBy 0 0 s = false) := Lib.hid (by simp [okBy])
    have HZ : Hid (fitRes no s = ⟨#[]⟩) := Lib.hid (by simp [fitRes, fOk_no hk0])
    have HS : Hid (s.size ≤ maxLen) := Lib.hid (by unfold maxLen; omega)
    clear hk0
    rw [HZ.out]
    go_enter Tryd.func16, Tryd.ntmps16
    go_wp2_with fail
    refine (fieldAt_any no _).mono ?_
    rintro e w1 ⟨he, hb⟩
    rw [HR.out] at he
    subst he
    go_wp2_with fail
    refine (allows_any 0 0 0 _ _ s _ HS.out (Or.inl rfl)).mono ?_
    rw [HK.out]
    rintro e w2 ⟨rfl, hb2⟩
    go_wp2
    go_ret
    exact ⟨rfl, hb.trans (Below.trans ((below_new (Below.refl _ _) (Nat.le_refl _)).mono hb.size) (hb2.mono (by have := hb.size; simp; omega)))⟩
  have HR := Lib.hid (rowV_yes hk0)
  have hsz := (kind_size no).2.2.2.2
  have hnn := fSize_nn no
  have hk := kind_cases no
  have HRES : Hid (fitRes no s = if fOk no (fitS (fKind no) (fSize no).toNat s) = true then fitS (fKind no) (fSize no).toNat s else ⟨#[]⟩) := Lib.hid rfl
  have HT := Lib.hid (fitS_size (fKind no) (fSize no).toNat s (by omega) hs)
  have HO : Hid (okBy (fKind no) (fSize no) (fitS (fKind no) (fSize no).toNat s) = fOk no (fitS (fKind no) (fSize no).toNat s)) := Lib.hid rfl
  have HD : Hid (fitS (fKind no) (fSize no).toNat s = if fKind no = 1 then padL ((fSize no).toNat - s.size) s else if fKind no = 2 then padR ((fSize no).toNat - s.size) s else s) := Lib.hid rfl
  generalize fitS (fKind no) (fSize no).toNat s = f at HRES HT HO HD
  generalize fKind no = kd at HR HO HD hk hk0
  generalize fSize no = sz at HR HO HD hsz hnn
  obtain ⟨m, rfl⟩ : ∃ m : Nat, sz = m := ⟨sz.toNat, by omega⟩
  rw [Int.toNat_natCast] at HD
  have HQ : Hid (f.size ≤ maxLen) := Lib.hid (by have := HT.out; unfold maxLen; omega)
  generalize fOk no f = ok at HRES HO
  rw [HRES.out]
  generalize hres : (if ok = true then f else ⟨#[]⟩ : ByteArray) = r
  have HX := Lib.hid hres
  clear hres HRES hnn HT
  generalize putId kd = pi at HR
  generalize getId kd = gi at HR
  rcases hk with rfl | rfl | rfl | rfl | rfl | rfl
  · exact absurd rfl hk0
  · obtain ⟨n, hn⟩ : ∃ n : Nat, n = m - s.size := ⟨_, rfl⟩
    have HF : Hid (f = padL n s) := Lib.hid (by rw [HD.out, hn]; rfl)
    have hn60 : n ≤ 60 := by omega
    have HMX : Hid (max ((m : Int) - (s.size : Int)) 0 = (n : Int)) := Lib.hid (by omega)
    have HJ : Hid (∀ t : ByteArray, t = ⟨(List.replicate n 48).toArray⟩ → t ++ s = f) := Lib.hid (by
      rintro t rfl
      rw [HF.out]
      unfold padL
      apply ByteArray.ext; simp)
    have hone : (⟨#[48]⟩ : ByteArray).size = 1 := rfl
    have HREP := Lib.hid (fun W => Tryd.strings_Repeat ⟨#[48]⟩ n W (by omega) (by rw [hone]; omega))
    have HLIST : Hid ((Lib.repeatL (⟨#[48]⟩ : ByteArray).data.toList n) = List.replicate n 48) := Lib.hid (rep_one n)
    clear hn HD hone
    clear hk0
    have q0 : (0 : Int) ≤ (s.size : Int) := by omega
    skip
    go_enter Tryd.func16, Tryd.ntmps16
    go_wp2_with fail
    refine (fieldAt_any no _).mono ?_
    rintro e w1 ⟨he, hb⟩
    rw [HR.out] at he
    subst he
    have HB1 := Lib.hid hb
    have hz1 := hb.size
    clear hb
    go_wp2_with fail
    rw [HMX.out]
    refine (HREP.out _).mono ?_
    rw [HLIST.out]
    generalize ht : (⟨(List.replicate n 48).toArray⟩ : ByteArray) = t
    rintro e w2 ⟨rfl, hb2⟩
    have HC := Lib.hid (HJ.out t ht.symm)
    have hts : t.size ≤ 60 := by rw [← ht]; show (List.replicate n 48).length ≤ 60; simp; omega
    have hbx := (bk.new w1 56 [.int .i64 no, .int .i64 m, .int .i64 1, .func (.func pi) #[] #[], .func (.func gi) #[] #[]])
    have hby := hbx.below hb2 hbx.lt
    have c0 := hby.cell 0
    have c1 := hby.cell 1
    have c2 := hby.cell 2
    have c3 := hby.cell 3
    have c4 := hby.cell 4
    simp only [List.getElem?_cons_zero, List.getElem?_cons_succ] at c0 c1 c2 c3 c4
    have hB2 : Below w.heap.size w w2 := HB1.out.trans (Below.trans ((below_new (Below.refl _ _) (Nat.le_refl _)).mono hz1) (hb2.mono (by simp; omega)))
    have hzb := hB2.size
    have HBB := Lib.hid hB2
    clear hbx hby hb2 hB2 ht
    go_wp2_with fail
    rw [HC.out]
    refine (allows_any no (m : Int) 1 _ _ f _ HQ.out (by omega)).mono ?_
    rw [HO.out]
    rintro e w3 ⟨rfl, hb3⟩
    cases ok
    · go_wp2
      go_ret
      exact ⟨by rw [← HX.out]; rfl, HBB.out.trans (hb3.mono hzb)⟩
    · go_wp2
      go_ret
      exact ⟨by rw [← HX.out]; rfl, HBB.out.trans (hb3.mono hzb)⟩
  · obtain ⟨n, hn⟩ : ∃ n : Nat, n = m - s.size := ⟨_, rfl⟩
    have HF : Hid (f = padR n s) := Lib.hid (by rw [HD.out, hn]; rfl)
    have hn60 : n ≤ 60 := by omega
    have HMX : Hid (max ((m : Int) - (s.size : Int)) 0 = (n : Int)) := Lib.hid (by omega)
    have HJ : Hid (∀ t : ByteArray, t = ⟨(List.replicate n 32).toArray⟩ → s ++ t = f) := Lib.hid (by
      rintro t rfl
      rw [HF.out]
      unfold padR
      apply ByteArray.ext; simp)
    have hone : (⟨#[32]⟩ : ByteArray).size = 1 := rfl
    have HREP := Lib.hid (fun W => Tryd.strings_Repeat ⟨#[32]⟩ n W (by omega) (by rw [hone]; omega))
    have HLIST : Hid ((Lib.repeatL (⟨#[32]⟩ : ByteArray).data.toList n) = List.replicate n 32) := Lib.hid (rep_32 n)
    clear hn HD hone
    clear hk0
    have q0 : (0 : Int) ≤ (s.size : Int) := by omega
    skip
    go_enter Tryd.func16, Tryd.ntmps16
    go_wp2_with fail
    refine (fieldAt_any no _).mono ?_
    rintro e w1 ⟨he, hb⟩
    rw [HR.out] at he
    subst he
    have HB1 := Lib.hid hb
    have hz1 := hb.size
    clear hb
    go_wp2_with fail
    rw [HMX.out]
    refine (HREP.out _).mono ?_
    rw [HLIST.out]
    generalize ht : (⟨(List.replicate n 32).toArray⟩ : ByteArray) = t
    rintro e w2 ⟨rfl, hb2⟩
    have HC := Lib.hid (HJ.out t ht.symm)
    have hts : t.size ≤ 60 := by rw [← ht]; show (List.replicate n 32).length ≤ 60; simp; omega
    have hbx := (bk.new w1 56 [.int .i64 no, .int .i64 m, .int .i64 2, .func (.func pi) #[] #[], .func (.func gi) #[] #[]])
    have hby := hbx.below hb2 hbx.lt
    have c0 := hby.cell 0
    have c1 := hby.cell 1
    have c2 := hby.cell 2
    have c3 := hby.cell 3
    have c4 := hby.cell 4
    simp only [List.getElem?_cons_zero, List.getElem?_cons_succ] at c0 c1 c2 c3 c4
    have hB2 : Below w.heap.size w w2 := HB1.out.trans (Below.trans ((below_new (Below.refl _ _) (Nat.le_refl _)).mono hz1) (hb2.mono (by simp; omega)))
    have hzb := hB2.size
    have HBB := Lib.hid hB2
    clear hbx hby hb2 hB2 ht
    go_wp2_with fail
    rw [HC.out]
    refine (allows_any no (m : Int) 2 _ _ f _ HQ.out (by omega)).mono ?_
    rw [HO.out]
    rintro e w3 ⟨rfl, hb3⟩
    cases ok
    · go_wp2
      go_ret
      exact ⟨by rw [← HX.out]; rfl, HBB.out.trans (hb3.mono hzb)⟩
    · go_wp2
      go_ret
      exact ⟨by rw [← HX.out]; rfl, HBB.out.trans (hb3.mono hzb)⟩
  · have hf : f = s := by rw [HD.out]; rfl
    subst hf
    clear HD
    clear hk0
    have q0 : (0 : Int) ≤ (f.size : Int) := by omega
    skip
    go_enter Tryd.func16, Tryd.ntmps16
    go_wp2_with fail
    refine (fieldAt_any no _).mono ?_
    rintro e w1 ⟨he, hb⟩
    rw [HR.out] at he
    subst he
    have HB1 := Lib.hid hb
    have hz1 := hb.size
    clear hb
    have HBB := Lib.hid (below_new (o := .cells [.int .i64 no, .int .i64 m, .int .i64 3, .func (.func pi) #[] #[], .func (.func gi) #[] #[]].toArray 56) HB1.out hz1)
    have hzb := HBB.out.size
    go_wp2_with fail
    refine (allows_any no (m : Int) 3 _ _ f _ HQ.out (by omega)).mono ?_
    rw [HO.out]
    rintro e w3 ⟨rfl, hb3⟩
    cases ok
    · go_wp2
      go_ret
      exact ⟨by rw [← HX.out]; rfl, HBB.out.trans (hb3.mono hzb)⟩
    · go_wp2
      go_ret
      exact ⟨by rw [← HX.out]; rfl, HBB.out.trans (hb3.mono hzb)⟩
  · have hf : f = s := by rw [HD.out]; rfl
    subst hf
    clear HD
    clear hk0
    have q0 : (0 : Int) ≤ (f.size : Int) := by omega
    skip
    go_enter Tryd.func16, Tryd.ntmps16
    go_wp2_with fail
    refine (fieldAt_any no _).mono ?_
    rintro e w1 ⟨he, hb⟩
    rw [HR.out] at he
    subst he
    have HB1 := Lib.hid hb
    have hz1 := hb.size
    clear hb
    have HBB := Lib.hid (below_new (o := .cells [.int .i64 no, .int .i64 m, .int .i64 4, .func (.func pi) #[] #[], .func (.func gi) #[] #[]].toArray 56) HB1.out hz1)
    have hzb := HBB.out.size
    go_wp2_with fail
    refine (allows_any no (m : Int) 4 _ _ f _ HQ.out (by omega)).mono ?_
    rw [HO.out]
    rintro e w3 ⟨rfl, hb3⟩
    cases ok
    · go_wp2
      go_ret
      exact ⟨by rw [← HX.out]; rfl, HBB.out.trans (hb3.mono hzb)⟩
    · go_wp2
      go_ret
      exact ⟨by rw [← HX.out]; rfl, HBB.out.trans (hb3.mono hzb)⟩
  · have hf : f = s := by rw [HD.out]; rfl
    subst hf
    clear HD
    clear hk0
    have q0 : (0 : Int) ≤ (f.size : Int) := by omega
    skip
    go_enter Tryd.func16, Tryd.ntmps16
    go_wp2_with fail
    refine (fieldAt_any no _).mono ?_
    rintro e w1 ⟨he, hb⟩
    rw [HR.out] at he
    subst he
    have HB1 := Lib.hid hb
    have hz1 := hb.size
    clear hb
    have HBB := Lib.hid (below_new (o := .cells [.int .i64 no, .int .i64 m, .int .i64 5, .func (.func pi) #[] #[], .func (.func gi) #[] #[]].toArray 56) HB1.out hz1)
    have hzb := HBB.out.size
    go_wp2_with fail
    refine (allows_any no (m : Int) 5 _ _ f _ HQ.out (by omega)).mono ?_
    rw [HO.out]
    rintro e w3 ⟨rfl, hb3⟩
    cases ok
    · go_wp2
      go_ret
      exact ⟨by rw [← HX.out]; rfl, HBB.out.trans (hb3.mono hzb)⟩
    · go_wp2
      go_ret
      exact ⟨by rw [← HX.out]; rfl, HBB.out.trans (hb3.mono hzb)⟩
end Go.Proofs.YtfbdcjlmbflehaaDoor
