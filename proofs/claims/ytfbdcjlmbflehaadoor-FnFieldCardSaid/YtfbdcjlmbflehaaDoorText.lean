/- The reference's draws of a field and of its content: the content fits the field; no conditions. -/
import Derived.Test.YtfbdcjlmbflehaaDoorDrawS
import Derived.Test.YtfbdcjlmbflehaaDoorFieldOk
import Derived.Test.YtfbdcjlmbflehaaDoorFieldNos
import Derived.Test.YtfbdcjlmbflehaaDoorGetPure
set_option linter.unusedVariables false
set_option linter.unusedSimpArgs false
namespace Go.Proofs.YtfbdcjlmbflehaaDoor
open Go.ChangeShapes Go.WideShapes Go.ChangeAt Go.RowKit

def sizeB' : Value → Nat | .string s => s.size | _ => 0
def abTexts : List (List UInt8) := [[97], [98], [55], [32], [126]]
set_option maxRecDepth 100000 in
theorem ab_one {x : List UInt8} (h : x ∈ abTexts) : x.length = 1 ∧ x.all prn = true := by
  simp only [abTexts, List.mem_cons, List.not_mem_nil, or_false] at h
  rcases h with rfl | rfl | rfl | rfl | rfl <;> decide
set_option maxRecDepth 100000 in
theorem ab_at (w : World) (T : TypeId) : textsAt (w.alloc (.cells #[.string ⟨#[97]⟩, .string ⟨#[98]⟩, .string ⟨#[55]⟩, .string ⟨#[32]⟩, .string ⟨#[126]⟩] T)) w.heap.size abTexts := by
  intro j x hx
  have hj : j < 5 := by have := (List.getElem?_eq_some_iff.1 hx).1; simpa [abTexts] using this
  match j, hj, hx with
  | 0, _, hx => cases hx; simp
  | 1, _, hx => cases hx; simp
  | 2, _, hx => cases hx; simp
  | 3, _, hx => cases hx; simp
  | 4, _, hx => cases hx; simp
/-- is a byte right for a kind -/
def fitC (kd : Int) (c : UInt8) : Bool := if kd = 1 ∨ kd = 3 then isDig c else prn c
set_option maxRecDepth 100000 in
theorem fit_ok {kd sz : Int} {n : Nat} {t : List UInt8} (hk : kd = 1 ∨ kd = 2 ∨ kd = 3 ∨ kd = 4 ∨ kd = 5) (hn : 0 < n) (hs : if fWidth kd > 0 then (n : Int) ≤ sz else (n : Int) = sz) (ht : t.length = n) (hc : t.all (fitC kd) = true) : okBy kd sz ⟨t.toArray⟩ = true := by
  have hz : (⟨t.toArray⟩ : ByteArray).size = n := by rw [← ht]; rfl
  have hl : (⟨t.toArray⟩ : ByteArray).data.toList = t := rfl
  rcases hk with rfl | rfl | rfl | rfl | rfl
  all_goals simp only [fitC, fWidth, okBy, prnS, digs, hz, hl] at *
  all_goals simp at hs hc ⊢
  all_goals first | exact ⟨by omega, by omega, hc⟩ | exact ⟨by omega, hc⟩ | exact ⟨⟨by omega, by omega⟩, hc⟩

set_option maxRecDepth 100000 in
set_option maxHeartbeats 4000000 in
/-- a content that fits -/
theorem text_any (b : Nat) (sv : Value) (i : Nat) (h no : Int) (w : World) (hc : curAt w b sv i h) (hi : i ≤ lenOf sv) (hr : readable w b sv) (hk : fKind no ≠ 0) :
    Calls Tryd.prog 39 #[.pointer (some ⟨b, 0, none⟩), .int .i64 no] w fun e w' => ∃ (t : List UInt8) (i' : Nat) (h' : Int), e = .returned (.string ⟨t.toArray⟩) ∧ fOk no ⟨t.toArray⟩ = true ∧ i' ≤ lenOf sv ∧ curAt w' b sv i' h' ∧ w.grownBy w' (some b) := by
  have hcv := fun (W : World) (c : Int) (T : TypeId) => conv_one W c T
  have H1 := Lib.hid (specFieldKind_any no)
  have H2 := Lib.hid (specFieldSize_any no)
  have hz0 := fSize_pos hk
  have hz1 := (kind_size no).2.2.2.2
  have hkc := kind_cases no
  have HF : Hid (∀ t : List UInt8, okBy (fKind no) (fSize no) ⟨t.toArray⟩ = true → fOk no ⟨t.toArray⟩ = true) := Lib.hid (fun t ht => ht)
  generalize fKind no = kd at H1 hk hkc HF
  generalize fSize no = sz at H2 hz0 hz1 HF
  have hkd : kd = 1 ∨ kd = 2 ∨ kd = 3 ∨ kd = 4 ∨ kd = 5 := by omega
  have hblt := lt_of_cur hc
  clear hkc hk
  have HC := Lib.hid hkd
  clear hkd
  have hb0 : Hid (∀ w' : World, w.grownBy w' (some b) → readable w' b sv) := Lib.hid fun w' hg => hr.grownAt hg (by omega)
  by_cases hw : fWidth kd > 0
  · have HW := Lib.hid hw
    go_enter Tryd.func39, Tryd.ntmps39
    go_wp2_with fail
    refine (H2.out _).mono ?_
    rintro e w1 ⟨rfl, rfl⟩
    go_wp2_with fail
    refine (H1.out _).mono ?_
    rintro e w1 ⟨rfl, rfl⟩
    go_wp2_with fail
    refine (width_any _ _).mono ?_
    rintro e w1 ⟨rfl, rfl⟩
    generalize fWidth kd = wd at hw
    go_wp2_with fail
    refine (below_any b sv i h sz w hc hi hr (by omega) (by omega)).mono ?_
    rintro e w1 ⟨x, i1, h1, rfl, hx0, hx1, hi1, hc1, ho1⟩
    obtain ⟨n, hn⟩ : ∃ n : Nat, (1 : Int) + x = n := ⟨(1 + x).toNat, by omega⟩
    have HS : Hid (0 < n ∧ (if fWidth kd > 0 then (n : Int) ≤ sz else (n : Int) = sz)) := Lib.hid ⟨by omega, by rw [if_pos HW.out]; omega⟩
    have hg1 := ho1.grown
    have hn60 : n ≤ 60 := by omega
    clear hc hi hw
    go_wp2_with fail
    go_loopw [7] (fun tv wr => ∃ (t : List UInt8) (j : Nat) (hh : Int), tv = .string ⟨t.toArray⟩ ∧ t.length ≤ n ∧ t.all (fitC kd) = true ∧ j ≤ lenOf sv ∧ curAt wr b sv j hh ∧ w.grownBy wr (some b)) (fun tv _ => n - sizeB' tv)
    case atStart => exact ⟨[], i1, h1, rfl, by simp, rfl, hi1, hc1, hg1⟩
    case round =>
      obtain ⟨t, j, hh, rfl, htl, htc, hj, hcr, hgr⟩ := hrel
      have HT := Lib.hid htc
      have hlen : (⟨t.toArray⟩ : ByteArray).size = t.length := rfl
      clear htc
      by_cases hlt : t.length < n
      · by_cases hnum : kd = 1 ∨ kd = 3
        · have HN := Lib.hid hnum
          have hsel : (kd == 1) = true ∨ (kd == 1) = false ∧ (kd == 3) = true := by rcases hnum with rfl | rfl <;> simp
          clear hnum
          have hstep : Hid (∀ y : Int, 0 ≤ y → y ≤ 9 → (t ++ [UInt8.ofNat (48 + y).toNat]).all (fitC kd) = true) := Lib.hid fun y h0 h1 => by
            rw [List.all_append, HT.out]
            simp [fitC, HN.out, dig_of h0 h1]
          rcases hsel with hs1 | ⟨hs1, hs3⟩
          all_goals
            go_wp2_with fail
            refine (below_any b sv j hh 10 _ hcr hj (hb0.out _ hgr) (by decide) (by decide)).mono ?_
            rintro e w4 ⟨y, j4, h4, rfl, hy0, hy1, hj4, hc4, ho4⟩
            have hg4 := grown_trans hgr ho4.grown
            go_wp2
            go_roundw
            case rel => exact ⟨t ++ [UInt8.ofNat (48 + y).toNat], j4, h4, congrArg Value.string (str_snoc _ _), by simp; omega, hstep.out y hy0 (by omega), hj4, cur_alloc hc4 _, grown_alloc hg4 _⟩
            case measure => (show n - (_ ++ (⟨#[_]⟩ : ByteArray)).size < n - t.length; rw [str_snoc]; show n - (t ++ [_]).length < n - t.length; simp; omega)
        · have hs1 : (kd == 1) = false := by simp; omega
          have hs3 : (kd == 3) = false := by simp; omega
          have hstep : Hid (∀ x : List UInt8, x ∈ abTexts → (t ++ x).all (fitC kd) = true) := Lib.hid fun x hx => by
            have := (ab_one hx).2
            rw [List.all_append, HT.out]
            have e : fitC kd = prn := by funext c; unfold fitC; rw [if_neg hnum]
            rw [e, this]
            rfl
          go_wp2_with fail
          refine (pickStr_any b sv j hh _ 5 abTexts _ (cur_alloc hcr _) hj ((hb0.out _ hgr).alloc _) (by have := hgr.size; omega) (ab_at _ _) rfl (by decide) (by decide)).mono ?_
          rintro e w4 ⟨x, j4, h4, hx, rfl, hj4, hc4, ho4⟩
          have hg4 := grown_trans (grown_alloc hgr _) ho4.grown
          have hxl := (ab_one hx).1
          have hlx : (⟨x.toArray⟩ : ByteArray).size = x.length := rfl
          have HX := Lib.hid hx
          clear hx
          go_wp2
          go_roundw
          case rel => exact ⟨t ++ x, j4, h4, congrArg Value.string (str_app _ _), by simp; omega, hstep.out x HX.out, hj4, hc4, hg4⟩
          case measure => (show n - (_ ++ (⟨x.toArray⟩ : ByteArray)).size < n - t.length; rw [str_app]; show n - (t ++ x).length < n - t.length; simp; omega)
      · go_wp2
        go_ret
        exact ⟨t, j, hh, rfl, HF.out t (fit_ok HC.out HS.out.1 (by first | exact HS.out.2 | rw [if_neg (by omega)]) (by omega) HT.out), hj, hcr, hgr⟩
  · have hw' : fWidth kd = 0 := by
      have := HC.out
      unfold fWidth at hw ⊢
      split
      · simp [*] at hw
      · split
        · simp [*] at hw
        · rfl
    have HW := Lib.hid hw
    obtain ⟨n, hn⟩ : ∃ n : Nat, sz = n := ⟨sz.toNat, by omega⟩
    subst hn
    have HS : Hid (0 < n ∧ (if fWidth kd > 0 then (n : Int) ≤ (n : Int) else (n : Int) = (n : Int))) := Lib.hid ⟨by omega, by rw [if_neg HW.out]⟩
    have hn60 : n ≤ 60 := by omega
    obtain ⟨i1, hi1e⟩ : ∃ k, k = i := ⟨i, rfl⟩
    obtain ⟨h1, hh1e⟩ : ∃ k, k = h := ⟨h, rfl⟩
    subst hi1e
    subst hh1e
    have hc1 := hc
    have hi1 := hi
    have hg1 : w.grownBy w (some b) := grown_refl _ _
    clear hc hi hw
    go_enter Tryd.func39, Tryd.ntmps39
    go_wp2_with fail
    refine (H2.out _).mono ?_
    rintro e w1 ⟨rfl, rfl⟩
    go_wp2_with fail
    refine (H1.out _).mono ?_
    rintro e w1 ⟨rfl, rfl⟩
    go_wp2_with fail
    refine (width_any _ _).mono ?_
    rw [hw']
    rintro e w1 ⟨rfl, rfl⟩
    go_wp2_with fail
    go_loopw [7] (fun tv wr => ∃ (t : List UInt8) (j : Nat) (hh : Int), tv = .string ⟨t.toArray⟩ ∧ t.length ≤ n ∧ t.all (fitC kd) = true ∧ j ≤ lenOf sv ∧ curAt wr b sv j hh ∧ w.grownBy wr (some b)) (fun tv _ => n - sizeB' tv)
    case atStart => exact ⟨[], i1, h1, rfl, by simp, rfl, hi1, hc1, hg1⟩
    case round =>
      obtain ⟨t, j, hh, rfl, htl, htc, hj, hcr, hgr⟩ := hrel
      have HT := Lib.hid htc
      have hlen : (⟨t.toArray⟩ : ByteArray).size = t.length := rfl
      clear htc
      by_cases hlt : t.length < n
      · by_cases hnum : kd = 1 ∨ kd = 3
        · have HN := Lib.hid hnum
          have hsel : (kd == 1) = true ∨ (kd == 1) = false ∧ (kd == 3) = true := by rcases hnum with rfl | rfl <;> simp
          clear hnum
          have hstep : Hid (∀ y : Int, 0 ≤ y → y ≤ 9 → (t ++ [UInt8.ofNat (48 + y).toNat]).all (fitC kd) = true) := Lib.hid fun y h0 h1 => by
            rw [List.all_append, HT.out]
            simp [fitC, HN.out, dig_of h0 h1]
          rcases hsel with hs1 | ⟨hs1, hs3⟩
          all_goals
            go_wp2_with fail
            refine (below_any b sv j hh 10 _ hcr hj (hb0.out _ hgr) (by decide) (by decide)).mono ?_
            rintro e w4 ⟨y, j4, h4, rfl, hy0, hy1, hj4, hc4, ho4⟩
            have hg4 := grown_trans hgr ho4.grown
            go_wp2
            go_roundw
            case rel => exact ⟨t ++ [UInt8.ofNat (48 + y).toNat], j4, h4, congrArg Value.string (str_snoc _ _), by simp; omega, hstep.out y hy0 (by omega), hj4, cur_alloc hc4 _, grown_alloc hg4 _⟩
            case measure => (show n - (_ ++ (⟨#[_]⟩ : ByteArray)).size < n - t.length; rw [str_snoc]; show n - (t ++ [_]).length < n - t.length; simp; omega)
        · have hs1 : (kd == 1) = false := by simp; omega
          have hs3 : (kd == 3) = false := by simp; omega
          have hstep : Hid (∀ x : List UInt8, x ∈ abTexts → (t ++ x).all (fitC kd) = true) := Lib.hid fun x hx => by
            have := (ab_one hx).2
            rw [List.all_append, HT.out]
            have e : fitC kd = prn := by funext c; unfold fitC; rw [if_neg hnum]
            rw [e, this]
            rfl
          go_wp2_with fail
          refine (pickStr_any b sv j hh _ 5 abTexts _ (cur_alloc hcr _) hj ((hb0.out _ hgr).alloc _) (by have := hgr.size; omega) (ab_at _ _) rfl (by decide) (by decide)).mono ?_
          rintro e w4 ⟨x, j4, h4, hx, rfl, hj4, hc4, ho4⟩
          have hg4 := grown_trans (grown_alloc hgr _) ho4.grown
          have hxl := (ab_one hx).1
          have hlx : (⟨x.toArray⟩ : ByteArray).size = x.length := rfl
          have HX := Lib.hid hx
          clear hx
          go_wp2
          go_roundw
          case rel => exact ⟨t ++ x, j4, h4, congrArg Value.string (str_app _ _), by simp; omega, hstep.out x HX.out, hj4, hc4, hg4⟩
          case measure => (show n - (_ ++ (⟨x.toArray⟩ : ByteArray)).size < n - t.length; rw [str_app]; show n - (t ++ x).length < n - t.length; simp; omega)
      · go_wp2
        go_ret
        exact ⟨t, j, hh, rfl, HF.out t (fit_ok HC.out HS.out.1 (by first | exact HS.out.2 | rw [if_neg (by omega)]) (by omega) HT.out), hj, hcr, hgr⟩
end Go.Proofs.YtfbdcjlmbflehaaDoor
