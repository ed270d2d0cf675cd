/- GetField of the reference; no conditions. -/
import Derived.Test.YtiolebpoofkpmaaGreatDoorMrpGetImpl
set_option linter.unusedVariables false
namespace Go.Proofs.YtiolebpoofkpmaaGreatDoor
open Go.ChangeShapes Go.WideShapes Go.ChangeAt Go.RowKit

set_option maxRecDepth 100000 in
theorem rawOk_neg {kd : Int} {l : List Int} {a sz : Int} (h : a < 0) : rawOk kd l a sz = false := by
  unfold rawOk
  repeat' split
  · exact gOk_out (gIn_no (.inr (.inr (.inl h))))
  · exact inR_no (.inl h)
  all_goals rw [lenGot_neg h, Bool.false_and]
set_option maxRecDepth 100000 in
theorem getOk_neg {kd : Int} {l : List Int} {a sz : Int} (h : a < 0) : getOk kd l a sz = false := by unfold getOk; rw [rawOk_neg h, Bool.false_and]
set_option maxRecDepth 100000 in
theorem str_size (t : List UInt8) : (⟨t.toArray⟩ : ByteArray).size = t.length := rfl
set_option maxRecDepth 100000 in
theorem getOk1 {l : List Int} {a sz : Int} (hl : isBytes l) : getOk 1 l a sz = gOk l a sz := by
  unfold getOk rawOk rawTxt okBy
  simp only [if_true]
  cases h : gOk l a sz
  · rfl
  · have := gTxt_ok hl h
    rw [this.2, str_size, this.1]
    simp
set_option maxRecDepth 100000 in
theorem getOk2 {l : List Int} {a sz : Int} : getOk 2 l a sz = (inR l a sz && prnS ⟨(tPart l a sz).toArray⟩) := by
  unfold getOk rawOk rawTxt okBy
  simp only [show ((2 : Int) = 1) = False by simp, if_false, if_true]
  cases h : inR l a sz
  · rfl
  · have h1 := tPart_len h
    have h2 := inR_yes h
    rw [str_size, h1]
    have : decide (((sz.toNat : Nat) : Int) = sz) = true := by simp; omega
    rw [this, Bool.true_and]
set_option maxRecDepth 100000 in
theorem getOk3 {l : List Int} {a sz : Int} (hl : isBytes l) : getOk 3 l a sz = (lenGot l a 2 && (decide (1 ≤ lenVal l a 2) && decide (lenVal l a 2 ≤ sz)) && gOk l (lenEnd l a 2) (lenVal l a 2)) := by
  unfold getOk rawOk rawTxt okBy
  simp only [show ((3 : Int) = 1) = False by simp, show ((3 : Int) = 2) = False by simp, if_false, if_true]
  cases hg : lenGot l a 2
  · rfl
  cases h : gOk l (lenEnd l a 2) (lenVal l a 2)
  · simp
  · have h1 := gTxt_ok hl h
    have h2 := gIn_bd (gOk_in h).1
    rw [h1.2, str_size, h1.1]
    simp
    omega
set_option maxRecDepth 100000 in
theorem getOk45 {l : List Int} {a sz : Int} {kd d : Int} (hk : kd = 4 ∧ d = 2 ∨ kd = 5 ∧ d = 3) : getOk kd l a sz = (lenGot l a d && (decide (1 ≤ lenVal l a d) && decide (lenVal l a d ≤ sz)) && (inR l (lenEnd l a d) (lenVal l a d) && prnS ⟨(tPart l (lenEnd l a d) (lenVal l a d)).toArray⟩)) := by
  have key : ∀ (G I p : Bool) (V : Int) (n : Nat), 0 ≤ V → (I = true → n = V.toNat) → (G && I && ((decide (0 < n) && decide ((n : Int) ≤ sz)) && p)) = (G && (decide (1 ≤ V) && decide (V ≤ sz)) && (I && p)) := by
    intro G I p V n hV hI
    cases G
    · rfl
    cases I
    · simp
    · have := hI rfl
      subst this
      have e1 : decide (0 < V.toNat) = decide (1 ≤ V) := by apply decide_eq_decide.2; omega
      have e2 : decide (((V.toNat : Nat) : Int) ≤ sz) = decide (V ≤ sz) := by apply decide_eq_decide.2; omega
      rw [e1, e2]
      cases decide (1 ≤ V) <;> cases decide (V ≤ sz) <;> simp
  rcases hk with ⟨rfl, rfl⟩ | ⟨rfl, rfl⟩
  · unfold getOk rawOk rawTxt okBy
    simp only [show ((4 : Int) = 1) = False by simp, show ((4 : Int) = 2) = False by simp, show ((4 : Int) = 3) = False by simp, if_false, if_true, true_or]
    rw [str_size]
    exact key _ _ _ _ _ (lenVal_bd l a 2).1 (fun h => tPart_len h)
  · unfold getOk rawOk rawTxt okBy
    simp only [show ((5 : Int) = 1) = False by simp, show ((5 : Int) = 2) = False by simp, show ((5 : Int) = 3) = False by simp, show ((5 : Int) = 4) = False by simp, if_false, if_true, or_true]
    rw [str_size]
    exact key _ _ _ _ _ (lenVal_bd l a 3).1 (fun h => tPart_len h)
set_option maxRecDepth 100000 in
/-- the text at x, m bytes long: what string(b[x:x+m]) gives -/
theorem part_str {hi : Nat} {w : World} {b off c x m : Nat} {l : List Int} (h : rd .u8 hi w (.slice (some ⟨b, off, none⟩) l.length c) l) (h0 : 0 < l.length) (hm : x + m ≤ l.length) :
    (convert 22 9 (.slice (some ⟨b, off + x, none⟩) (x + m - x) (c - x))).run Tryz.prog w = .ok (.string ⟨(tPart l (x : Int) (m : Int)).toArray⟩) w := by
  obtain ⟨A, c', he, hc, hj⟩ := h
  injection he with e1 e2 e3
  subst e1
  subst e3
  have hj' : ∀ j, j < l.length → w.cell? ⟨b, off + j, none⟩ = some (.int .u8 (l.getD j 0)) := fun j hjl => by
    obtain ⟨b', off', e, _, hx⟩ := hj j hjl
    simp only [Option.some.injEq, Addr.mk.injEq, and_true] at e
    obtain ⟨rfl, rfl⟩ := e
    exact hx
  obtain ⟨b', off', e, hb, -⟩ := hj 0 h0
  simp only [Option.some.injEq, Addr.mk.injEq, and_true] at e
  obtain ⟨rfl, rfl⟩ := e
  rw [Nat.add_sub_cancel_left]
  exact str_of_rd (rd_part hj' hb hc hm)

set_option maxRecDepth 100000 in
set_option maxHeartbeats 3200000 in
theorem specGetField_any (hi : Nat) (v : Value) (l : List Int) (a no : Int) (w : World) (hn : l.length ≤ 1048576) (ha : a ≤ 9223372036854775807) (hl : isBytes l) (h : rd .u8 hi w v l) (hhi : hi ≤ w.heap.size) :
    Calls Tryz.prog 20 #[v, .int .i64 a, .int .i64 no] w fun e w' => e = getRes l a no ∧ Below w.heap.size w w' := by
  have H := Lib.hid h
  have HL := Lib.hid hl
  have HZ : Hid (getRes l a no = if fKind no = 0 then trip false [] 0 else trip (getOk (fKind no) l a (fSize no)) (rawTxt (fKind no) l a (fSize no)) (rawEnd (fKind no) l a (fSize no))) := Lib.hid rfl
  have H1 := Lib.hid (specFieldKind_any no)
  have H2 := Lib.hid (specFieldSize_any no)
  have hsz := (kind_size no).2.2.2.2
  have hs0 : fKind no ≠ 0 → 1 ≤ fSize no := fun h => fSize_pos h
  have hk := kind_cases no
  clear h hl
  rw [HZ.out]
  clear HZ
  generalize fKind no = kd at H1 hk hs0 ⊢
  generalize fSize no = sz at H2 hsz hs0 ⊢
  rcases hk with rfl | hk
  · rw [if_pos rfl, trip_no]
    go_enter Tryz.func20, Tryz.ntmps20
    go_wp2_with fail
    refine (H1.out _).mono ?_
    rintro e w1 ⟨rfl, rfl⟩
    go_wp2_with fail
    refine (H2.out _).mono ?_
    rintro e w1 ⟨rfl, rfl⟩
    go_wp2
    go_ret3
    exact ⟨rfl, Below.refl _ _⟩
  have hne : kd ≠ 0 := by omega
  rw [if_neg hne]
  have hs1 := hs0 hne
  clear hs0
  by_cases h0 : a < 0
  · rw [getOk_neg h0, trip_no]
    have hne' : (kd == 0) = false := beq_eq_false_iff_ne.2 hne
    clear hne
    go_enter Tryz.func20, Tryz.ntmps20
    go_wp2_with fail
    refine (H1.out _).mono ?_
    rintro e w1 ⟨rfl, rfl⟩
    go_wp2_with fail
    refine (H2.out _).mono ?_
    rintro e w1 ⟨rfl, rfl⟩
    go_wp2
    go_ret3
    exact ⟨rfl, Below.refl _ _⟩
  clear hne
  obtain ⟨m, rfl⟩ : ∃ m : Nat, sz = m := ⟨sz.toNat, by omega⟩
  obtain ⟨x, rfl⟩ : ∃ x : Nat, a = x := ⟨a.toNat, by omega⟩
  clear h0
  rcases hk with rfl | rfl | rfl | rfl | rfl
  · rw [getOk1 HL.out]
    have HW : Hid (trip (gOk l (x : Int) (m : Int)) (rawTxt 1 l (x : Int) (m : Int)) (rawEnd 1 l (x : Int) (m : Int)) = gRes l (x : Int) (m : Int)) := Lib.hid (by rw [gRes_trip]; rfl)
    rw [HW.out]
    go_enter Tryz.func20, Tryz.ntmps20
    go_wp2_with fail
    refine (H1.out _).mono ?_
    rintro e w1 ⟨rfl, rfl⟩
    go_wp2_with fail
    refine (H2.out _).mono ?_
    rintro e w1 ⟨rfl, rfl⟩
    go_wp2_with fail
    refine (width_any _ _).mono ?_
    rw [show fWidth 1 = 0 from rfl]
    rintro e w1 ⟨rfl, rfl⟩
    go_wp2_with fail
    refine (specGetBcd_any hi _ l _ _ _ (by omega) ha HL.out H.out hhi).mono ?_
    rintro e w2 ⟨he, hb⟩
    unfold gRes at he
    subst he
    go_wp2
    go_ret3
    exact ⟨rfl, hb⟩
  · rw [getOk2]
    obtain ⟨A, c, rfl, hc⟩ := H.out.form
    rcases Nat.lt_or_ge l.length x with hx | hx
    · rw [inR_no (l := l) (a := (x : Int)) (n := (m : Int)) (by omega), Bool.false_and, trip_no]
      have d1 : (l.length : Int) < (x : Int) := by omega
      go_enter Tryz.func20, Tryz.ntmps20
      go_wp2_with fail
      refine (H1.out _).mono ?_
      rintro e w1 ⟨rfl, rfl⟩
      go_wp2_with fail
      refine (H2.out _).mono ?_
      rintro e w1 ⟨rfl, rfl⟩
      go_wp2_with fail
      refine (width_any _ _).mono ?_
      rw [show fWidth 2 = 0 from rfl]
      rintro e w1 ⟨rfl, rfl⟩
      go_wp2
      go_ret3
      exact ⟨rfl, Below.refl _ _⟩
    rcases Nat.lt_or_ge l.length (x + m) with hxm | hxm
    · rw [inR_no (l := l) (a := (x : Int)) (n := (m : Int)) (by omega), Bool.false_and, trip_no]
      have d1 : ¬ (l.length : Int) < (x : Int) := by omega
      have d2 : (l.length : Int) - (x : Int) < (m : Int) := by omega
      go_enter Tryz.func20, Tryz.ntmps20
      go_wp2_with fail
      refine (H1.out _).mono ?_
      rintro e w1 ⟨rfl, rfl⟩
      go_wp2_with fail
      refine (H2.out _).mono ?_
      rintro e w1 ⟨rfl, rfl⟩
      go_wp2_with fail
      refine (width_any _ _).mono ?_
      rw [show fWidth 2 = 0 from rfl]
      rintro e w1 ⟨rfl, rfl⟩
      go_wp2
      go_ret3
      exact ⟨rfl, Below.refl _ _⟩
    have hin : inR l (x : Int) (m : Int) = true := by simp [inR]; omega
    have hl0 : 0 < l.length := by omega
    obtain ⟨b, off, rfl, -⟩ : ∃ b off, A = some ⟨b, off, none⟩ ∧ True := by
      obtain ⟨A', c', he, -, hj⟩ := H.out
      injection he with e1
      subst e1
      obtain ⟨b, off, e, -⟩ := hj 0 hl0
      exact ⟨b, off, e, trivial⟩
    rw [hin, Bool.true_and]
    have HPS := Lib.hid (fun W (hW : rd .u8 hi W (.slice (some ⟨b, off, none⟩) l.length c) l) => part_str (x := x) (m := m) hW hl0 hxm)
    have HTX : Hid (tPart l (x : Int) (m : Int) = rawTxt 2 l (x : Int) (m : Int)) := Lib.hid rfl
    have HPL : Hid ((⟨(tPart l (x : Int) (m : Int)).toArray⟩ : ByteArray).size ≤ maxLen) := Lib.hid (by have := tPart_le l (x : Int) (m : Int); rw [str_size]; unfold maxLen; omega)
    rw [← HTX.out]
    have HEN : Hid (rawEnd 2 l (x : Int) (m : Int) = (x : Int) + (m : Int)) := Lib.hid rfl
    rw [HEN.out]
    have d1 : ¬ (l.length : Int) < (x : Int) := by omega
    have d2 : ¬ (l.length : Int) - (x : Int) < (m : Int) := by omega
    have d3 : (x : Int) + (m : Int) ≤ (c : Int) := by omega
    have d4 : (0 : Int) ≤ (x : Int) := by omega
    have d5 : (x : Int) ≤ (x : Int) + (m : Int) := by omega
    have hcx : ¬ c = x := by omega
    clear hin HTX HEN
    generalize tPart l (x : Int) (m : Int) = t at HPS HPL ⊢
    cases hp : prnS ⟨t.toArray⟩
    · have HP := Lib.hid hp
      rw [trip_no]
      clear hp
      go_enter Tryz.func20, Tryz.ntmps20
      go_wp2_with fail
      refine (H1.out _).mono ?_
      rintro e w1 ⟨rfl, rfl⟩
      go_wp2_with fail
      refine (H2.out _).mono ?_
      rintro e w1 ⟨rfl, rfl⟩
      go_wp2_with fail
      refine (width_any _ _).mono ?_
      rw [show fWidth 2 = 0 from rfl]
      rintro e w1 ⟨rfl, rfl⟩
      have hst := HPS.out _ H.out
      have hst2 := hst
      rw [Nat.add_sub_cancel_left] at hst2
      go_wp2_with fail
      refine (specPrintable_any _ _ HPL.out).mono ?_
      rw [HP.out]
      rintro e w9 ⟨rfl, rfl⟩
      go_wp2
      go_ret3
      exact ⟨rfl, Below.refl _ _⟩
    · have HP := Lib.hid hp
      rw [trip_yes]
      clear hp
      go_enter Tryz.func20, Tryz.ntmps20
      go_wp2_with fail
      refine (H1.out _).mono ?_
      rintro e w1 ⟨rfl, rfl⟩
      go_wp2_with fail
      refine (H2.out _).mono ?_
      rintro e w1 ⟨rfl, rfl⟩
      go_wp2_with fail
      refine (width_any _ _).mono ?_
      rw [show fWidth 2 = 0 from rfl]
      rintro e w1 ⟨rfl, rfl⟩
      have hst := HPS.out _ H.out
      have hst2 := hst
      rw [Nat.add_sub_cancel_left] at hst2
      go_wp2_with fail
      refine (specPrintable_any _ _ HPL.out).mono ?_
      rw [HP.out]
      rintro e w9 ⟨rfl, rfl⟩
      go_wp2
      go_ret3
      exact ⟨rfl, Below.refl _ _⟩
  · rw [getOk3 HL.out]
    have HRE : Hid (rawTxt 3 l (x : Int) (m : Int) = gTxt l (lenEnd l (x : Int) 2) (lenVal l (x : Int) 2) ∧ rawEnd 3 l (x : Int) (m : Int) = gEnd l (lenEnd l (x : Int) 2) (lenVal l (x : Int) 2)) := Lib.hid ⟨rfl, rfl⟩
    rw [HRE.out.1, HRE.out.2]
    have HGL := Lib.hid (specGetLen_any hi v l (x : Int) 2 w (by omega) ha HL.out H.out hhi)
    rw [lenRes_trip] at HGL
    have he := lenEnd_bd l (x : Int) 2
    clear HRE
    generalize lenEnd l (x : Int) 2 = en at HGL he ⊢
    generalize lenVal l (x : Int) 2 = vl at HGL ⊢
    cases hgot : lenGot l (x : Int) 2
    · rw [hgot] at HGL
      rw [Bool.false_and, Bool.false_and, trip_no]
      clear hgot
      go_enter Tryz.func20, Tryz.ntmps20
      go_wp2_with fail
      refine (H1.out _).mono ?_
      rintro e w1 ⟨rfl, rfl⟩
      go_wp2_with fail
      refine (H2.out _).mono ?_
      rintro e w1 ⟨rfl, rfl⟩
      go_wp2_with fail
      refine (width_any _ _).mono ?_
      rw [show fWidth 3 = 2 from rfl]
      rintro e w1 ⟨rfl, rfl⟩
      go_wp2_with fail
      refine (width_any _ _).mono ?_
      rw [show fWidth 3 = 2 from rfl]
      rintro e w1 ⟨rfl, rfl⟩
      go_wp2_with fail
      refine HGL.out.mono ?_
      rintro e w2 ⟨rfl, hb⟩
      go_wp2
      go_ret3
      exact ⟨rfl, hb⟩
    rw [hgot] at HGL
    rw [Bool.true_and]
    cases hr : (decide (1 ≤ vl) && decide (vl ≤ (m : Int)))
    · have HR := Lib.hid hr
      rw [Bool.false_and, trip_no]
      clear hgot hr
      go_enter Tryz.func20, Tryz.ntmps20
      go_wp2_with fail
      refine (H1.out _).mono ?_
      rintro e w1 ⟨rfl, rfl⟩
      go_wp2_with fail
      refine (H2.out _).mono ?_
      rintro e w1 ⟨rfl, rfl⟩
      go_wp2_with fail
      refine (width_any _ _).mono ?_
      rw [show fWidth 3 = 2 from rfl]
      rintro e w1 ⟨rfl, rfl⟩
      go_wp2_with fail
      refine (width_any _ _).mono ?_
      rw [show fWidth 3 = 2 from rfl]
      rintro e w1 ⟨rfl, rfl⟩
      go_wp2_with fail
      refine HGL.out.mono ?_
      rintro e w2 ⟨rfl, hb⟩
      go_wp2_with fail
      refine (l01In_any _ _ _ _).mono ?_
      rw [HR.out]
      rintro e w3 ⟨rfl, rfl⟩
      go_wp2
      go_ret3
      exact ⟨rfl, hb⟩
    · have HR := Lib.hid hr
      rw [Bool.true_and, ← gRes_trip]
      clear hgot hr
      go_enter Tryz.func20, Tryz.ntmps20
      go_wp2_with fail
      refine (H1.out _).mono ?_
      rintro e w1 ⟨rfl, rfl⟩
      go_wp2_with fail
      refine (H2.out _).mono ?_
      rintro e w1 ⟨rfl, rfl⟩
      go_wp2_with fail
      refine (width_any _ _).mono ?_
      rw [show fWidth 3 = 2 from rfl]
      rintro e w1 ⟨rfl, rfl⟩
      go_wp2_with fail
      refine (width_any _ _).mono ?_
      rw [show fWidth 3 = 2 from rfl]
      rintro e w1 ⟨rfl, rfl⟩
      go_wp2_with fail
      refine HGL.out.mono ?_
      rintro e w2 ⟨rfl, hb⟩
      have HBB := Lib.hid hb
      have hz := hb.size
      clear hb
      go_wp2_with fail
      refine (l01In_any _ _ _ _).mono ?_
      rw [HR.out]
      rintro e w3 ⟨rfl, rfl⟩
      go_wp2_with fail
      refine (specGetBcd_any hi _ l _ _ _ (by omega) (by omega) HL.out (H.out.below HBB.out hhi) (Nat.le_trans hhi hz)).mono ?_
      rintro e w4 ⟨he4, hb4⟩
      unfold gRes at he4
      subst he4
      go_wp2
      go_ret3
      exact ⟨rfl, HBB.out.trans (hb4.mono hz)⟩
  · rw [getOk45 (kd := 4) (d := 2) (by omega)]
    have HRE : Hid (rawTxt 4 l (x : Int) (m : Int) = tPart l (lenEnd l (x : Int) 2) (lenVal l (x : Int) 2) ∧ rawEnd 4 l (x : Int) (m : Int) = lenEnd l (x : Int) 2 + lenVal l (x : Int) 2) := Lib.hid ⟨rfl, rfl⟩
    rw [HRE.out.1, HRE.out.2]
    have HGL := Lib.hid (specGetLen_any hi v l (x : Int) 2 w (by omega) ha HL.out H.out hhi)
    rw [lenRes_trip] at HGL
    have he := lenEnd_bd l (x : Int) 2
    have hv := lenVal_bd l (x : Int) 2
    clear HRE
    generalize lenEnd l (x : Int) 2 = en at HGL he ⊢
    generalize lenVal l (x : Int) 2 = vl at HGL hv ⊢
    cases hgot : lenGot l (x : Int) 2
    · rw [hgot] at HGL
      rw [Bool.false_and, Bool.false_and, trip_no]
      clear hgot
      go_enter Tryz.func20, Tryz.ntmps20
      go_wp2_with fail
      refine (H1.out _).mono ?_
      rintro e w1 ⟨rfl, rfl⟩
      go_wp2_with fail
      refine (H2.out _).mono ?_
      rintro e w1 ⟨rfl, rfl⟩
      go_wp2_with fail
      refine (width_any _ _).mono ?_
      rw [show fWidth 4 = 2 from rfl]
      rintro e w1 ⟨rfl, rfl⟩
      go_wp2_with fail
      refine (width_any _ _).mono ?_
      rw [show fWidth 4 = 2 from rfl]
      rintro e w1 ⟨rfl, rfl⟩
      go_wp2_with fail
      refine HGL.out.mono ?_
      rintro e w2 ⟨rfl, hb⟩
      go_wp2
      go_ret3
      exact ⟨rfl, hb⟩
    rw [hgot] at HGL
    rw [Bool.true_and]
    cases hr : (decide (1 ≤ vl) && decide (vl ≤ (m : Int)))
    · have HR := Lib.hid hr
      rw [Bool.false_and, trip_no]
      clear hgot hr
      go_enter Tryz.func20, Tryz.ntmps20
      go_wp2_with fail
      refine (H1.out _).mono ?_
      rintro e w1 ⟨rfl, rfl⟩
      go_wp2_with fail
      refine (H2.out _).mono ?_
      rintro e w1 ⟨rfl, rfl⟩
      go_wp2_with fail
      refine (width_any _ _).mono ?_
      rw [show fWidth 4 = 2 from rfl]
      rintro e w1 ⟨rfl, rfl⟩
      go_wp2_with fail
      refine (width_any _ _).mono ?_
      rw [show fWidth 4 = 2 from rfl]
      rintro e w1 ⟨rfl, rfl⟩
      go_wp2_with fail
      refine HGL.out.mono ?_
      rintro e w2 ⟨rfl, hb⟩
      have HBB := Lib.hid hb
      have hz := hb.size
      clear hb
      go_wp2_with fail
      refine (l01In_any _ _ _ _).mono ?_
      rw [HR.out]
      rintro e w3 ⟨rfl, rfl⟩
      go_wp2
      go_ret3
      exact ⟨rfl, HBB.out⟩
    have HR := Lib.hid hr
    rw [Bool.true_and]
    have hr2 : 1 ≤ vl ∧ vl ≤ (m : Int) := by simpa using hr
    clear hgot hr
    obtain ⟨ex, rfl⟩ : ∃ ex : Nat, en = ex := ⟨en.toNat, by omega⟩
    obtain ⟨vm, rfl⟩ : ∃ vm : Nat, vl = vm := ⟨vl.toNat, by omega⟩
    obtain ⟨hr3, hr4⟩ := hr2
    obtain ⟨A, c, rfl, hc⟩ := H.out.form
    rcases Nat.lt_or_ge l.length ex with hx | hx
    · exact absurd hx (by omega)
    rcases Nat.lt_or_ge l.length (ex + vm) with hxm | hxm
    · rw [inR_no (l := l) (a := (ex : Int)) (n := (vm : Int)) (by omega), Bool.false_and, trip_no]
      have d1 : ¬ (l.length : Int) < (ex : Int) := by omega
      have d2 : (l.length : Int) - (ex : Int) < (vm : Int) := by omega
      go_enter Tryz.func20, Tryz.ntmps20
      go_wp2_with fail
      refine (H1.out _).mono ?_
      rintro e w1 ⟨rfl, rfl⟩
      go_wp2_with fail
      refine (H2.out _).mono ?_
      rintro e w1 ⟨rfl, rfl⟩
      go_wp2_with fail
      refine (width_any _ _).mono ?_
      rw [show fWidth 4 = 2 from rfl]
      rintro e w1 ⟨rfl, rfl⟩
      go_wp2_with fail
      refine (width_any _ _).mono ?_
      rw [show fWidth 4 = 2 from rfl]
      rintro e w1 ⟨rfl, rfl⟩
      go_wp2_with fail
      refine HGL.out.mono ?_
      rintro e w2 ⟨rfl, hb⟩
      have HBB := Lib.hid hb
      have hz := hb.size
      clear hb
      go_wp2_with fail
      refine (l01In_any _ _ _ _).mono ?_
      rw [HR.out]
      rintro e w3 ⟨rfl, rfl⟩
      go_wp2
      go_ret3
      exact ⟨rfl, HBB.out⟩
    have hin : inR l (ex : Int) (vm : Int) = true := by simp [inR]; omega
    have hl0 : 0 < l.length := by omega
    obtain ⟨b, off, rfl, -⟩ : ∃ b off, A = some ⟨b, off, none⟩ ∧ True := by
      obtain ⟨A', c', he, -, hj⟩ := H.out
      injection he with e1
      subst e1
      obtain ⟨b, off, e, -⟩ := hj 0 hl0
      exact ⟨b, off, e, trivial⟩
    rw [hin, Bool.true_and]
    have HPS := Lib.hid (fun W (hW : rd .u8 hi W (.slice (some ⟨b, off, none⟩) l.length c) l) => part_str (x := ex) (m := vm) hW hl0 hxm)
    have HTX : Hid (tPart l (ex : Int) (vm : Int) = tPart l (ex : Int) (vm : Int)) := Lib.hid rfl
    have HPL : Hid ((⟨(tPart l (ex : Int) (vm : Int)).toArray⟩ : ByteArray).size ≤ maxLen) := Lib.hid (by have := tPart_le l (ex : Int) (vm : Int); rw [str_size]; unfold maxLen; omega)
    rw [← HTX.out]
    have HEN : Hid ((ex : Int) + (vm : Int) = (ex : Int) + (vm : Int)) := Lib.hid rfl
    rw [HEN.out]
    have d1 : ¬ (l.length : Int) < (ex : Int) := by omega
    have d2 : ¬ (l.length : Int) - (ex : Int) < (vm : Int) := by omega
    have d3 : (ex : Int) + (vm : Int) ≤ (c : Int) := by omega
    have d4 : (0 : Int) ≤ (ex : Int) := by omega
    have d5 : (ex : Int) ≤ (ex : Int) + (vm : Int) := by omega
    have hcx : ¬ c = ex := by omega
    clear hin HTX HEN
    generalize tPart l (ex : Int) (vm : Int) = t at HPS HPL ⊢
    cases hp : prnS ⟨t.toArray⟩
    · have HP := Lib.hid hp
      rw [trip_no]
      clear hp
      go_enter Tryz.func20, Tryz.ntmps20
      go_wp2_with fail
      refine (H1.out _).mono ?_
      rintro e w1 ⟨rfl, rfl⟩
      go_wp2_with fail
      refine (H2.out _).mono ?_
      rintro e w1 ⟨rfl, rfl⟩
      go_wp2_with fail
      refine (width_any _ _).mono ?_
      rw [show fWidth 4 = 2 from rfl]
      rintro e w1 ⟨rfl, rfl⟩
      go_wp2_with fail
      refine (width_any _ _).mono ?_
      rw [show fWidth 4 = 2 from rfl]
      rintro e w1 ⟨rfl, rfl⟩
      go_wp2_with fail
      refine HGL.out.mono ?_
      rintro e w2 ⟨rfl, hb⟩
      have HBB := Lib.hid hb
      have hz := hb.size
      clear hb
      go_wp2_with fail
      refine (l01In_any _ _ _ _).mono ?_
      rw [HR.out]
      rintro e w3 ⟨rfl, rfl⟩
      have hst := HPS.out _ (H.out.below HBB.out hhi)
      have hst2 := hst
      rw [Nat.add_sub_cancel_left] at hst2
      go_wp2_with fail
      refine (specPrintable_any _ _ HPL.out).mono ?_
      rw [HP.out]
      rintro e w9 ⟨rfl, rfl⟩
      go_wp2
      go_ret3
      exact ⟨rfl, HBB.out⟩
    · have HP := Lib.hid hp
      rw [trip_yes]
      clear hp
      go_enter Tryz.func20, Tryz.ntmps20
      go_wp2_with fail
      refine (H1.out _).mono ?_
      rintro e w1 ⟨rfl, rfl⟩
      go_wp2_with fail
      refine (H2.out _).mono ?_
      rintro e w1 ⟨rfl, rfl⟩
      go_wp2_with fail
      refine (width_any _ _).mono ?_
      rw [show fWidth 4 = 2 from rfl]
      rintro e w1 ⟨rfl, rfl⟩
      go_wp2_with fail
      refine (width_any _ _).mono ?_
      rw [show fWidth 4 = 2 from rfl]
      rintro e w1 ⟨rfl, rfl⟩
      go_wp2_with fail
      refine HGL.out.mono ?_
      rintro e w2 ⟨rfl, hb⟩
      have HBB := Lib.hid hb
      have hz := hb.size
      clear hb
      go_wp2_with fail
      refine (l01In_any _ _ _ _).mono ?_
      rw [HR.out]
      rintro e w3 ⟨rfl, rfl⟩
      have hst := HPS.out _ (H.out.below HBB.out hhi)
      have hst2 := hst
      rw [Nat.add_sub_cancel_left] at hst2
      go_wp2_with fail
      refine (specPrintable_any _ _ HPL.out).mono ?_
      rw [HP.out]
      rintro e w9 ⟨rfl, rfl⟩
      go_wp2
      go_ret3
      exact ⟨rfl, HBB.out⟩
  · rw [getOk45 (kd := 5) (d := 3) (by omega)]
    have HRE : Hid (rawTxt 5 l (x : Int) (m : Int) = tPart l (lenEnd l (x : Int) 3) (lenVal l (x : Int) 3) ∧ rawEnd 5 l (x : Int) (m : Int) = lenEnd l (x : Int) 3 + lenVal l (x : Int) 3) := Lib.hid ⟨rfl, rfl⟩
    rw [HRE.out.1, HRE.out.2]
    have HGL := Lib.hid (specGetLen_any hi v l (x : Int) 3 w (by omega) ha HL.out H.out hhi)
    rw [lenRes_trip] at HGL
    have he := lenEnd_bd l (x : Int) 3
    have hv := lenVal_bd l (x : Int) 3
    clear HRE
    generalize lenEnd l (x : Int) 3 = en at HGL he ⊢
    generalize lenVal l (x : Int) 3 = vl at HGL hv ⊢
    cases hgot : lenGot l (x : Int) 3
    · rw [hgot] at HGL
      rw [Bool.false_and, Bool.false_and, trip_no]
      clear hgot
      go_enter Tryz.func20, Tryz.ntmps20
      go_wp2_with fail
      refine (H1.out _).mono ?_
      rintro e w1 ⟨rfl, rfl⟩
      go_wp2_with fail
      refine (H2.out _).mono ?_
      rintro e w1 ⟨rfl, rfl⟩
      go_wp2_with fail
      refine (width_any _ _).mono ?_
      rw [show fWidth 5 = 3 from rfl]
      rintro e w1 ⟨rfl, rfl⟩
      go_wp2_with fail
      refine (width_any _ _).mono ?_
      rw [show fWidth 5 = 3 from rfl]
      rintro e w1 ⟨rfl, rfl⟩
      go_wp2_with fail
      refine HGL.out.mono ?_
      rintro e w2 ⟨rfl, hb⟩
      go_wp2
      go_ret3
      exact ⟨rfl, hb⟩
    rw [hgot] at HGL
    rw [Bool.true_and]
    cases hr : (decide (1 ≤ vl) && decide (vl ≤ (m : Int)))
    · have HR := Lib.hid hr
      rw [Bool.false_and, trip_no]
      clear hgot hr
      go_enter Tryz.func20, Tryz.ntmps20
      go_wp2_with fail
      refine (H1.out _).mono ?_
      rintro e w1 ⟨rfl, rfl⟩
      go_wp2_with fail
      refine (H2.out _).mono ?_
      rintro e w1 ⟨rfl, rfl⟩
      go_wp2_with fail
      refine (width_any _ _).mono ?_
      rw [show fWidth 5 = 3 from rfl]
      rintro e w1 ⟨rfl, rfl⟩
      go_wp2_with fail
      refine (width_any _ _).mono ?_
      rw [show fWidth 5 = 3 from rfl]
      rintro e w1 ⟨rfl, rfl⟩
      go_wp2_with fail
      refine HGL.out.mono ?_
      rintro e w2 ⟨rfl, hb⟩
      have HBB := Lib.hid hb
      have hz := hb.size
      clear hb
      go_wp2_with fail
      refine (l01In_any _ _ _ _).mono ?_
      rw [HR.out]
      rintro e w3 ⟨rfl, rfl⟩
      go_wp2
      go_ret3
      exact ⟨rfl, HBB.out⟩
    have HR := Lib.hid hr
    rw [Bool.true_and]
    have hr2 : 1 ≤ vl ∧ vl ≤ (m : Int) := by simpa using hr
    clear hgot hr
    obtain ⟨ex, rfl⟩ : ∃ ex : Nat, en = ex := ⟨en.toNat, by omega⟩
    obtain ⟨vm, rfl⟩ : ∃ vm : Nat, vl = vm := ⟨vl.toNat, by omega⟩
    obtain ⟨hr3, hr4⟩ := hr2
    obtain ⟨A, c, rfl, hc⟩ := H.out.form
    rcases Nat.lt_or_ge l.length ex with hx | hx
    · exact absurd hx (by omega)
    rcases Nat.lt_or_ge l.length (ex + vm) with hxm | hxm
    · rw [inR_no (l := l) (a := (ex : Int)) (n := (vm : Int)) (by omega), Bool.false_and, trip_no]
      have d1 : ¬ (l.length : Int) < (ex : Int) := by omega
      have d2 : (l.length : Int) - (ex : Int) < (vm : Int) := by omega
      go_enter Tryz.func20, Tryz.ntmps20
      go_wp2_with fail
      refine (H1.out _).mono ?_
      rintro e w1 ⟨rfl, rfl⟩
      go_wp2_with fail
      refine (H2.out _).mono ?_
      rintro e w1 ⟨rfl, rfl⟩
      go_wp2_with fail
      refine (width_any _ _).mono ?_
      rw [show fWidth 5 = 3 from rfl]
      rintro e w1 ⟨rfl, rfl⟩
      go_wp2_with fail
      refine (width_any _ _).mono ?_
      rw [show fWidth 5 = 3 from rfl]
      rintro e w1 ⟨rfl, rfl⟩
      go_wp2_with fail
      refine HGL.out.mono ?_
      rintro e w2 ⟨rfl, hb⟩
      have HBB := Lib.hid hb
      have hz := hb.size
      clear hb
      go_wp2_with fail
      refine (l01In_any _ _ _ _).mono ?_
      rw [HR.out]
      rintro e w3 ⟨rfl, rfl⟩
      go_wp2
      go_ret3
      exact ⟨rfl, HBB.out⟩
    have hin : inR l (ex : Int) (vm : Int) = true := by simp [inR]; omega
    have hl0 : 0 < l.length := by omega
    obtain ⟨b, off, rfl, -⟩ : ∃ b off, A = some ⟨b, off, none⟩ ∧ True := by
      obtain ⟨A', c', he, -, hj⟩ := H.out
      injection he with e1
      subst e1
      obtain ⟨b, off, e, -⟩ := hj 0 hl0
      exact ⟨b, off, e, trivial⟩
    rw [hin, Bool.true_and]
    have HPS := Lib.hid (fun W (hW : rd .u8 hi W (.slice (some ⟨b, off, none⟩) l.length c) l) => part_str (x := ex) (m := vm) hW hl0 hxm)
    have HTX : Hid (tPart l (ex : Int) (vm : Int) = tPart l (ex : Int) (vm : Int)) := Lib.hid rfl
    have HPL : Hid ((⟨(tPart l (ex : Int) (vm : Int)).toArray⟩ : ByteArray).size ≤ maxLen) := Lib.hid (by have := tPart_le l (ex : Int) (vm : Int); rw [str_size]; unfold maxLen; omega)
    rw [← HTX.out]
    have HEN : Hid ((ex : Int) + (vm : Int) = (ex : Int) + (vm : Int)) := Lib.hid rfl
    rw [HEN.out]
    have d1 : ¬ (l.length : Int) < (ex : Int) := by omega
    have d2 : ¬ (l.length : Int) - (ex : Int) < (vm : Int) := by omega
    have d3 : (ex : Int) + (vm : Int) ≤ (c : Int) := by omega
    have d4 : (0 : Int) ≤ (ex : Int) := by omega
    have d5 : (ex : Int) ≤ (ex : Int) + (vm : Int) := by omega
    have hcx : ¬ c = ex := by omega
    clear hin HTX HEN
    generalize tPart l (ex : Int) (vm : Int) = t at HPS HPL ⊢
    cases hp : prnS ⟨t.toArray⟩
    · have HP := Lib.hid hp
      rw [trip_no]
      clear hp
      go_enter Tryz.func20, Tryz.ntmps20
      go_wp2_with fail
      refine (H1.out _).mono ?_
      rintro e w1 ⟨rfl, rfl⟩
      go_wp2_with fail
      refine (H2.out _).mono ?_
      rintro e w1 ⟨rfl, rfl⟩
      go_wp2_with fail
      refine (width_any _ _).mono ?_
      rw [show fWidth 5 = 3 from rfl]
      rintro e w1 ⟨rfl, rfl⟩
      go_wp2_with fail
      refine (width_any _ _).mono ?_
      rw [show fWidth 5 = 3 from rfl]
      rintro e w1 ⟨rfl, rfl⟩
      go_wp2_with fail
      refine HGL.out.mono ?_
      rintro e w2 ⟨rfl, hb⟩
      have HBB := Lib.hid hb
      have hz := hb.size
      clear hb
      go_wp2_with fail
      refine (l01In_any _ _ _ _).mono ?_
      rw [HR.out]
      rintro e w3 ⟨rfl, rfl⟩
      have hst := HPS.out _ (H.out.below HBB.out hhi)
      have hst2 := hst
      rw [Nat.add_sub_cancel_left] at hst2
      go_wp2_with fail
      refine (specPrintable_any _ _ HPL.out).mono ?_
      rw [HP.out]
      rintro e w9 ⟨rfl, rfl⟩
      go_wp2
      go_ret3
      exact ⟨rfl, HBB.out⟩
    · have HP := Lib.hid hp
      rw [trip_yes]
      clear hp
      go_enter Tryz.func20, Tryz.ntmps20
      go_wp2_with fail
      refine (H1.out _).mono ?_
      rintro e w1 ⟨rfl, rfl⟩
      go_wp2_with fail
      refine (H2.out _).mono ?_
      rintro e w1 ⟨rfl, rfl⟩
      go_wp2_with fail
      refine (width_any _ _).mono ?_
      rw [show fWidth 5 = 3 from rfl]
      rintro e w1 ⟨rfl, rfl⟩
      go_wp2_with fail
      refine (width_any _ _).mono ?_
      rw [show fWidth 5 = 3 from rfl]
      rintro e w1 ⟨rfl, rfl⟩
      go_wp2_with fail
      refine HGL.out.mono ?_
      rintro e w2 ⟨rfl, hb⟩
      have HBB := Lib.hid hb
      have hz := hb.size
      clear hb
      go_wp2_with fail
      refine (l01In_any _ _ _ _).mono ?_
      rw [HR.out]
      rintro e w3 ⟨rfl, rfl⟩
      have hst := HPS.out _ (H.out.below HBB.out hhi)
      have hst2 := hst
      rw [Nat.add_sub_cancel_left] at hst2
      go_wp2_with fail
      refine (specPrintable_any _ _ HPL.out).mono ?_
      rw [HP.out]
      rintro e w9 ⟨rfl, rfl⟩
      go_wp2
      go_ret3
      exact ⟨rfl, HBB.out⟩
end Go.Proofs.YtiolebpoofkpmaaGreatDoor
