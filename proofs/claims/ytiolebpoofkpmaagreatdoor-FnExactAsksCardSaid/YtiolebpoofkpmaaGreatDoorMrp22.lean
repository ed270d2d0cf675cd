/- Parse of the program: it gives up by a panic that it takes back; no conditions on the bytes but their number. -/
import Derived.Test.YtiolebpoofkpmaaGreatDoorMrp17
import Derived.Test.YtiolebpoofkpmaaGreatDoorMrpGetImpl
import Derived.Test.YtiolebpoofkpmaaGreatDoorMrp21
import Derived.Test.YtiolebpoofkpmaaGreatDoorMrp15
import Derived.WalkLawsBesides
import Derived.Recover
set_option linter.unusedVariables false
namespace Go.Proofs.YtiolebpoofkpmaaGreatDoor
open Go.ChangeShapes Go.WideShapes Go.ChangeAt Go.RowKit
open Go.Maps (Keyed IsMap)

set_option maxRecDepth 100000 in
theorem need_yes (c : Int) (w : World) : Calls Tryz.prog 53 #[.bool true, .int .i64 c] w fun e w' => e = .returned (.tuple #[]) ∧ w = w' := by
  go_enter Tryz.func53, Tryz.ntmps53
  go_wp2
  go_end0
  exact ⟨rfl, rfl⟩
/-- the panic by which the program gives up -/
def fault (c : Int) : Ending := .panicked [{ v := .iface 59 (.int .i64 c), recovered := false }]
set_option maxRecDepth 100000 in
theorem need_no (c : Int) (w : World) : Calls Tryz.prog 53 #[.bool false, .int .i64 c] w fun e w' => e = .panicked [{ v := .iface 59 (.int .i64 c), recovered := false }] ∧ w = w' := by
  go_enter Tryz.func53, Tryz.ntmps53
  go_wp2
  exact ⟨rfl, rfl, rfl⟩
/-- the numbers and where they end, or the panic -/
def bmRes (l : List Int) (w : World) (e : Ending) (w' : World) : Prop := Below w.heap.size w w' ∧ if nosOk l = true then ∃ v, e = .returned (.tuple #[v, .int .i64 (nosE l)]) ∧ rd .i64 w'.heap.size w' v (nosL l) else e = fault 2
set_option maxRecDepth 100000 in
theorem bmRes_no {l : List Int} {w w' : World} (h : nosOk l = false) (hb : Below w.heap.size w w') : bmRes l w (fault 2) w' := ⟨hb, by rw [if_neg (by rw [h]; decide)]⟩
set_option maxRecDepth 100000 in
theorem bmRes_yes {l : List Int} {w w' : World} {v : Value} {E : Int} (h : nosOk l = true) (hE : nosE l = E) (hv : rd .i64 w'.heap.size w' v (nosL l)) (hb : Below w.heap.size w w') : bmRes l w (.returned (.tuple #[v, .int .i64 E])) w' := ⟨hb, by rw [if_pos h]; exact ⟨v, by rw [hE], hv⟩⟩
set_option maxRecDepth 100000 in
/-- the head of an ascending list from 1 on tells whether 1 is there -/
theorem head_more {x : Int} {r : List Int} (h : (x :: r).Pairwise (· < ·)) (h1 : ∀ z ∈ x :: r, 1 ≤ z) : (x = 1 → moreB (x :: r) = true ∧ lowOnes (x :: r) = r) ∧ (x ≠ 1 → moreB (x :: r) = false ∧ lowOnes (x :: r) = x :: r) := by
  obtain ⟨hx, hr⟩ := List.pairwise_cons.1 h
  have h2 := h1 x (List.mem_cons_self ..)
  have hr1 : ∀ z ∈ r, z ≠ 1 := fun z hz => by have := hx z hz; omega
  have hf : lowOnes r = r := by
    unfold lowOnes
    rw [List.filter_eq_self]
    intro z hz; simpa using hr1 z hz
  constructor
  · rintro rfl
    refine ⟨by simp [moreB], ?_⟩
    show List.filter _ (1 :: r) = r
    rw [List.filter_cons_of_neg (by simp)]; exact hf
  · intro hne
    constructor
    · unfold moreB
      rw [decide_eq_false_iff_not, List.mem_cons]
      rintro (e | e)
      · exact hne e.symm
      · exact hr1 1 e rfl
    · show List.filter _ (x :: r) = x :: r
      rw [List.filter_cons_of_pos (by simpa using hne)]; exact congrArg _ hf
set_option maxRecDepth 100000 in
theorem bGet_up (l : List Int) (a : Int) : (bGet l a).Pairwise (· < ·) := by
  unfold bGet
  split
  · exact getB_up _ _
  · exact List.Pairwise.nil
set_option maxRecDepth 100000 in
set_option maxHeartbeats 8000000 in
theorem parseBitmaps_any (hi : Nat) (v : Value) (l : List Int) (w : World) (hn : l.length ≤ 1073741824) (hl : isBytes l) (h : rd .u8 hi w v l) (hhi : hi ≤ w.heap.size) :
    Calls Tryz.prog 54 #[v, .int .i64 2] w (bmRes l w) := by
  have H := Lib.hid h
  have HG1 := Lib.hid (implGetBits_own hi v l 2 w hn (by decide) hl h hhi)
  have HG2 := Lib.hid (fun (W : World) (hW : Below w.heap.size w W) => implGetBits_any hi v l (bEnd l 2) W hn (by unfold bEnd; split <;> omega) hl (h.below hW hhi) (Nat.le_trans hhi hW.size))
  clear h
  cases hi1 : bIn l 2
  · have HK : Hid (nosOk l = false) := Lib.hid (by simp [nosOk, hi1])
    have HI := Lib.hid hi1
    clear hi1
    go_enter Tryz.func54, Tryz.ntmps54
    go_wp2_with fail
    refine HG1.out.mono ?_
    rintro e w1 ⟨v1, rfl, hv1, hb1⟩
    rw [HI.out]
    have HB1 := Lib.hid hb1
    clear hb1 hv1
    go_wp2_with fail
    refine (need_no 2 _).mono ?_
    rintro e w2 ⟨rfl, rfl⟩
    go_wp2
    exact ⟨rfl, bmRes_no HK.out HB1.out⟩
  have HI := Lib.hid hi1
  have hup := bGet_up l 2
  have hbd := bGet_bd l 2
  have hg64 := bGet_len64 l 2
  have HM : Hid (moreB (bGet l 2) = true → nosRaw l = lowOnes (bGet l 2) ++ (bGet l (bEnd l 2)).map (· + 64) ∧ nosEnd l = bEnd l (bEnd l 2) ∧ nosOk l = ((bIn l (bEnd l 2) && decide (0 < (bGet l (bEnd l 2)).length)) && knownB (nosRaw l))) := Lib.hid (fun h => by simp [nosRaw, nosEnd, nosOk, h, hi1])
  have HN : Hid (moreB (bGet l 2) = false → nosRaw l = lowOnes (bGet l 2) ∧ nosEnd l = bEnd l 2 ∧ nosOk l = knownB (nosRaw l)) := Lib.hid (fun h => by simp [nosRaw, nosEnd, nosOk, h, hi1])
  have HLE : Hid (nosOk l = true → nosL l = nosRaw l ∧ nosE l = nosEnd l) := Lib.hid (fun h => by simp [nosL, nosE, h])
  clear hi1
  go_enter Tryz.func54, Tryz.ntmps54
  go_wp2_with fail
  refine HG1.out.mono ?_
  rintro e w1 ⟨v1, rfl, hv1, hb1⟩
  rw [HI.out]
  obtain ⟨A1, c1, rfl, hc1⟩ := hv1.nums.form
  have HV1 := Lib.hid hv1
  have HB1 := Lib.hid hb1
  have hz1 : w.heap.size ≤ w1.heap.size := hb1.size
  clear hb1 hv1
  go_wp2_with fail
  refine (need_yes 2 _).mono ?_
  rintro e w2 ⟨rfl, rfl⟩
  by_cases hm : moreB (bGet l 2) = true
  · -- there is a second bitmap
    obtain ⟨r, hr, hlow⟩ : ∃ r, bGet l 2 = 1 :: r ∧ lowOnes (bGet l 2) = r := by
      cases hg : bGet l 2 with
      | nil => rw [hg] at hm; simp [moreB] at hm
      | cons x r =>
        rw [hg] at hup hbd hm
        have hh := head_more hup (fun z hz => (hbd z hz).1)
        by_cases hx : x = 1
        · subst hx; exact ⟨r, rfl, (hh.1 rfl).2⟩
        · rw [(hh.2 hx).1] at hm; cases hm
    have HMM := Lib.hid (HM.out hm)
    rw [hr] at HV1 hc1 hg64 ⊢
    have hle : r.length + 1 ≤ 64 := hg64
    clear hm hup hbd HM HN
    obtain ⟨g, hA1, hrow⟩ := offRow_tail HV1.out
    subst hA1
    have HROW1 := Lib.hid hrow
    obtain ⟨g', off', hA, hgl, d0⟩ := HV1.out.nums.rd.at (j := 0) (x := 1) rfl
    simp only [Option.some.injEq, Addr.mk.injEq, and_true] at hA
    obtain ⟨rfl, rfl⟩ := hA
    clear hrow
    have gpos : (0 : Int) < (((1 : Int) :: r).length : Int) := by simp <;> omega
    have HG2' := Lib.hid (HG2.out _ HB1.out)
    go_wp2_with fail
    refine HG2'.out.mono ?_
    rintro e w2 ⟨v2, rfl, hv2, hb2⟩
    obtain ⟨A2, c2, rfl, hc2⟩ := hv2.form
    cases hi2 : bIn l (bEnd l 2)
    · have HK : Hid (nosOk l = false) := Lib.hid (by rw [HMM.out.2.2, hi2]; rfl)
      have HB2 := Lib.hid (HB1.out.trans (hb2.mono hz1))
      clear hb2 hv2 hi2
      go_wp2_with fail
      refine (need_no 2 _).mono ?_
      rintro e w3 ⟨rfl, rfl⟩
      go_wp2
      exact ⟨rfl, bmRes_no HK.out HB2.out⟩
    by_cases h0 : 0 < (bGet l (bEnd l 2)).length
    · have HG0 : Hid (decide (0 < (bGet l (bEnd l 2)).length) = true) := Lib.hid (by rw [decide_eq_true_eq]; exact h0)
      have HB2 := Lib.hid (HB1.out.trans (hb2.mono hz1))
      have hz2 : w1.heap.size ≤ w2.heap.size := hb2.size
      have HV2 := Lib.hid (HV1.out.below hb2 (Nat.le_refl _))
      have HU2 := Lib.hid hv2
      have HBK := Lib.hid hb2
      have hsb := bGet_bd l (bEnd l 2)
      have HOK : Hid (nosOk l = knownB (nosRaw l)) := Lib.hid (by rw [HMM.out.2.2, hi2]; simp [h0])
      have hg264 := bGet_len64 l (bEnd l 2)
      have HRW := Lib.hid HMM.out.1
      have HEN := Lib.hid HMM.out.2.1
      rw [hlow] at HRW
      clear hb2 hv2 hi2 h0 hlow HMM
      have HSB := Lib.hid hsb
      have hgB : w.heap.size ≤ g := by have := (World.ownsRow.lt HV1.out g rfl).1; exact this
      clear hsb
      generalize bGet l (bEnd l 2) = S at HG0 HU2 HSB hg264 HRW ⊢
      go_wp2_with fail
      rw [HG0.out]
      refine (need_yes 2 _).mono ?_
      rintro e w3 ⟨rfl, rfl⟩
      by_cases hc1' : c1 = 1
      · subst hc1'
        have HROW2 : Hid (offRow w.heap.size w2 (.slice (some ⟨g, 0, none⟩) r.length 0) r) := Lib.hid (by have h := HROW1.out; exact (h.below HBK.out (Nat.le_refl _)).at0)
        clear HV2
        go_wp2
        go_loopw [6, 52] (fun rv iv wr => ∃ (i : Nat) (A5 : Option Addr) (c5 : Nat) (M : List Int), i ≤ S.length ∧ iv = .int .i64 i ∧ rv = .slice A5 M.length c5 ∧ Hid (M = r ++ (S.take i).map (· + 64)) ∧ M.length ≤ r.length + i ∧ Hid (offRow w.heap.size wr (.slice A5 M.length c5) M) ∧ Hid (w2.grownBy wr (some g)) ∧ Hid (∀ b, (Value.slice A5 M.length c5).ownBlock = some b → b = g ∨ w2.heap.size ≤ b) ∧ w2.heap.size ≤ wr.heap.size) (fun _ iv _ => S.length - (intOf iv).toNat)
        case atStart => exact ⟨0, _, _, r, Nat.zero_le _, rfl, rfl, Lib.hid (by simp), Nat.le_refl _, HROW2, Lib.hid ⟨rfl, rfl, rfl, Nat.le_refl _, fun _ _ _ => rfl⟩, Lib.hid (fun b hb => Or.inl (by simpa [Value.ownBlock] using hb.symm)), Nat.le_refl _⟩
        case round =>
          obtain ⟨i, A5, c5, M, hi5, rfl, rfl, HM5, hMl, HR5, HG5, HOB, hz5⟩ := hrel
          by_cases hin : i < S.length
          · obtain ⟨x, hx⟩ : ∃ x, S[i]? = some x := ⟨_, List.getElem?_eq_getElem hin⟩
            obtain ⟨b, off, hA, hbl0, hbl, d0⟩ := HU2.out.at hx
            subst hA
            have HX := Lib.hid (take_snocI hx)
            obtain ⟨hx1, hx2⟩ := HSB.out x (List.mem_of_getElem? hx)
            have d0 := (cell_keep (o := off + i) (HG5.out.block b hbl (fun e => by simp at e; omega))).trans d0
            have g1 : (i : Int) < (S.length : Int) := by omega
            have g2 : 0 ≤ (i : Int) := by omega
            clear hx
            go_wp2_with (at_builtin; refine app_off _ _ rfl (by rfl) w.heap.size _ _ M (x + 64) _ (by rfl) (by rfl) (by simp) HR5.out (by unfold maxLen; omega) (by omega) (by omega) ?_)
            intro A7 c7 w7 hrow7 hc7 hg7 hlies7
            have hz7 : wr.heap.size ≤ w7.heap.size := hg7.size
            have HR7 := Lib.hid hrow7
            have HG7 : Hid (w2.grownBy w7 (some g)) := Lib.hid (HG5.out.andThen hg7 (fun j hj => by rcases HOB.out j hj with h | h; exact Or.inr (by rw [h]); exact Or.inl h))
            have HOB7 : Hid (∀ b, (Value.slice A7 (M.length + 1) c7).ownBlock = some b → b = g ∨ w2.heap.size ≤ b) := Lib.hid (fun b hb => by
              rcases hlies7 with h | h
              · exact HOB.out b (by rw [← h]; exact hb)
              · exact Or.inr (by have := h b hb; omega))
            clear hrow7 hg7 hlies7
            go_wp2
            go_roundw
            case rel => exact ⟨i + 1, A7, c7, M ++ [x + 64], by omega, by go_num, by rw [List.length_append]; rfl, Lib.hid (by rw [HX.out, HM5.out, List.map_append, List.append_assoc]; rfl), by simp; omega, Lib.hid (by rw [List.length_append]; exact HR7.out), HG7, Lib.hid (by rw [List.length_append]; exact HOB7.out), by omega⟩
            case measure => simp [intOf] <;> omega
          · obtain rfl : i = S.length := by omega
            obtain ⟨wX, hwX⟩ : ∃ wX, wX = wr := ⟨_, rfl⟩
            subst hwX
            have hMX : M = nosRaw l := by rw [HM5.out, List.take_length, HRW.out]
            have HVX := Lib.hid HR5.out.rd
            have HBX : Hid (Below w.heap.size w wX) := Lib.hid (HB2.out.grown HG5.out (by omega) (fun j hj => by cases hj; exact hgB))
            have hzX : w.heap.size ≤ wX.heap.size := by omega
            have HRAW : Hid (nosOk l = true → nosE l = bEnd l (bEnd l 2) ∧ nosL l = M) := Lib.hid (fun h => ⟨by rw [(HLE.out h).2, HEN.out], by rw [(HLE.out h).1, hMX]⟩)
            have HOKX : Hid (nosOk l = knownB M) := Lib.hid (by rw [HOK.out, hMX])
            clear hMX HM5 HR5 HG5 HOB HOK HRW HEN HLE
            have HOK := HOKX
            generalize bEnd l (bEnd l 2) = E at HRAW ⊢
            go_wp2
            go_loopw [64] (fun iv wr => ∃ i : Nat, i ≤ M.length ∧ iv = .int .i64 i ∧ Hid (∀ j x, j < i → M[j]? = some x → fKind x ≠ 0) ∧ Hid (Below wX.heap.size wX wr) ∧ wX.heap.size ≤ wr.heap.size) (fun iv _ => M.length - (intOf iv).toNat)
            case atStart => exact ⟨0, Nat.zero_le _, rfl, Lib.hid (fun j x hj => absurd hj (by omega)), Lib.hid (Below.refl _ _), Nat.le_refl _⟩
            case round =>
              obtain ⟨i, hi', rfl, HG, HB9, hz9⟩ := hrel
              have HBW : Hid (Below w.heap.size w wr) := Lib.hid (HBX.out.trans (HB9.out.mono hzX))
              by_cases hin : i < M.length
              · obtain ⟨x, hx⟩ : ∃ x, M[i]? = some x := ⟨_, List.getElem?_eq_getElem hin⟩
                obtain ⟨b, off, hA, hbl, d0⟩ := HVX.out.at hx
                first | subst hA | (simp only [Option.some.injEq, Addr.mk.injEq, and_true] at hA; obtain ⟨rfl, rfl⟩ := hA)
                have d0 := (HB9.out.cell (p := ⟨_, _, none⟩) hbl).trans d0
                have HX := Lib.hid hx
                have g1 : (i : Int) < (M.length : Int) := by omega
                have g2 : 0 ≤ (i : Int) := by omega
                have HFK := Lib.hid (implFieldKind_any x)
                clear hx
                by_cases hk : fKind x = 0
                · have HK : Hid (nosOk l = false) := Lib.hid (by rw [HOK.out]; exact known_no HX.out hk)
                  rw [hk] at HFK
                  clear hk
                  go_wp2_with fail
                  refine (HFK.out _).mono ?_
                  rintro e w10 ⟨rfl, hb10⟩
                  have HB10 : Hid (Below w.heap.size w w10) := Lib.hid (HBW.out.trans (hb10.mono (by omega)))
                  clear hb10
                  go_wp2_with fail
                  refine (need_no 2 _).mono ?_
                  rintro e w11 ⟨rfl, rfl⟩
                  go_wp2
                  exact ⟨rfl, bmRes_no HK.out HB10.out⟩
                · have hk' : (fKind x != 0) = true := by simpa using hk
                  have HKX := Lib.hid hk
                  clear hk
                  go_wp2_with fail
                  refine (HFK.out _).mono ?_
                  rintro e w10 ⟨rfl, hb10⟩
                  have HB10 : Hid (Below wX.heap.size wX w10) := Lib.hid (HB9.out.trans (hb10.mono (by omega)))
                  have hz10 : wr.heap.size ≤ w10.heap.size := hb10.size
                  clear hb10
                  go_wp2_with fail
                  refine (need_yes 2 _).mono ?_
                  rintro e w11 ⟨rfl, rfl⟩
                  go_wp2
                  go_roundw
                  case rel => exact ⟨i + 1, by omega, by go_num, Lib.hid (fun j y hj hy => by
                    by_cases e : j = i
                    · subst e; rw [HX.out] at hy; cases hy; exact HKX.out
                    · exact HG.out j y (by omega) hy), HB10, by omega⟩
                  case measure => simp [intOf] <;> omega
              · obtain rfl : i = M.length := by omega
                have HK : Hid (nosOk l = true) := Lib.hid (by rw [HOK.out]; exact known_yes HG.out)
                have HNL := Lib.hid (HRAW.out HK.out)
                go_wp2
                go_ret2
                have hr := HVX.out.below HB9.out (Nat.le_refl _)
                refine bmRes_yes HK.out ?_ ?_ HBW.out
                · exact HNL.out.1
                · show rd .i64 wr.heap.size wr (.slice A5 M.length c5) (nosL l)
                  rw [HNL.out.2]; exact hr.mono hz9
      · have hc2' : 1 < c1 := by omega
        have HROW2 : Hid (offRow w.heap.size w2 (.slice (some ⟨g, 1, none⟩) r.length (c1 - 1)) r) := Lib.hid (HROW1.out.below HBK.out (Nat.le_refl _))
        clear HV2
        go_wp2
        go_loopw [6, 52] (fun rv iv wr => ∃ (i : Nat) (A5 : Option Addr) (c5 : Nat) (M : List Int), i ≤ S.length ∧ iv = .int .i64 i ∧ rv = .slice A5 M.length c5 ∧ Hid (M = r ++ (S.take i).map (· + 64)) ∧ M.length ≤ r.length + i ∧ Hid (offRow w.heap.size wr (.slice A5 M.length c5) M) ∧ Hid (w2.grownBy wr (some g)) ∧ Hid (∀ b, (Value.slice A5 M.length c5).ownBlock = some b → b = g ∨ w2.heap.size ≤ b) ∧ w2.heap.size ≤ wr.heap.size) (fun _ iv _ => S.length - (intOf iv).toNat)
        case atStart => exact ⟨0, _, _, r, Nat.zero_le _, rfl, rfl, Lib.hid (by simp), Nat.le_refl _, HROW2, Lib.hid ⟨rfl, rfl, rfl, Nat.le_refl _, fun _ _ _ => rfl⟩, Lib.hid (fun b hb => Or.inl (by simpa [Value.ownBlock] using hb.symm)), Nat.le_refl _⟩
        case round =>
          obtain ⟨i, A5, c5, M, hi5, rfl, rfl, HM5, hMl, HR5, HG5, HOB, hz5⟩ := hrel
          by_cases hin : i < S.length
          · obtain ⟨x, hx⟩ : ∃ x, S[i]? = some x := ⟨_, List.getElem?_eq_getElem hin⟩
            obtain ⟨b, off, hA, hbl0, hbl, d0⟩ := HU2.out.at hx
            subst hA
            have HX := Lib.hid (take_snocI hx)
            obtain ⟨hx1, hx2⟩ := HSB.out x (List.mem_of_getElem? hx)
            have d0 := (cell_keep (o := off + i) (HG5.out.block b hbl (fun e => by simp at e; omega))).trans d0
            have g1 : (i : Int) < (S.length : Int) := by omega
            have g2 : 0 ≤ (i : Int) := by omega
            clear hx
            go_wp2_with (at_builtin; refine app_off _ _ rfl (by rfl) w.heap.size _ _ M (x + 64) _ (by rfl) (by rfl) (by simp) HR5.out (by unfold maxLen; omega) (by omega) (by omega) ?_)
            intro A7 c7 w7 hrow7 hc7 hg7 hlies7
            have hz7 : wr.heap.size ≤ w7.heap.size := hg7.size
            have HR7 := Lib.hid hrow7
            have HG7 : Hid (w2.grownBy w7 (some g)) := Lib.hid (HG5.out.andThen hg7 (fun j hj => by rcases HOB.out j hj with h | h; exact Or.inr (by rw [h]); exact Or.inl h))
            have HOB7 : Hid (∀ b, (Value.slice A7 (M.length + 1) c7).ownBlock = some b → b = g ∨ w2.heap.size ≤ b) := Lib.hid (fun b hb => by
              rcases hlies7 with h | h
              · exact HOB.out b (by rw [← h]; exact hb)
              · exact Or.inr (by have := h b hb; omega))
            clear hrow7 hg7 hlies7
            go_wp2
            go_roundw
            case rel => exact ⟨i + 1, A7, c7, M ++ [x + 64], by omega, by go_num, by rw [List.length_append]; rfl, Lib.hid (by rw [HX.out, HM5.out, List.map_append, List.append_assoc]; rfl), by simp; omega, Lib.hid (by rw [List.length_append]; exact HR7.out), HG7, Lib.hid (by rw [List.length_append]; exact HOB7.out), by omega⟩
            case measure => simp [intOf] <;> omega
          · obtain rfl : i = S.length := by omega
            obtain ⟨wX, hwX⟩ : ∃ wX, wX = wr := ⟨_, rfl⟩
            subst hwX
            have hMX : M = nosRaw l := by rw [HM5.out, List.take_length, HRW.out]
            have HVX := Lib.hid HR5.out.rd
            have HBX : Hid (Below w.heap.size w wX) := Lib.hid (HB2.out.grown HG5.out (by omega) (fun j hj => by cases hj; exact hgB))
            have hzX : w.heap.size ≤ wX.heap.size := by omega
            have HRAW : Hid (nosOk l = true → nosE l = bEnd l (bEnd l 2) ∧ nosL l = M) := Lib.hid (fun h => ⟨by rw [(HLE.out h).2, HEN.out], by rw [(HLE.out h).1, hMX]⟩)
            have HOKX : Hid (nosOk l = knownB M) := Lib.hid (by rw [HOK.out, hMX])
            clear hMX HM5 HR5 HG5 HOB HOK HRW HEN HLE
            have HOK := HOKX
            generalize bEnd l (bEnd l 2) = E at HRAW ⊢
            go_wp2
            go_loopw [64] (fun iv wr => ∃ i : Nat, i ≤ M.length ∧ iv = .int .i64 i ∧ Hid (∀ j x, j < i → M[j]? = some x → fKind x ≠ 0) ∧ Hid (Below wX.heap.size wX wr) ∧ wX.heap.size ≤ wr.heap.size) (fun iv _ => M.length - (intOf iv).toNat)
            case atStart => exact ⟨0, Nat.zero_le _, rfl, Lib.hid (fun j x hj => absurd hj (by omega)), Lib.hid (Below.refl _ _), Nat.le_refl _⟩
            case round =>
              obtain ⟨i, hi', rfl, HG, HB9, hz9⟩ := hrel
              have HBW : Hid (Below w.heap.size w wr) := Lib.hid (HBX.out.trans (HB9.out.mono hzX))
              by_cases hin : i < M.length
              · obtain ⟨x, hx⟩ : ∃ x, M[i]? = some x := ⟨_, List.getElem?_eq_getElem hin⟩
                obtain ⟨b, off, hA, hbl, d0⟩ := HVX.out.at hx
                first | subst hA | (simp only [Option.some.injEq, Addr.mk.injEq, and_true] at hA; obtain ⟨rfl, rfl⟩ := hA)
                have d0 := (HB9.out.cell (p := ⟨_, _, none⟩) hbl).trans d0
                have HX := Lib.hid hx
                have g1 : (i : Int) < (M.length : Int) := by omega
                have g2 : 0 ≤ (i : Int) := by omega
                have HFK := Lib.hid (implFieldKind_any x)
                clear hx
                by_cases hk : fKind x = 0
                · have HK : Hid (nosOk l = false) := Lib.hid (by rw [HOK.out]; exact known_no HX.out hk)
                  rw [hk] at HFK
                  clear hk
                  go_wp2_with fail
                  refine (HFK.out _).mono ?_
                  rintro e w10 ⟨rfl, hb10⟩
                  have HB10 : Hid (Below w.heap.size w w10) := Lib.hid (HBW.out.trans (hb10.mono (by omega)))
                  clear hb10
                  go_wp2_with fail
                  refine (need_no 2 _).mono ?_
                  rintro e w11 ⟨rfl, rfl⟩
                  go_wp2
                  exact ⟨rfl, bmRes_no HK.out HB10.out⟩
                · have hk' : (fKind x != 0) = true := by simpa using hk
                  have HKX := Lib.hid hk
                  clear hk
                  go_wp2_with fail
                  refine (HFK.out _).mono ?_
                  rintro e w10 ⟨rfl, hb10⟩
                  have HB10 : Hid (Below wX.heap.size wX w10) := Lib.hid (HB9.out.trans (hb10.mono (by omega)))
                  have hz10 : wr.heap.size ≤ w10.heap.size := hb10.size
                  clear hb10
                  go_wp2_with fail
                  refine (need_yes 2 _).mono ?_
                  rintro e w11 ⟨rfl, rfl⟩
                  go_wp2
                  go_roundw
                  case rel => exact ⟨i + 1, by omega, by go_num, Lib.hid (fun j y hj hy => by
                    by_cases e : j = i
                    · subst e; rw [HX.out] at hy; cases hy; exact HKX.out
                    · exact HG.out j y (by omega) hy), HB10, by omega⟩
                  case measure => simp [intOf] <;> omega
              · obtain rfl : i = M.length := by omega
                have HK : Hid (nosOk l = true) := Lib.hid (by rw [HOK.out]; exact known_yes HG.out)
                have HNL := Lib.hid (HRAW.out HK.out)
                go_wp2
                go_ret2
                have hr := HVX.out.below HB9.out (Nat.le_refl _)
                refine bmRes_yes HK.out ?_ ?_ HBW.out
                · exact HNL.out.1
                · show rd .i64 wr.heap.size wr (.slice A5 M.length c5) (nosL l)
                  rw [HNL.out.2]; exact hr.mono hz9
    · have HK : Hid (nosOk l = false) := Lib.hid (by rw [HMM.out.2.2, hi2]; simp [h0])
      have hg0 : decide (0 < (bGet l (bEnd l 2)).length) = false := by rw [decide_eq_false_iff_not]; exact h0
      have HB2 := Lib.hid (HB1.out.trans (hb2.mono hz1))
      have HG0 := Lib.hid hg0
      clear hb2 hv2 hi2 h0 hg0
      go_wp2_with fail
      rw [HG0.out]
      refine (need_no 2 _).mono ?_
      rintro e w3 ⟨rfl, rfl⟩
      go_wp2
      exact ⟨rfl, bmRes_no HK.out HB2.out⟩
  · -- there is none
    have hmf : moreB (bGet l 2) = false := by simpa using hm
    have HNN := Lib.hid (HN.out hmf)
    have hlow : lowOnes (bGet l 2) = bGet l 2 := by
      cases hg : bGet l 2 with
      | nil => rfl
      | cons x r =>
        rw [hg] at hup hbd hmf
        have hh := head_more hup (fun z hz => (hbd z hz).1)
        by_cases hx : x = 1
        · rw [(hh.1 hx).1] at hmf; cases hmf
        · exact (hh.2 hx).2
    have HVX := Lib.hid HV1.out.nums.rd
    have HRAW : Hid (nosOk l = true → nosE l = bEnd l 2 ∧ nosL l = bGet l 2) := Lib.hid (fun h => ⟨by rw [(HLE.out h).2, HNN.out.2.1], by rw [(HLE.out h).1, HNN.out.1, hlow]⟩)
    have HOK : Hid (nosOk l = knownB (bGet l 2)) := Lib.hid (by rw [HNN.out.2.2, HNN.out.1, hlow])
    have HHD : Hid (∀ x r, bGet l 2 = x :: r → x ≠ 1) := Lib.hid (fun x r h e => by subst e; rw [h] at hmf; simp [moreB] at hmf)
    obtain ⟨wX, hwX⟩ : ∃ wX, wX = w1 := ⟨_, rfl⟩
    subst hwX
    have HBX := HB1
    have hzX := hz1
    clear hm hmf hup hbd HM HN HNN hlow HLE HV1 HG1 HG2
    generalize bEnd l 2 = E at HRAW ⊢
    generalize bGet l 2 = X at HVX HRAW HOK HHD hc1 hg64 ⊢
    by_cases hpos : 0 < X.length
    · obtain ⟨x, hx⟩ : ∃ x, X[0]? = some x := ⟨_, List.getElem?_eq_getElem hpos⟩
      have hx1 : (x == 1) = false := by
        cases X with
        | nil => simp at hpos
        | cons y r =>
          obtain rfl : y = x := by simpa using hx
          simpa using HHD.out y r rfl
      obtain ⟨g, off, hA, hgl, d0⟩ := HVX.out.at (j := 0) (x := x) hx
      subst hA
      simp only [Nat.add_zero] at d0
      have gpos : (0 : Int) < (X.length : Int) := by omega
      clear hx HHD
      go_wp2
      go_loopw [64] (fun iv wr => ∃ i : Nat, i ≤ X.length ∧ iv = .int .i64 i ∧ Hid (∀ j x, j < i → X[j]? = some x → fKind x ≠ 0) ∧ Hid (Below wX.heap.size wX wr) ∧ wX.heap.size ≤ wr.heap.size) (fun iv _ => X.length - (intOf iv).toNat)
      case atStart => exact ⟨0, Nat.zero_le _, rfl, Lib.hid (fun j x hj => absurd hj (by omega)), Lib.hid (Below.refl _ _), Nat.le_refl _⟩
      case round =>
        obtain ⟨i, hi', rfl, HG, HB9, hz9⟩ := hrel
        have HBW : Hid (Below w.heap.size w wr) := Lib.hid (HBX.out.trans (HB9.out.mono hzX))
        by_cases hin : i < X.length
        · obtain ⟨x, hx⟩ : ∃ x, X[i]? = some x := ⟨_, List.getElem?_eq_getElem hin⟩
          obtain ⟨b, off, hA, hbl, d0⟩ := HVX.out.at hx
          first | subst hA | (simp only [Option.some.injEq, Addr.mk.injEq, and_true] at hA; obtain ⟨rfl, rfl⟩ := hA)
          have d0 := (HB9.out.cell (p := ⟨_, _, none⟩) hbl).trans d0
          have HX := Lib.hid hx
          have g1 : (i : Int) < (X.length : Int) := by omega
          have g2 : 0 ≤ (i : Int) := by omega
          have HFK := Lib.hid (implFieldKind_any x)
          clear hx
          by_cases hk : fKind x = 0
          · have HK : Hid (nosOk l = false) := Lib.hid (by rw [HOK.out]; exact known_no HX.out hk)
            rw [hk] at HFK
            clear hk
            go_wp2_with fail
            refine (HFK.out _).mono ?_
            rintro e w10 ⟨rfl, hb10⟩
            have HB10 : Hid (Below w.heap.size w w10) := Lib.hid (HBW.out.trans (hb10.mono (by omega)))
            clear hb10
            go_wp2_with fail
            refine (need_no 2 _).mono ?_
            rintro e w11 ⟨rfl, rfl⟩
            go_wp2
            exact ⟨rfl, bmRes_no HK.out HB10.out⟩
          · have hk' : (fKind x != 0) = true := by simpa using hk
            have HKX := Lib.hid hk
            clear hk
            go_wp2_with fail
            refine (HFK.out _).mono ?_
            rintro e w10 ⟨rfl, hb10⟩
            have HB10 : Hid (Below wX.heap.size wX w10) := Lib.hid (HB9.out.trans (hb10.mono (by omega)))
            have hz10 : wr.heap.size ≤ w10.heap.size := hb10.size
            clear hb10
            go_wp2_with fail
            refine (need_yes 2 _).mono ?_
            rintro e w11 ⟨rfl, rfl⟩
            go_wp2
            go_roundw
            case rel => exact ⟨i + 1, by omega, by go_num, Lib.hid (fun j y hj hy => by
              by_cases e : j = i
              · subst e; rw [HX.out] at hy; cases hy; exact HKX.out
              · exact HG.out j y (by omega) hy), HB10, by omega⟩
            case measure => simp [intOf] <;> omega
        · obtain rfl : i = X.length := by omega
          have HK : Hid (nosOk l = true) := Lib.hid (by rw [HOK.out]; exact known_yes HG.out)
          have HNL := Lib.hid (HRAW.out HK.out)
          go_wp2
          go_ret2
          have hr := HVX.out.below HB9.out (Nat.le_refl _)
          refine bmRes_yes HK.out ?_ ?_ HBW.out
          · exact HNL.out.1
          · show rd .i64 wr.heap.size wr (.slice (some ⟨g, off, none⟩) X.length c1) (nosL l)
            rw [HNL.out.2]; exact hr.mono hz9
    · have hg0 : decide (0 < X.length) = false := by rw [decide_eq_false_iff_not]; exact hpos
      clear HHD
      go_wp2
      go_loopw [64] (fun iv wr => ∃ i : Nat, i ≤ X.length ∧ iv = .int .i64 i ∧ Hid (∀ j x, j < i → X[j]? = some x → fKind x ≠ 0) ∧ Hid (Below wX.heap.size wX wr) ∧ wX.heap.size ≤ wr.heap.size) (fun iv _ => X.length - (intOf iv).toNat)
      case atStart => exact ⟨0, Nat.zero_le _, rfl, Lib.hid (fun j x hj => absurd hj (by omega)), Lib.hid (Below.refl _ _), Nat.le_refl _⟩
      case round =>
        obtain ⟨i, hi', rfl, HG, HB9, hz9⟩ := hrel
        have HBW : Hid (Below w.heap.size w wr) := Lib.hid (HBX.out.trans (HB9.out.mono hzX))
        by_cases hin : i < X.length
        · obtain ⟨x, hx⟩ : ∃ x, X[i]? = some x := ⟨_, List.getElem?_eq_getElem hin⟩
          obtain ⟨b, off, hA, hbl, d0⟩ := HVX.out.at hx
          first | subst hA | (simp only [Option.some.injEq, Addr.mk.injEq, and_true] at hA; obtain ⟨rfl, rfl⟩ := hA)
          have d0 := (HB9.out.cell (p := ⟨_, _, none⟩) hbl).trans d0
          have HX := Lib.hid hx
          have g1 : (i : Int) < (X.length : Int) := by omega
          have g2 : 0 ≤ (i : Int) := by omega
          have HFK := Lib.hid (implFieldKind_any x)
          clear hx
          by_cases hk : fKind x = 0
          · have HK : Hid (nosOk l = false) := Lib.hid (by rw [HOK.out]; exact known_no HX.out hk)
            rw [hk] at HFK
            clear hk
            go_wp2_with fail
            refine (HFK.out _).mono ?_
            rintro e w10 ⟨rfl, hb10⟩
            have HB10 : Hid (Below w.heap.size w w10) := Lib.hid (HBW.out.trans (hb10.mono (by omega)))
            clear hb10
            go_wp2_with fail
            refine (need_no 2 _).mono ?_
            rintro e w11 ⟨rfl, rfl⟩
            go_wp2
            exact ⟨rfl, bmRes_no HK.out HB10.out⟩
          · have hk' : (fKind x != 0) = true := by simpa using hk
            have HKX := Lib.hid hk
            clear hk
            go_wp2_with fail
            refine (HFK.out _).mono ?_
            rintro e w10 ⟨rfl, hb10⟩
            have HB10 : Hid (Below wX.heap.size wX w10) := Lib.hid (HB9.out.trans (hb10.mono (by omega)))
            have hz10 : wr.heap.size ≤ w10.heap.size := hb10.size
            clear hb10
            go_wp2_with fail
            refine (need_yes 2 _).mono ?_
            rintro e w11 ⟨rfl, rfl⟩
            go_wp2
            go_roundw
            case rel => exact ⟨i + 1, by omega, by go_num, Lib.hid (fun j y hj hy => by
              by_cases e : j = i
              · subst e; rw [HX.out] at hy; cases hy; exact HKX.out
              · exact HG.out j y (by omega) hy), HB10, by omega⟩
            case measure => simp [intOf] <;> omega
        · obtain rfl : i = X.length := by omega
          have HK : Hid (nosOk l = true) := Lib.hid (by rw [HOK.out]; exact known_yes HG.out)
          have HNL := Lib.hid (HRAW.out HK.out)
          go_wp2
          go_ret2
          have hr := HVX.out.below HB9.out (Nat.le_refl _)
          refine bmRes_yes HK.out ?_ ?_ HBW.out
          · exact HNL.out.1
          · show rd .i64 wr.heap.size wr (.slice A1 X.length c1) (nosL l)
            rw [HNL.out.2]; exact hr.mono hz9
end Go.Proofs.YtiolebpoofkpmaaGreatDoor
