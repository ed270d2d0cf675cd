/- What was put is got back: digits, lengths, fields; wherever it lies. Plain facts on lists; no conditions. -/
import Derived.Test.YtiolebpoofkpmaaGreatDoorMrpGetImpl
import Derived.Test.YtiolebpoofkpmaaGreatDoorMrp14
import Derived.Test.YtiolebpoofkpmaaGreatDoorMrp8
import Derived.Test.YtiolebpoofkpmaaGreatDoorMrp7
import Derived.Test.YtiolebpoofkpmaaGreatDoorMrp16
import Derived.ArgAppend
set_option linter.unusedVariables false
set_option linter.unusedSimpArgs false
namespace Go.Proofs.YtiolebpoofkpmaaGreatDoor
open Go.ChangeShapes Go.WideShapes Go.ChangeAt Go.RowKit

set_option maxRecDepth 100000 in
theorem pairs_get (L : List Int) (n k : Nat) (h : k < n) : (pairs L n).getD k 0 = 16 * L.getD (2 * k) 0 + L.getD (2 * k + 1) 0 := by
  unfold pairs
  simp [h]
set_option maxRecDepth 100000 in
theorem bcdOk_iff (s : ByteArray) : bcdOk s = true ↔ digs s = true ∧ s.size ≤ 38 := by simp [bcdOk]
set_option maxRecDepth 100000 in
theorem raw3 (l : List Int) (a sz : Int) : rawOk 3 l a sz = (lenGot l a 2 && gOk l (lenEnd l a 2) (lenVal l a 2)) ∧ rawTxt 3 l a sz = gTxt l (lenEnd l a 2) (lenVal l a 2) ∧ rawEnd 3 l a sz = gEnd l (lenEnd l a 2) (lenVal l a 2) := ⟨rfl, rfl, rfl⟩
set_option maxRecDepth 100000 in
theorem raw4 (l : List Int) (a sz : Int) : rawOk 4 l a sz = (lenGot l a 2 && inR l (lenEnd l a 2) (lenVal l a 2)) ∧ rawTxt 4 l a sz = tPart l (lenEnd l a 2) (lenVal l a 2) ∧ rawEnd 4 l a sz = lenEnd l a 2 + lenVal l a 2 := ⟨rfl, rfl, rfl⟩
set_option maxRecDepth 100000 in
theorem raw5 (l : List Int) (a sz : Int) : rawOk 5 l a sz = (lenGot l a 3 && inR l (lenEnd l a 3) (lenVal l a 3)) ∧ rawTxt 5 l a sz = tPart l (lenEnd l a 3) (lenVal l a 3) ∧ rawEnd 5 l a sz = lenEnd l a 3 + lenVal l a 3 := ⟨rfl, rfl, rfl⟩
end Go.Proofs.YtiolebpoofkpmaaGreatDoor
set_option linter.unusedVariables false
namespace Go.Proofs.YtiolebpoofkpmaaGreatDoor
open Go.ChangeShapes Go.WideShapes Go.ChangeAt Go.RowKit

set_option maxRecDepth 100000 in
theorem cell_lt {w : World} {b o : Nat} {v : Value} (h : w.cell? ⟨b, o, none⟩ = some v) : b < w.heap.size := by
  rcases Nat.lt_or_ge b w.heap.size with h' | h'
  · exact h'
  · simp [World.cell?, Array.getElem?_eq_none h'] at h
end Go.Proofs.YtiolebpoofkpmaaGreatDoor
set_option linter.unusedVariables false
namespace Go.Proofs.YtiolebpoofkpmaaGreatDoor
open Go.ChangeShapes Go.WideShapes Go.ChangeAt Go.RowKit

set_option maxRecDepth 100000 in
theorem infoInt : (Tryz.prog.info? 3).map (fun i => (i.zero.map (·.cells), i.size, i.bytes)) = some (some #[.int .i64 0], 1, 8) := by kernel_rfl
def lows (l : List FieldD) : List Int := (l.filter fun x => decide (x.1 ≤ 64)).map (·.1)
def highs (l : List FieldD) : List Int := (l.filter fun x => decide (64 < x.1)).map (·.1 - 64)
/-- the bits of a message -/
def bitsL (l : List FieldD) : List Int := if highs l = [] then putB (lows l) else putB (lows l ++ [1]) ++ putB (highs l)
/-- the fields of a message -/
def bodyL (l : List FieldD) : List Int := l.flatMap fun x => putFL x.1 x.2
def encL (m : MsgD) : List Int := if msgOk m = true then bcd m.1 ++ bitsL m.2 ++ bodyL m.2 else []
set_option maxRecDepth 100000 in
theorem bodyL_snoc (l : List FieldD) (x : FieldD) : bodyL (l ++ [x]) = bodyL l ++ putFL x.1 x.2 := by unfold bodyL; rw [List.flatMap_append]; simp
end Go.Proofs.YtiolebpoofkpmaaGreatDoor
set_option linter.unusedVariables false
namespace Go.Proofs.YtiolebpoofkpmaaGreatDoor
open Go.ChangeShapes Go.WideShapes Go.ChangeAt Go.RowKit

set_option maxRecDepth 100000 in
theorem getB_bd (p : List Int) (n : Nat) : ∀ z ∈ getB p n, 1 ≤ z ∧ z ≤ n := by
  intro z hz
  unfold getB at hz
  obtain ⟨i, hi, rfl⟩ := List.mem_map.1 hz
  have := (List.mem_filter.1 hi).1
  simp at this
  omega
set_option maxRecDepth 100000 in
theorem bGet_bd (l : List Int) (a : Int) : ∀ z ∈ bGet l a, 1 ≤ z ∧ z ≤ 64 := by
  intro z hz
  unfold bGet at hz
  split at hz
  · exact getB_bd _ _ z hz
  · cases hz
set_option maxRecDepth 100000 in
theorem bGet_len64 (l : List Int) (a : Int) : (bGet l a).length ≤ 64 := by
  unfold bGet
  split
  · unfold getB
    rw [List.length_map]
    exact Nat.le_trans (List.length_filter_le _ _) (by simp)
  · simp
def lowOnes (l : List Int) : List Int := l.filter fun z => decide (z ≠ 1)
def moreB (l : List Int) : Bool := decide (1 ∈ l)
def nosRaw (l : List Int) : List Int := if moreB (bGet l 2) = true then lowOnes (bGet l 2) ++ (bGet l (bEnd l 2)).map (· + 64) else lowOnes (bGet l 2)
def nosEnd (l : List Int) : Int := if moreB (bGet l 2) = true then bEnd l (bEnd l 2) else bEnd l 2
def knownB (l : List Int) : Bool := l.all fun k => decide (fKind k ≠ 0)
def nosOk (l : List Int) : Bool := bIn l 2 && (!moreB (bGet l 2) || (bIn l (bEnd l 2) && decide (0 < (bGet l (bEnd l 2)).length))) && knownB (nosRaw l)
def nosL (l : List Int) : List Int := if nosOk l = true then nosRaw l else []
def nosE (l : List Int) : Int := if nosOk l = true then nosEnd l else 0
def nosRes (l : List Int) (w : World) (e : Ending) (w' : World) : Prop := ∃ v, e = .returned (.tuple #[v, .int .i64 (nosE l), .bool (nosOk l)]) ∧ nums .i64 w.heap.size w'.heap.size w' v (nosL l) ∧ Below w.heap.size w w'
set_option maxRecDepth 100000 in
theorem nosRes_no {l : List Int} {w w' : World} (h : nosOk l = false) (hb : Below w.heap.size w w') : nosRes l w (.returned (.tuple #[.slice none 0 0, .int .i64 0, .bool false])) w' := by
  refine ⟨.slice none 0 0, by simp [nosE, h], ?_, hb⟩
  have : nosL l = [] := by simp [nosL, h]
  rw [this]
  exact nums_none _ _ _ _
set_option maxRecDepth 100000 in
theorem take_snocI {l : List Int} {i : Nat} {x : Int} (h : l[i]? = some x) : l.take (i + 1) = l.take i ++ [x] := by
  obtain ⟨hi, rfl⟩ := List.getElem?_eq_some_iff.1 h
  rw [List.take_succ_eq_append_getElem hi]
set_option maxRecDepth 100000 in
theorem low_snoc (l : List Int) (x : Int) : lowOnes (l ++ [x]) = if x = 1 then lowOnes l else lowOnes l ++ [x] := by
  unfold lowOnes
  rw [List.filter_append]
  by_cases h : x = 1 <;> simp [h]
set_option maxRecDepth 100000 in
theorem more_snoc (l : List Int) (x : Int) : moreB (l ++ [x]) = if x = 1 then true else moreB l := by
  unfold moreB
  by_cases h : x = 1
  · simp [h]
  · have h' : ¬ (1 : Int) = x := fun e => h e.symm
    simp [h, h']
set_option maxRecDepth 100000 in
theorem known_no {l : List Int} {j : Nat} {x : Int} (hx : l[j]? = some x) (h : fKind x = 0) : knownB l = false := by
  unfold knownB; rw [List.all_eq_false]; exact ⟨x, List.mem_of_getElem? hx, by simp [h]⟩
set_option maxRecDepth 100000 in
theorem known_yes {l : List Int} (h : ∀ j x, j < l.length → l[j]? = some x → fKind x ≠ 0) : knownB l = true := by
  unfold knownB; rw [List.all_eq_true]; intro x hx
  obtain ⟨j, hj⟩ := List.mem_iff_getElem?.1 hx
  simpa using h j x (List.getElem?_eq_some_iff.1 hj).1 hj
set_option maxRecDepth 100000 in
set_option maxHeartbeats 16000000 in
theorem specNos_any (hi : Nat) (v : Value) (l : List Int) (w : World) (hn : l.length ≤ 1073741824) (hl : isBytes l) (h : rd .u8 hi w v l) (hhi : hi ≤ w.heap.size) :
    Calls Tryz.prog 19 #[v] w (nosRes l w) := by
  have H := Lib.hid h
  have HG1 := Lib.hid (specGetBits_any hi v l 2 w hn (by decide) hl h hhi)
  have HG2 := Lib.hid (fun (W : World) (hW : Below w.heap.size w W) => specGetBits_any hi v l (bEnd l 2) W hn (by unfold bEnd; split <;> omega) hl (h.below hW hhi) (Nat.le_trans hhi hW.size))
  clear h
  cases hi1 : bIn l 2
  · have HK : Hid (nosOk l = false) := Lib.hid (by simp [nosOk, hi1])
    have HI := Lib.hid hi1
    clear hi1
    go_enter Tryz.func19, Tryz.ntmps19
    go_wp2_with fail
    refine HG1.out.mono ?_
    rintro e w1 ⟨v1, rfl, hv1, hb1⟩
    rw [HI.out]
    have HB1 := Lib.hid hb1
    clear hb1 hv1
    go_wp2
    go_ret3
    exact nosRes_no HK.out HB1.out
  have HI := Lib.hid hi1
  have hlb := bGet_len64 l 2
  have HLB := Lib.hid (bGet_bd l 2)
  have HM : Hid (moreB (bGet l 2) = true → nosRaw l = lowOnes (bGet l 2) ++ (bGet l (bEnd l 2)).map (· + 64) ∧ nosEnd l = bEnd l (bEnd l 2) ∧ nosOk l = ((bIn l (bEnd l 2) && decide (0 < (bGet l (bEnd l 2)).length)) && knownB (nosRaw l))) := Lib.hid (fun h => by simp [nosRaw, nosEnd, nosOk, h, hi1])
  have HN : Hid (moreB (bGet l 2) = false → nosRaw l = lowOnes (bGet l 2) ∧ nosEnd l = bEnd l 2 ∧ nosOk l = knownB (nosRaw l)) := Lib.hid (fun h => by simp [nosRaw, nosEnd, nosOk, h, hi1])
  clear hi1
  go_enter Tryz.func19, Tryz.ntmps19
  go_wp2_with fail
  refine HG1.out.mono ?_
  rintro e w1 ⟨v1, rfl, hv1, hb1⟩
  rw [HI.out]
  generalize hLL : bGet l 2 = LL at hv1 hlb HLB HM HN
  have HLLe := Lib.hid hLL
  clear hLL
  generalize hE : bEnd l 2 = en at HG2 HM HN ⊢
  have HEe := Lib.hid hE
  clear hE
  obtain ⟨A1, c1, rfl, hc1⟩ := hv1.form
  have HV := Lib.hid hv1.rd
  have HB1 := Lib.hid hb1
  have hz1 : w.heap.size ≤ w1.heap.size := hb1.size
  clear hv1 hb1
  go_wp2
  go_loopw [8, 9, 30] (fun ov mv iv wr => ∃ (i : Nat) (A2 : Option Addr) (c2 : Nat) (X : List Int) (mo : Bool), i ≤ LL.length ∧ iv = .int .i64 i ∧ ov = .slice A2 X.length c2 ∧ mv = .bool mo ∧ Hid (X = lowOnes (LL.take i) ∧ mo = moreB (LL.take i)) ∧ X.length ≤ i ∧ Hid (owE 3 1 iCells w1.heap.size wr (.slice A2 X.length c2) X) ∧ Hid (Below w1.heap.size w1 wr) ∧ w1.heap.size ≤ wr.heap.size) (fun _ _ iv _ => LL.length - (intOf iv).toNat)
  case atStart => exact ⟨0, _, 0, [], false, Nat.zero_le _, rfl, rfl, rfl, Lib.hid ⟨rfl, rfl⟩, Nat.le_refl _, Lib.hid (owE_empty _ 1 _ iCells w1 (Nat.le_refl _)), Lib.hid ((Below.refl _ _).alloc (Nat.le_refl _) _), by simp⟩
  case round =>
    obtain ⟨i, A2, c2, X, mo, hi', rfl, rfl, rfl, HX, hXl, HO, HW, hz⟩ := hrel
    by_cases hin : i < LL.length
    · obtain ⟨x, hx⟩ : ∃ x, LL[i]? = some x := ⟨_, List.getElem?_eq_getElem hin⟩
      obtain ⟨b, off, rfl, hbl, c0⟩ := (HV.out.below HW.out (Nat.le_refl _)).at hx
      have HS := Lib.hid (take_snocI hx)
      have g1 : (i : Int) < (LL.length : Int) := by omega
      have g2 : 0 ≤ (i : Int) := by omega
      clear hx
      by_cases h1 : x = 1
      · subst h1
        go_wp2
        go_roundw
        case rel => exact ⟨i + 1, A2, c2, X, true, by omega, by go_num, rfl, rfl, Lib.hid ⟨by rw [HS.out, low_snoc, if_pos rfl]; exact HX.out.1, by rw [HS.out, more_snoc, if_pos rfl]⟩, by omega, HO, HW, hz⟩
        case measure => simp [intOf] <;> omega
      · have h1' : (x == 1) = false := by simpa using h1
        have HN1 := Lib.hid h1
        clear h1
        go_wp2_with (at_builtin; refine app_elem iCells 1 (fun _ => rfl) (by decide) iCells_one 44 3 #[.int .i64 0] 8 Tryz.underlying44 infoInt rfl _ _ rfl (by rfl) w1.heap.size _ _ X x _ _ (by rfl) (by rfl) (by rfl) (by simp) (HO.out) (by unfold maxLen; omega) (by omega) (by first | omega | (simp; omega)) ?_)
        intro A3 c3 w3 hown3 hc3 hg3 _
        have hz3 : wr.heap.size + 1 ≤ w3.heap.size := by have := hg3.size; simpa using this
        have HB3 : Hid (Below w1.heap.size w1 w3) := Lib.hid ((HW.out.alloc (by omega) _).grown hg3 (by simp; omega) (fun g hg' => (HO.out.lt g hg').1))
        have HO3 := Lib.hid hown3
        clear hown3 hg3
        go_wp2
        go_roundw
        case rel => exact ⟨i + 1, A3, c3, X ++ [x], mo, by omega, by go_num, by rw [List.length_append]; rfl, rfl, Lib.hid ⟨by rw [HS.out, low_snoc, if_neg HN1.out, ← HX.out.1], by rw [HS.out, more_snoc, if_neg HN1.out]; exact HX.out.2⟩, by rw [List.length_append]; simp; omega, Lib.hid (by rw [List.length_append]; exact HO3.out), HB3, by omega⟩
        case measure => simp [intOf] <;> omega
    · obtain rfl : i = LL.length := by omega
      have HXX : Hid (X = lowOnes LL ∧ mo = moreB LL) := Lib.hid (by have := HX.out; rwa [List.take_length] at this)
      clear HX
      cases mo
      · have hmf : moreB LL = false := HXX.out.2.symm
        obtain ⟨k1, k2, k3⟩ := HN.out hmf
        have HR : Hid (nosRaw l = X ∧ nosEnd l = en ∧ nosOk l = knownB X) := Lib.hid ⟨by rw [k1, HXX.out.1], k2, by rw [k3, k1, HXX.out.1]⟩
        have HF := Lib.hid (HB1.out.trans (HW.out.mono hz1))
        have HXR := Lib.hid (HO.out.ints.nums)
        clear k1 k2 k3 hmf
        go_wp2
        go_loop [71] (fun iv => ∃ k : Nat, k ≤ X.length ∧ iv = .int .i64 k ∧ Hid (∀ j x, j < k → X[j]? = some x → fKind x ≠ 0)) (fun iv => X.length - (intOf iv).toNat)
        case atStart => exact ⟨0, Nat.zero_le _, rfl, Lib.hid (fun j x hj => absurd hj (by omega))⟩
        case round =>
          obtain ⟨k, hk, rfl, HKN⟩ := hrel
          by_cases hin : k < X.length
          · obtain ⟨x, hx⟩ : ∃ x, X[k]? = some x := ⟨_, List.getElem?_eq_getElem hin⟩
            obtain ⟨b, off, hA, hbl, c0⟩ := HXR.out.rd.at hx
            subst hA
            have HX1 := Lib.hid hx
            have g1 : (k : Int) < (X.length : Int) := by omega
            have g2 : 0 ≤ (k : Int) := by omega
            clear hx
            by_cases h0 : fKind x = 0
            · have HK : Hid (nosOk l = false) := Lib.hid (by rw [HR.out.2.2]; exact known_no HX1.out h0)
              have HC := Lib.hid (specFieldKind_any x)
              rw [h0] at HC
              clear h0
              go_wp2_with fail
              refine (HC.out _).mono ?_
              rintro e w9 ⟨rfl, rfl⟩
              go_wp2
              go_ret3
              exact nosRes_no HK.out HF.out
            · have HC := Lib.hid (specFieldKind_any x)
              have HNZ := Lib.hid h0
              generalize fKind x = kx at HC h0
              have h0' : (kx == 0) = false := by simpa using h0
              clear h0
              go_wp2_with fail
              refine (HC.out _).mono ?_
              rintro e w9 ⟨rfl, rfl⟩
              go_wp2
              go_round
              case rel => exact ⟨k + 1, by omega, by go_num, Lib.hid (fun j y hj hy => by
                by_cases e : j = k
                · subst e
                  have := HX1.out.symm.trans hy
                  cases this
                  exact HNZ.out
                · exact HKN.out j y (by omega) hy)⟩
              case measure => simp [intOf] <;> omega
          · obtain rfl : k = X.length := by omega
            have HK : Hid (nosOk l = true) := Lib.hid (by rw [HR.out.2.2]; exact known_yes HKN.out)
            go_wp2
            go_ret3
            refine ⟨(.slice A2 X.length c2), ?_, ?_, HF.out⟩
            · show Ending.returned (.tuple #[(.slice A2 X.length c2), .int .i64 en, .bool true]) = _
              unfold nosE
              rw [HK.out, if_pos rfl, HR.out.2.1]
            · unfold nosL
              rw [if_pos HK.out, HR.out.1]
              exact HXR.out.mono hz1 (Nat.le_refl _)
      · have hmt : moreB LL = true := HXX.out.2.symm
        obtain ⟨k1, k2, k3⟩ := HM.out hmt
        have HK1 : Hid (nosRaw l = X ++ (bGet l en).map (· + 64) ∧ nosEnd l = bEnd l en ∧ nosOk l = ((bIn l en && decide (0 < (bGet l en).length)) && knownB (nosRaw l))) := Lib.hid ⟨by rw [k1, HXX.out.1], k2, k3⟩
        clear k1 k2 k3 hmt
        have HF := Lib.hid (HB1.out.trans (HW.out.mono hz1))
        go_wp2_with fail
        refine (HG2.out _ HF.out).mono ?_
        rintro e w4 ⟨v4, rfl, hv4, hb4⟩
        have hz4 : wr.heap.size ≤ w4.heap.size := hb4.size
        have hl4 := bGet_len64 l en
        have HL4 := Lib.hid (bGet_bd l en)
        have HF4 : Hid (Below w.heap.size w w4) := Lib.hid (HF.out.trans (hb4.mono (by omega)))
        have HO4 := Lib.hid (HO.out.below hb4 (Nat.le_refl _))
        have HW4 : Hid (Below w1.heap.size w1 w4) := Lib.hid (HW.out.trans (hb4.mono (by omega)))
        generalize hHH : bGet l en = HH at hv4 hl4 HL4 HK1
        have HHe := Lib.hid hHH
        clear hHH
        generalize hE2 : bEnd l en = en2 at HK1 ⊢
        have HE2 := Lib.hid hE2
        clear hE2
        obtain ⟨A4, c4, rfl, hc4⟩ := hv4.form
        obtain ⟨n0, hn0⟩ : ∃ n0, wr.heap.size = n0 := ⟨_, rfl⟩
        rw [hn0] at hv4
        have HV4 := Lib.hid hv4
        have HX0 : Hid (∀ g, (Value.slice A2 X.length c2).ownBlock = some g → g < n0) := Lib.hid (fun g hg' => hn0 ▸ (HO.out.lt g hg').2)
        clear hv4 hb4 hn0
        generalize hb2 : bIn l en = bi at HK1 ⊢
        cases bi
        · have HK : Hid (nosOk l = false) := Lib.hid (by rw [HK1.out.2.2]; rfl)
          clear hb2
          go_wp2
          go_ret3
          exact nosRes_no HK.out HF4.out
        · clear hb2
          by_cases h0 : HH.length = 0
          · have HK : Hid (nosOk l = false) := Lib.hid (by rw [HK1.out.2.2, h0]; rfl)
            obtain rfl : HH = [] := List.eq_nil_of_length_eq_zero h0
            clear h0
            go_wp2
            go_ret3
            exact nosRes_no HK.out HF4.out
          · have h0' : (0 : Int) < (HH.length : Int) := by omega
            have h0'' : ((HH.length : Int) == 0) = false := by rw [beq_eq_false_iff_ne]; omega
            have HK2 : Hid (nosOk l = knownB (nosRaw l)) := Lib.hid (by rw [HK1.out.2.2, decide_eq_true (show 0 < HH.length by omega)]; rfl)
            have hz14 : w1.heap.size ≤ w4.heap.size := by omega
            clear HW HF HO hz
            go_wp2
            go_loopw [8, 58] (fun ov iv wr => ∃ (i : Nat) (A5 : Option Addr) (c5 : Nat) (Y : List Int), i ≤ HH.length ∧ iv = .int .i64 i ∧ ov = .slice A5 Y.length c5 ∧ Hid (Y = X ++ (HH.take i).map (· + 64)) ∧ Y.length ≤ 64 + i ∧ Hid (owE 3 1 iCells w1.heap.size wr (.slice A5 Y.length c5) Y) ∧ Hid (Below w1.heap.size w1 wr) ∧ w4.heap.size ≤ wr.heap.size ∧ Hid (nums .i64 n0 w4.heap.size wr (.slice A4 HH.length c4) HH) ∧ Hid (∀ g, (Value.slice A5 Y.length c5).ownBlock = some g → g < n0 ∨ w4.heap.size ≤ g)) (fun _ iv _ => HH.length - (intOf iv).toNat)
            case atStart => exact ⟨0, _, _, X, Nat.zero_le _, rfl, rfl, Lib.hid (by simp), by omega, HO4, HW4, Nat.le_refl _, HV4, Lib.hid (fun g hg' => .inl (HX0.out g hg'))⟩
            case round =>
              obtain ⟨i, A5, c5, Y, hi', rfl, rfl, HY, hYl, HO5, HW5, hz5, HV5, HAP⟩ := hrel
              by_cases hin : i < HH.length
              · obtain ⟨x, hx⟩ : ∃ x, HH[i]? = some x := ⟨_, List.getElem?_eq_getElem hin⟩
                obtain ⟨b, off, hA, hbl, c0⟩ := HV5.out.rd.at hx
                subst hA
                obtain ⟨hx1, hx2⟩ := HL4.out x (List.mem_of_getElem? hx)
                have HS := Lib.hid (take_snocI hx)
                have g1 : (i : Int) < (HH.length : Int) := by omega
                have g2 : 0 ≤ (i : Int) := by omega
                clear hx
                go_wp2_with (at_builtin; refine app_elem iCells 1 (fun _ => rfl) (by decide) iCells_one 44 3 #[.int .i64 0] 8 Tryz.underlying44 infoInt rfl _ _ rfl (by rfl) w1.heap.size _ _ Y (x + 64) _ _ (by rfl) (by rfl) (by rfl) (by simp) (HO5.out) (by unfold maxLen; omega) (by omega) (by first | omega | (simp; omega)) ?_)
                intro A6 c6 w6 hown6 hc6 hg6 hlies
                have hz6 : wr.heap.size + 1 ≤ w6.heap.size := by have := hg6.size; simpa using this
                have HB6 : Hid (Below w1.heap.size w1 w6) := Lib.hid ((HW5.out.alloc (by omega) _).grown hg6 (by simp; omega) (fun g hg' => (HO5.out.lt g hg').1))
                have HV6 : Hid (nums .i64 n0 w4.heap.size w6 (.slice (some ⟨b, off, none⟩) HH.length c4) HH) := Lib.hid ((HV5.out.below ((Below.refl _ _).alloc (Nat.le_refl _) _) hz5).grown hg6 (by simp; omega) (fun k hk => HAP.out k hk))
                have HAP6 : Hid (∀ g, (Value.slice A6 (Y.length + 1) c6).ownBlock = some g → g < n0 ∨ w4.heap.size ≤ g) := Lib.hid (fun g hg' => by
                  rcases hlies with h | h
                  · exact HAP.out g (h ▸ hg')
                  · rw [h] at hg'; cases hg'; exact .inr (by omega))
                have HO6 := Lib.hid hown6
                clear hown6 hg6 hlies
                go_wp2
                go_roundw
                case rel => exact ⟨i + 1, A6, c6, Y ++ [x + 64], by omega, by go_num, by rw [List.length_append]; rfl, Lib.hid (by rw [HS.out, HY.out, List.map_append, List.append_assoc]; rfl), by rw [List.length_append]; simp; omega, Lib.hid (by rw [List.length_append]; exact HO6.out), HB6, by omega, HV6, Lib.hid (by rw [List.length_append]; exact HAP6.out)⟩
                case measure => simp [intOf] <;> omega
              · obtain rfl : i = HH.length := by omega
                have HYY : Hid (Y = X ++ HH.map (· + 64)) := Lib.hid (by have := HY.out; rwa [List.take_length] at this)
                have HR : Hid (nosRaw l = Y ∧ nosEnd l = en2 ∧ nosOk l = knownB Y) := Lib.hid ⟨by rw [HK1.out.1, HYY.out], HK1.out.2.1, by rw [HK2.out, HK1.out.1, HYY.out]⟩
                have HF := Lib.hid (HB1.out.trans (HW5.out.mono hz1))
                have HXR := Lib.hid (HO5.out.ints.nums)
                go_wp2
                go_loop [71] (fun iv => ∃ k : Nat, k ≤ Y.length ∧ iv = .int .i64 k ∧ Hid (∀ j x, j < k → Y[j]? = some x → fKind x ≠ 0)) (fun iv => Y.length - (intOf iv).toNat)
                case atStart => exact ⟨0, Nat.zero_le _, rfl, Lib.hid (fun j x hj => absurd hj (by omega))⟩
                case round =>
                  obtain ⟨k, hk, rfl, HKN⟩ := hrel
                  by_cases hin : k < Y.length
                  · obtain ⟨x, hx⟩ : ∃ x, Y[k]? = some x := ⟨_, List.getElem?_eq_getElem hin⟩
                    obtain ⟨b, off, hA, hbl, c0⟩ := HXR.out.rd.at hx
                    subst hA
                    have HX1 := Lib.hid hx
                    have g1 : (k : Int) < (Y.length : Int) := by omega
                    have g2 : 0 ≤ (k : Int) := by omega
                    clear hx
                    by_cases h0 : fKind x = 0
                    · have HK : Hid (nosOk l = false) := Lib.hid (by rw [HR.out.2.2]; exact known_no HX1.out h0)
                      have HC := Lib.hid (specFieldKind_any x)
                      rw [h0] at HC
                      clear h0
                      go_wp2_with fail
                      refine (HC.out _).mono ?_
                      rintro e w9 ⟨rfl, rfl⟩
                      go_wp2
                      go_ret3
                      exact nosRes_no HK.out HF.out
                    · have HC := Lib.hid (specFieldKind_any x)
                      have HNZ := Lib.hid h0
                      generalize fKind x = kx at HC h0
                      have h0' : (kx == 0) = false := by simpa using h0
                      clear h0
                      go_wp2_with fail
                      refine (HC.out _).mono ?_
                      rintro e w9 ⟨rfl, rfl⟩
                      go_wp2
                      go_round
                      case rel => exact ⟨k + 1, by omega, by go_num, Lib.hid (fun j y hj hy => by
                        by_cases e : j = k
                        · subst e
                          have := HX1.out.symm.trans hy
                          cases this
                          exact HNZ.out
                        · exact HKN.out j y (by omega) hy)⟩
                      case measure => simp [intOf] <;> omega
                  · obtain rfl : k = Y.length := by omega
                    have HK : Hid (nosOk l = true) := Lib.hid (by rw [HR.out.2.2]; exact known_yes HKN.out)
                    go_wp2
                    go_ret3
                    refine ⟨(.slice A5 Y.length c5), ?_, ?_, HF.out⟩
                    · show Ending.returned (.tuple #[(.slice A5 Y.length c5), .int .i64 en2, .bool true]) = _
                      unfold nosE
                      rw [HK.out, if_pos rfl, HR.out.2.1]
                    · unfold nosL
                      rw [if_pos HK.out, HR.out.1]
                      exact HXR.out.mono hz1 (Nat.le_refl _)
end Go.Proofs.YtiolebpoofkpmaaGreatDoor
set_option linter.unusedVariables false
namespace Go.Proofs.YtiolebpoofkpmaaGreatDoor
open Go.ChangeShapes Go.WideShapes Go.ChangeAt Go.RowKit

/-- numbers in cells of one's own, from some cell on; the spare cells may be written -/
def offRow (B : Nat) (w : World) (v : Value) (l : List Int) : Prop := ∃ g off cap, v = .slice (some ⟨g, off, none⟩) l.length cap ∧ l.length ≤ cap ∧ cap ≤ maxLen ∧ B ≤ g ∧ g < w.heap.size ∧ (∀ j x, l[j]? = some x → w.cell? ⟨g, off + j, none⟩ = some (.int .i64 x)) ∧ ∀ j, j < cap → (w.cell? ⟨g, off + j, none⟩).isSome = true ∧ w.frozen? ⟨g, off + j, none⟩ = false
set_option maxRecDepth 100000 in
theorem offRow.form {B : Nat} {w : World} {v : Value} {l : List Int} (h : offRow B w v l) : ∃ A c, v = .slice A l.length c ∧ l.length ≤ c := by
  obtain ⟨g, off, cap, hv, h1, -⟩ := h
  exact ⟨_, cap, hv, h1⟩
set_option maxRecDepth 100000 in
theorem offRow.below {B C : Nat} {w w' : World} {v : Value} {l : List Int} (h : offRow B w v l) (hb : Below C w w') (hC : w.heap.size ≤ C) : offRow B w' v l := by
  obtain ⟨g, off, cap, hv, h1, h2, h3, h4, h5, h6⟩ := h
  have hk := hb.block g (by omega)
  exact ⟨g, off, cap, hv, h1, h2, h3, Nat.lt_of_lt_of_le h4 hb.size, fun j x hx => (cell_keep hk).trans (h5 j x hx), fun j hj => ⟨by rw [cell_keep hk]; exact (h6 j hj).1, by rw [frozen_keep hk]; exact (h6 j hj).2⟩⟩
set_option maxRecDepth 100000 in
theorem offRow.rd {B : Nat} {w : World} {v : Value} {l : List Int} (h : offRow B w v l) : Proofs.YtiolebpoofkpmaaGreatDoor.rd .i64 w.heap.size w v l := by
  obtain ⟨g, off, cap, hv, h1, h2, h3, h4, h5, h6⟩ := h
  refine ⟨_, cap, hv, h1, fun j hj => ⟨g, off, rfl, h4, ?_⟩⟩
  rw [h5 j _ (List.getElem?_eq_getElem hj), List.getD_eq_getElem?_getD, List.getElem?_eq_getElem hj]; rfl
set_option maxRecDepth 100000 in
theorem row_cells {w : World} {g cap : Nat} {cur : Array Value} {e : TypeId} (hg : w.heap[g]? = some (.cells cur e (0, 0))) (hs : cur.size = cap * 1) (j : Nat) (hj : j < cap) : (w.cell? ⟨g, j, none⟩).isSome = true ∧ w.frozen? ⟨g, j, none⟩ = false := by
  refine ⟨?_, by unfold World.frozen?; rw [hg]; simp⟩
  rw [cell_of_row _ _ j cur e (0, 0) hg, Array.getElem?_eq_getElem (by omega)]; rfl
set_option maxRecDepth 100000 in
theorem offRow_of_ow {B : Nat} {w : World} {v : Value} {l : List Int} (h : ow 3 .i64 B w v l) (hpos : 0 < l.length) : offRow B w v l := by
  have hh : w.ownsRow B 3 1 v l.length (l.map (Value.int .i64)) := h
  rcases h.2 with ⟨_, h0⟩ | ⟨g, cap, cur, rfl, hB, hg, h1, h2, h3, h4⟩
  · omega
  · refine ⟨g, 0, cap, rfl, h1, h2, hB, (Array.getElem?_eq_some_iff.1 hg).1, fun j x hx => ?_, fun j hj => ?_⟩
    · rw [Nat.zero_add, hh.cellAt j (by rw [Nat.mul_one]; exact (List.getElem?_eq_some_iff.1 hx).1), List.getElem?_map, hx]; rfl
    · rw [Nat.zero_add]; exact row_cells hg h3 j hj
set_option maxRecDepth 100000 in
/-- all but the first -/
theorem offRow_tail {B c : Nat} {w : World} {A : Option Addr} {x : Int} {r : List Int} (h : ow 3 .i64 B w (.slice A (x :: r).length c) (x :: r)) : ∃ g, A = some ⟨g, 0, none⟩ ∧ offRow B w (.slice (some ⟨g, 1, none⟩) r.length (c - 1)) r := by
  have hh : w.ownsRow B 3 1 (.slice A (x :: r).length c) (x :: r).length ((x :: r).map (Value.int .i64)) := h
  rcases h.2 with ⟨_, h0⟩ | ⟨g, cap, cur, hv, hB, hg, h1, h2, h3, h4⟩
  · simp at h0
  · simp only [Value.slice.injEq] at hv
    obtain ⟨rfl, -, rfl⟩ := hv
    simp only [List.length_cons] at h1
    refine ⟨g, rfl, g, 1, c - 1, rfl, by omega, by omega, hB, (Array.getElem?_eq_some_iff.1 hg).1, fun j y hy => ?_, fun j hj => ?_⟩
    · have hj := (List.getElem?_eq_some_iff.1 hy).1
      rw [Nat.add_comm 1 j, hh.cellAt (j + 1) (by simp; omega), List.getElem?_map]
      simp [hy]
    · rw [Nat.add_comm 1 j]; exact row_cells hg h3 (j + 1) (by omega)
set_option maxRecDepth 100000 in
/-- append of one number -/
theorem app_off {ops : Array Oper} {rest : List Oper} {o : Oper} {a : Act} {Q : Exit → Act → World → Prop} (s x : Operand) (hgd : o.guard = none) (ho : o.op = .call { callee := .builtin .append, args := #[s, x], argTypes := #[44, 44] })
    (B : Nat) (W : World) (v : Value) (l : List Int) (y : Int) (n : Nat) (hs : a.eval s = v) (hx : a.eval x = .slice (some ⟨n, 0, none⟩) 1 1) (hn : n = W.heap.size)
    (hrow : offRow B W v l) (h63 : l.length + 1 ≤ maxLen) (hbytes : (l.length + 1) * 8 ≤ 140737488355328) (hB : B ≤ W.heap.size)
    (h : ∀ A c w', offRow B w' (.slice A (l.length + 1) c) (l ++ [y]) → l.length + 1 ≤ c → W.grownBy w' v.ownBlock → ((Value.slice A (l.length + 1) c).ownBlock = v.ownBlock ∨ ∀ b, (Value.slice A (l.length + 1) c).ownBlock = some b → W.heap.size ≤ b) → wpList Tryz.prog ops Q rest (a.put o.dst (.slice A (l.length + 1) c)) w') : wpList Tryz.prog ops Q (o :: rest) a (W.alloc (.cells #[.int .i64 y] 3)) := by
  subst hn
  obtain ⟨i, hi, hxx⟩ := Option.map_eq_some_iff.1 infoInt
  simp only [Prod.mk.injEq] at hxx
  obtain ⟨hz, hsize, hby⟩ := hxx
  obtain ⟨z, hzz, hzc⟩ := Option.map_eq_some_iff.1 hz
  have hrow' := hrow.below ((Below.refl W.heap.size W).alloc (Nat.le_refl _) (.cells #[.int .i64 y] 3)) (Nat.le_refl _)
  obtain ⟨g, off, cap, rfl, h1, h2, h3, h4, h5, h6⟩ := hrow'
  refine wpList_append_arg _ hgd s x 44 ho 3 i z 1 8 Tryz.underlying44 hi hzz hsize hby (by rw [hzc]; rfl) (by decide) g off l.length cap (l.map (Value.int .i64)) hs (by simp) (fun j u hu => ?_) ⟨W.heap.size, 0, none⟩ 1 1 [.int .i64 y] hx rfl (cell_one_new _ _ _) (by simp [Value.oneCell']) (fun hr j hj => ?_) h63 hbytes (fun hr => ?_) (fun hr v' w' hown hg => ?_)
  · rw [List.getElem?_map] at hu
    obtain ⟨x, hx, rfl⟩ := Option.map_eq_some_iff.1 hu
    exact h5 j x hx
  · have hj0 : j = 0 := by simpa using hj
    subst hj0
    have := h6 l.length (by omega)
    simpa [Nat.mul_one] using this
  · have hc := h6 l.length (by omega)
    obtain ⟨u, hu⟩ := Option.isSome_iff_exists.1 hc.1
    refine h (some ⟨g, off, none⟩) cap _ ⟨g, off, cap, by rw [List.length_append]; rfl, by simp; omega, h2, h3, by simpa [World.setCells, World.setCell] using h4, fun j z hz => ?_, fun j hj => ?_⟩ (by omega) ?_ (.inl rfl)
    · show ((W.alloc _).setCell ⟨g, off + l.length * 1, none⟩ (.int .i64 y)).cell? _ = _
      rw [Nat.mul_one]
      by_cases e : j = l.length
      · subst e
        obtain rfl : y = z := by simpa using hz
        exact World.cell?_setCell_same _ _ _ hu
      · have hj := (List.getElem?_eq_some_iff.1 hz).1
        rw [List.length_append, List.length_singleton] at hj
        rw [List.getElem?_append_left (by omega)] at hz
        exact (World.cell?_setCell_other _ _ _ _ (fun he => by have := congrArg Addr.off he; simp at this; omega)).trans (h5 j z hz)
    · show (((W.alloc _).setCell ⟨g, off + l.length * 1, none⟩ (.int .i64 y)).cell? _).isSome = true ∧ _
      rw [Nat.mul_one]
      refine ⟨?_, by simpa [World.setCells] using (h6 j hj).2⟩
      by_cases e : j = l.length
      · subst e; rw [World.cell?_setCell_same _ _ _ hu]; rfl
      · rw [World.cell?_setCell_other _ _ _ _ (fun he => by have := congrArg Addr.off he; simp at this; omega)]; exact (h6 j hj).1
    · exact ⟨rfl, rfl, rfl, by simp [World.setCells, World.setCell], fun k hk hne => (Below.heap_setCell _ _ _ _ (show k ≠ g from fun e => hne (by rw [e]; rfl))).trans (Below.heap_alloc W _ k hk)⟩
  · have hw : ow 3 .i64 B w' v' (l ++ [y]) := by
      unfold ow
      rw [List.length_append, List.map_append]
      exact World.ownsRow.mono hown (by simp; omega)
    have hnew : ∀ b, v'.ownBlock = some b → W.heap.size ≤ b := fun b hb => by have := (World.ownsRow.lt hown b hb).1; simp at this; omega
    have hr' := offRow_of_ow hw (by simp)
    obtain ⟨A, c, hv, hc⟩ := hr'.form
    rw [List.length_append] at hv hc
    subst hv
    exact h A c w' hr' hc ⟨hg.os, hg.tape, hg.output, by have := hg.size; simp at this; omega, fun k hk _ => (hg.block k (by simp; omega) (by simp)).trans (Below.heap_alloc W _ k hk)⟩ (.inr hnew)
set_option maxRecDepth 100000 in
/-- an empty row may be told to lie anywhere in its block -/
theorem offRow.at0 {B g o n : Nat} {w : World} {l : List Int} (h : offRow B w (.slice (some ⟨g, o, none⟩) n 0) l) : offRow B w (.slice (some ⟨g, 0, none⟩) n 0) l := by
  obtain ⟨g', off, cap, hv, h1, h2, h3, h4, h5, h6⟩ := h
  simp only [Value.slice.injEq, Option.some.injEq, Addr.mk.injEq, and_true] at hv
  obtain ⟨⟨rfl, rfl⟩, rfl, rfl⟩ := hv
  exact ⟨g, 0, 0, rfl, h1, h2, h3, h4, fun j x hx => absurd (List.getElem?_eq_some_iff.1 hx).1 (by omega), fun j hj => absurd hj (by omega)⟩
set_option maxRecDepth 100000 in
theorem nums.at {K : IntKind} {lo hi : Nat} {w : World} {A : Option Addr} {n c : Nat} {l : List Int} (h : nums K lo hi w (.slice A n c) l) {j : Nat} {x : Int} (hx : l[j]? = some x) : ∃ b off : Nat, A = some ⟨b, off, none⟩ ∧ lo ≤ b ∧ b < hi ∧ w.cell? ⟨b, off + j, none⟩ = some (.int K x) := by
  obtain ⟨A', c', hv, hc, hj⟩ := h
  obtain ⟨b, off, e, h1, hb, hcell, -⟩ := hj j (List.getElem?_eq_some_iff.1 hx).1
  simp only [Value.slice.injEq] at hv
  rw [List.getD_eq_getElem?_getD, hx] at hcell
  exact ⟨b, off, by rw [hv.1]; exact e, h1, hb, hcell⟩
end Go.Proofs.YtiolebpoofkpmaaGreatDoor
