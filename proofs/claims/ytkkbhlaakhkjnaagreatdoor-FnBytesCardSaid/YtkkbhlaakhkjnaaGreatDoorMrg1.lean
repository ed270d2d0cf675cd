/- PutField of both; the table of powers of ten lies as Go's text lays it. -/
import Derived.Test.YtkkbhlaakhkjnaaGreatDoorFieldOk
import Derived.Test.YtkkbhlaakhkjnaaGreatDoorLen
import Derived.Test.YtkkbhlaakhkjnaaGreatDoorAppAll
import Derived.Test.YtkkbhlaakhkjnaaGreatDoorConvB
import Derived.Test.YtkkbhlaakhkjnaaGreatDoorTxt
import Derived.Laws.EntriesVeiled
import Derived.LaidMore
import Derived.Test.YtkkbhlaakhkjnaaGreatDoorShelf
import Derived.Test.YtkkbhlaakhkjnaaGreatDoorNums
import Derived.Test.YtkkbhlaakhkjnaaGreatDoorNumsB
import Derived.Test.YtkkbhlaakhkjnaaGreatDoorBytesAt
import Derived.Laws.ShiftsVar
import Derived.IntWalk
import Derived.RegionTactic
import Derived.BigRegion
set_option linter.unusedVariables false
namespace Go.Proofs.YtkkbhlaakhkjnaaGreatDoor
open Go.ChangeShapes Go.WideShapes Go.ChangeAt Go.RowKit

def fWidth (kd : Int) : Int := if kd = 3 ∨ kd = 4 then 2 else if kd = 5 then 3 else 0
set_option maxRecDepth 100000 in
theorem width_any (kd : Int) (w : World) :
    Calls Tryz.prog 66 #[.int .i64 kd] w fun e w' => e = .returned (.int .i64 (fWidth kd)) ∧ w = w' := by
  go_enter Tryz.func66, Tryz.ntmps66
  go_wp2
  all_goals go_ret
  all_goals refine ⟨ret_int ?_, rfl⟩
  all_goals simp only [beq_iff_eq, beq_eq_false_iff_ne, ne_eq] at *
  all_goals first | (subst_vars; rfl) | simp [fWidth, *]
/-- what PutField encodes of a content that fits -/
def putBody (kd : Int) (s : ByteArray) : List Int :=
  if kd = 1 then bcd s else if kd = 2 then bytesL s else if kd = 3 then putLen s.size 2 ++ bcd s else if kd = 4 then putLen s.size 2 ++ bytesL s else putLen s.size 3 ++ bytesL s
def putFL (no : Int) (s : ByteArray) : List Int := if fOk no s = true then putBody (fKind no) s else []
def resF (L : List Int) (ok : Bool) (w : World) (e : Ending) (w' : World) : Prop := ∃ v, e = .returned (.tuple #[v, .bool ok]) ∧ nums .u8 w.heap.size w'.heap.size w' v L ∧ Below w.heap.size w w'
set_option maxRecDepth 100000 in
theorem resF_no {w w' : World} (hb : Below w.heap.size w w') : resF [] false w (.returned (.tuple #[.slice none 0 0, .bool false])) w' := ⟨_, rfl, nums_none _ _ _ _, hb⟩
set_option maxRecDepth 100000 in
theorem resF_to {L L' : List Int} {ok ok' : Bool} {w w' : World} {e : Ending} (h : resF L ok w e w') (hL : L = L') (ho : ok = ok') : resF L' ok' w e w' := by subst hL; subst ho; exact h
set_option maxRecDepth 100000 in
theorem kind_size (no : Int) : (fKind no = 1 → fSize no ≤ 12) ∧ (fKind no = 2 → fSize no ≤ 12) ∧ (fKind no = 3 → fSize no ≤ 19) ∧ (fKind no = 4 → fSize no ≤ 20) ∧ fSize no ≤ 60 := by
  unfold fKind fSize
  repeat' (split <;> try omega)
set_option maxRecDepth 100000 in
theorem fOk_size {no : Int} {s : ByteArray} (h : fOk no s = true) : s.size ≤ 60 ∧ (fKind no = 1 → digs s = true ∧ s.size ≤ 12) ∧ (fKind no = 3 → digs s = true ∧ s.size ≤ 19) ∧ fKind no ≠ 0 ∧ 0 < s.size ∨ fKind no = 2 ∧ s.size ≤ 60 := by
  obtain ⟨z1, z2, z3, z4, z5⟩ := kind_size no
  unfold fOk okBy at h
  rcases kind_cases no with e | e | e | e | e | e
  · simp [e] at h
  · rw [if_pos e] at h
    simp only [Bool.and_eq_true, decide_eq_true_eq] at h
    have := z1 e
    have hp := digs_pos h.2
    exact Or.inl ⟨by omega, fun _ => ⟨h.2, by omega⟩, fun h' => by omega, by omega, hp⟩
  · rw [if_neg (by omega), if_pos e] at h
    simp only [Bool.and_eq_true, decide_eq_true_eq] at h
    exact Or.inr ⟨e, by omega⟩
  · rw [if_neg (by omega), if_neg (by omega), if_pos e] at h
    simp only [Bool.and_eq_true, decide_eq_true_eq] at h
    have := z3 e
    have hp := digs_pos h.2
    exact Or.inl ⟨by omega, fun h' => by omega, fun _ => ⟨h.2, by omega⟩, by omega, hp⟩
  · rw [if_neg (by omega), if_neg (by omega), if_neg (by omega), if_pos (by omega)] at h
    simp only [Bool.and_eq_true, decide_eq_true_eq] at h
    exact Or.inl ⟨by omega, fun h' => by omega, fun h' => by omega, by omega, by omega⟩
  · rw [if_neg (by omega), if_neg (by omega), if_neg (by omega), if_pos (by omega)] at h
    simp only [Bool.and_eq_true, decide_eq_true_eq] at h
    exact Or.inl ⟨by omega, fun h' => by omega, fun h' => by omega, by omega, by omega⟩
set_option maxRecDepth 100000 in
theorem fOk_60 {no : Int} {s : ByteArray} (h : fOk no s = true) : s.size ≤ 60 := by
  rcases fOk_size h with h | h
  · exact h.1
  · exact h.2
set_option maxRecDepth 100000 in
theorem ow_empty (T : TypeId) (K : IntKind) (w : World) : ow T K w.heap.size (w.alloc (.cells #[] T)) (.slice (some ⟨w.heap.size, 0, none⟩) 0 0) [] := by
  refine ⟨rfl, Or.inr ⟨w.heap.size, 0, #[], rfl, Nat.le_refl _, ?_, Nat.le_refl _, Nat.zero_le _, rfl, rfl⟩⟩
  show (w.heap.push _)[w.heap.size]? = _
  simp
set_option maxRecDepth 100000 in
theorem infoU8c : (Tryz.prog.info? 5).map (fun i => (i.zero, i.size, i.bytes)) = some (some (.int .u8 0), 1, 1) := by kernel_rfl
set_option maxRecDepth 100000 in
theorem bcdOk_60 {no : Int} {s : ByteArray} (h : fOk no s = true) (hk : fKind no = 1 ∨ fKind no = 3) : bcdOk s = true := by
  unfold bcdOk
  rcases fOk_size h with h | h
  · rcases hk with e | e
    · have := h.2.1 e; rw [this.1]; simp; omega
    · have := h.2.2.1 e; rw [this.1]; simp; omega
  · omega
def twoDig (n : Nat) : List UInt8 := if n < 10 then [UInt8.ofNat (48 + n)] else [UInt8.ofNat (48 + n / 10), UInt8.ofNat (48 + n % 10)]
set_option maxRecDepth 100000 in
theorem twoDig_ok : ∀ n, n < 61 → twoDig n ≠ [] ∧ (twoDig n).all isDig = true ∧ lead (twoDig n) = false ∧ (decOf (twoDig n)).toNat = n ∧ (twoDig n).length ≤ 2 := by decide +kernel
set_option maxRecDepth 100000 in
theorem dec_two (n : Nat) (h : n < 61) : Lib.decDigits n = twoDig n := by
  obtain ⟨h1, h2, h3, h4, -⟩ := twoDig_ok n h
  have := lead_yes _ (twoDig n) rfl h1 h2 h3
  rwa [h4] at this
set_option maxRecDepth 100000 in
theorem wide_60 (n : Nat) (h : n < 61) (d : Int) (hd : d = 2 ∨ d = 3) : bcdOk ⟨(wideOf (n : Int) d).toArray⟩ = true := by
  obtain ⟨h1, h2, -, -, h5⟩ := twoDig_ok n h
  have hw : wideOk (n : Int) d = true := by
    unfold wideOk
    rw [Int.toNat_natCast, dec_two n h]
    simp
    omega
  have hl : 1 ≤ (twoDig n).length := by
    rcases Nat.eq_zero_or_pos (twoDig n).length with e | e
    · exact absurd (List.eq_nil_of_length_eq_zero e) h1
    · exact e
  unfold wideOf
  rw [if_pos hw, Int.toNat_natCast, dec_two n h]
  unfold bcdOk
  rw [digs_list _ (by simp; omega)]
  have hs : ∀ l : List UInt8, (⟨l.toArray⟩ : ByteArray).size = l.length := fun l => rfl
  rw [hs]
  simp only [List.all_append, h2, Bool.and_true, Bool.and_eq_true, decide_eq_true_eq, List.length_append, List.length_replicate]
  refine ⟨?_, by omega⟩
  rw [List.all_eq_true]
  intro x hx
  rw [(List.mem_replicate.1 hx).2]
  rfl
set_option maxRecDepth 100000 in
theorem putLenOk_60 (n : Nat) (hn : n < 61) : putLenOk (n : Int) 2 = true ∧ putLenOk (n : Int) 3 = true := by
  constructor
  · unfold putLenOk; rw [wide_60 n hn 2 (Or.inl rfl)]; rfl
  · unfold putLenOk; rw [wide_60 n hn 3 (Or.inr rfl)]; rfl

set_option maxRecDepth 100000 in
set_option maxHeartbeats 1600000 in
theorem specPutField_any (no : Int) (s : ByteArray) (w : World) (hs : s.size ≤ 1048576) :
    Calls Tryz.prog 35 #[.int .i64 no, .string s] w (resF (putFL no s) (fOk no s) w) := by
  have H1 := Lib.hid (specFieldOk_any no s w (by unfold maxLen; omega))
  cases hok : fOk no s
  · have HK := Lib.hid hok
    clear hok
    go_enter Tryz.func35, Tryz.ntmps35
    go_wp2_with fail
    refine H1.out.mono ?_
    rw [HK.out]
    rintro e w1 ⟨rfl, rfl⟩
    go_wp2
    go_ret2
    have : putFL no s = [] := by simp [putFL, HK.out]
    rw [this]
    exact resF_no (Below.refl _ _)
  have h60 := fOk_60 hok
  have HB := Lib.hid (fun h => bcdOk_60 hok h)
  have HP : Hid (putFL no s = putBody (fKind no) s) := Lib.hid (by simp [putFL, hok])
  have H2 := Lib.hid (specFieldKind_any no)
  have hne : fKind no ≠ 0 := fun h => by rw [fOk_no h] at hok; cases hok
  have hk := kind_cases no
  have HK := Lib.hid hok
  clear hok
  rw [HP.out]
  generalize fKind no = kd at H2 hk HB HP hne
  rcases hk with rfl | rfl | rfl | rfl | rfl | rfl
  · exact absurd rfl hne
  · have hz := bcd_len s
    have HV := Lib.hid (show putBody 1 s = bcd s by simp [putBody])
    clear hne
    go_enter Tryz.func35, Tryz.ntmps35
    go_wp2_with fail
    refine H1.out.mono ?_
    rw [HK.out]
    rintro e w1 ⟨rfl, rfl⟩
    go_wp2_with fail
    refine (H2.out _).mono ?_
    rintro e w1 ⟨rfl, rfl⟩
    go_wp2_with fail
    refine (width_any _ _).mono ?_
    rw [show fWidth 1 = 0 from rfl]
    rintro e w1 ⟨rfl, rfl⟩
    go_wp2_with fail
    refine (specPutBcd_any s _ (by omega)).mono ?_
    rintro e w2 ⟨u, rfl, hu, hb⟩
    have HU := Lib.hid hu
    have HO := Lib.hid ((ow_empty 5 .u8 w).below hb (Nat.le_refl _))
    have hBB : Below w.heap.size w w2 := (below_new (Below.refl _ _) (Nat.le_refl _)).trans (hb.mono (by simp))
    have HBB := Lib.hid hBB
    have hsz := hBB.size
    clear hu hb hBB
    go_wp2_with (at_builtin; refine app_all w2 rfl _ _ 26 rfl w.heap.size 5 .u8 1 Tryz.underlying26 infoU8c _ [] rfl HO.out w2.heap.size _ (bcd s) (by rfl) HU.out.nums.rd (by unfold maxLen; simp; omega) (by simp; omega) hsz ?_)
    intro v' w3 hown hg hb3
    have HO3 := Lib.hid hown
    clear hown hg
    go_wp2
    go_ret2
    rw [HV.out]
    exact ⟨_, rfl, HO3.out.nums, HBB.out.trans hb3⟩
  · have hz := bytesL_len s
    have hzz := Lib.hid hz
    clear hz
    have hcv := fun W => Lib.run_convert_string_bytes (P := Tryz.prog) W 9 26 5 s Tryz.underlying9 Tryz.underlying26 Tryz.underlying5
    have HV := Lib.hid (show putBody 2 s = bytesL s by simp [putBody])
    clear hne
    go_enter Tryz.func35, Tryz.ntmps35
    go_wp2_with fail
    refine H1.out.mono ?_
    rw [HK.out]
    rintro e w1 ⟨rfl, rfl⟩
    go_wp2_with fail
    refine (H2.out _).mono ?_
    rintro e w1 ⟨rfl, rfl⟩
    go_wp2_with fail
    refine (width_any _ _).mono ?_
    rw [show fWidth 2 = 0 from rfl]
    rintro e w1 ⟨rfl, rfl⟩
    go_wp2_with (at_builtin; refine app_all (Lib.bytesWorld (w.alloc (.cells #[] 5)) 5 s) rfl _ _ 26 rfl w.heap.size 5 .u8 1 Tryz.underlying26 infoU8c _ [] rfl ((ow_empty 5 .u8 w).below (bytesW_below _ _ _) (Nat.le_refl _)) _ _ (bytesL s) (by rfl) (bytesW_nums' (w.alloc (.cells #[] 5)) 5 s (w.heap.size + 1) (by simp)).rd (by unfold maxLen; rw [hzz.out]; simp; omega) (by rw [hzz.out]; simp; omega) (by rw [Lib.bytesWorld_size]; simp; omega) ?_)
    intro v' w3 hown hg hb3
    have HO3 := Lib.hid hown
    clear hown hg
    go_wp2
    go_ret2
    rw [HV.out]
    exact ⟨_, rfl, HO3.out.nums, (((below_new (Below.refl _ _) (Nat.le_refl _)).trans ((bytesW_below _ _ _).mono (by simp))).trans hb3)⟩
  · have hz := bcd_len s
    have HV := Lib.hid (show putBody 3 s = putLen (s.size : Int) 2 ++ bcd s by simp [putBody])
    clear hne
    go_enter Tryz.func35, Tryz.ntmps35
    go_wp2_with fail
    refine H1.out.mono ?_
    rw [HK.out]
    rintro e w1 ⟨rfl, rfl⟩
    go_wp2_with fail
    refine (H2.out _).mono ?_
    rintro e w1 ⟨rfl, rfl⟩
    go_wp2_with fail
    refine (width_any _ _).mono ?_
    rw [show fWidth 3 = 2 from rfl]
    rintro e w1 ⟨rfl, rfl⟩
    go_wp2_with fail
    refine (width_any _ _).mono ?_
    rw [show fWidth 3 = 2 from rfl]
    rintro e w1 ⟨rfl, rfl⟩
    go_wp2_with fail
    refine (specPutLen_any _ _ _).mono ?_
    rintro e w2 ⟨u, rfl, hu, hb⟩
    have hpl := putLen_len (s.size : Int) 2
    have hBB : Below w.heap.size w w2 := (below_new (Below.refl _ _) (Nat.le_refl _)).trans (hb.mono (by simp))
    have HU := Lib.hid (hu.mono (B' := w.heap.size) (by simp))
    have HBB := Lib.hid hBB
    have hsz := hBB.size
    clear hu hb hBB
    go_wp2_with fail
    refine (specPutBcd_any s _ (by omega)).mono ?_
    rintro e w4 ⟨u4, rfl, hu4, hb4⟩
    have HU4 := Lib.hid hu4
    have HH := Lib.hid (HU.out.below hb4 (Nat.le_refl _))
    have hB4 := HBB.out.trans (hb4.mono hsz)
    have hsz4 := hB4.size
    have HB4 := Lib.hid hB4
    clear hu4 hb4 hB4 HU
    go_wp2_with (at_builtin; refine app_all w4 rfl _ _ 26 rfl w.heap.size 5 .u8 1 Tryz.underlying26 infoU8c _ (putLen (s.size : Int) 2) rfl HH.out w4.heap.size _ (bcd s) (by rfl) HU4.out.nums.rd (by unfold maxLen; omega) (by omega) hsz4 ?_)
    intro v' w3 hown hg hb3
    have HO3 := Lib.hid hown
    clear hown hg
    go_wp2
    go_ret2
    rw [HV.out]
    exact ⟨_, rfl, HO3.out.nums, HB4.out.trans hb3⟩
  · have hz := bytesL_len s
    have hzz := Lib.hid hz
    clear hz
    have hcv := fun W => Lib.run_convert_string_bytes (P := Tryz.prog) W 9 26 5 s Tryz.underlying9 Tryz.underlying26 Tryz.underlying5
    have HV := Lib.hid (show putBody 4 s = putLen (s.size : Int) 2 ++ bytesL s by simp [putBody])
    clear hne
    go_enter Tryz.func35, Tryz.ntmps35
    go_wp2_with fail
    refine H1.out.mono ?_
    rw [HK.out]
    rintro e w1 ⟨rfl, rfl⟩
    go_wp2_with fail
    refine (H2.out _).mono ?_
    rintro e w1 ⟨rfl, rfl⟩
    go_wp2_with fail
    refine (width_any _ _).mono ?_
    rw [show fWidth 4 = 2 from rfl]
    rintro e w1 ⟨rfl, rfl⟩
    go_wp2_with fail
    refine (width_any _ _).mono ?_
    rw [show fWidth 4 = 2 from rfl]
    rintro e w1 ⟨rfl, rfl⟩
    go_wp2_with fail
    refine (specPutLen_any _ _ _).mono ?_
    rintro e w2 ⟨u, rfl, hu, hb⟩
    have hpl := putLen_len (s.size : Int) 2
    have hBB : Below w.heap.size w w2 := (below_new (Below.refl _ _) (Nat.le_refl _)).trans (hb.mono (by simp))
    have HU := Lib.hid (hu.mono (B' := w.heap.size) (by simp))
    have HBB := Lib.hid hBB
    have hsz := hBB.size
    clear hu hb hBB
    go_wp2_with (at_builtin; refine app_all (Lib.bytesWorld w2 5 s) rfl _ _ 26 rfl w.heap.size 5 .u8 1 Tryz.underlying26 infoU8c _ (putLen (s.size : Int) 2) rfl (HU.out.below (bytesW_below _ _ _) (Nat.le_refl _)) _ _ (bytesL s) (by rfl) (bytesW_nums w2 5 s).rd (by unfold maxLen; rw [hzz.out]; omega) (by rw [hzz.out]; omega) (by rw [Lib.bytesWorld_size]; omega) ?_)
    intro v' w3 hown hg hb3
    have HO3 := Lib.hid hown
    clear hown hg
    go_wp2
    go_ret2
    rw [HV.out]
    exact ⟨_, rfl, HO3.out.nums, (HBB.out.trans ((bytesW_below _ _ _).mono hsz)).trans hb3⟩
  · have hz := bytesL_len s
    have hzz := Lib.hid hz
    clear hz
    have hcv := fun W => Lib.run_convert_string_bytes (P := Tryz.prog) W 9 26 5 s Tryz.underlying9 Tryz.underlying26 Tryz.underlying5
    have HV := Lib.hid (show putBody 5 s = putLen (s.size : Int) 3 ++ bytesL s by simp [putBody])
    clear hne
    go_enter Tryz.func35, Tryz.ntmps35
    go_wp2_with fail
    refine H1.out.mono ?_
    rw [HK.out]
    rintro e w1 ⟨rfl, rfl⟩
    go_wp2_with fail
    refine (H2.out _).mono ?_
    rintro e w1 ⟨rfl, rfl⟩
    go_wp2_with fail
    refine (width_any _ _).mono ?_
    rw [show fWidth 5 = 3 from rfl]
    rintro e w1 ⟨rfl, rfl⟩
    go_wp2_with fail
    refine (width_any _ _).mono ?_
    rw [show fWidth 5 = 3 from rfl]
    rintro e w1 ⟨rfl, rfl⟩
    go_wp2_with fail
    refine (specPutLen_any _ _ _).mono ?_
    rintro e w2 ⟨u, rfl, hu, hb⟩
    have hpl := putLen_len (s.size : Int) 3
    have hBB : Below w.heap.size w w2 := (below_new (Below.refl _ _) (Nat.le_refl _)).trans (hb.mono (by simp))
    have HU := Lib.hid (hu.mono (B' := w.heap.size) (by simp))
    have HBB := Lib.hid hBB
    have hsz := hBB.size
    clear hu hb hBB
    go_wp2_with (at_builtin; refine app_all (Lib.bytesWorld w2 5 s) rfl _ _ 26 rfl w.heap.size 5 .u8 1 Tryz.underlying26 infoU8c _ (putLen (s.size : Int) 3) rfl (HU.out.below (bytesW_below _ _ _) (Nat.le_refl _)) _ _ (bytesL s) (by rfl) (bytesW_nums w2 5 s).rd (by unfold maxLen; rw [hzz.out]; omega) (by rw [hzz.out]; omega) (by rw [Lib.bytesWorld_size]; omega) ?_)
    intro v' w3 hown hg hb3
    have HO3 := Lib.hid hown
    clear hown hg
    go_wp2
    go_ret2
    rw [HV.out]
    exact ⟨_, rfl, HO3.out.nums, (HBB.out.trans ((bytesW_below _ _ _).mono hsz)).trans hb3⟩
end Go.Proofs.YtkkbhlaakhkjnaaGreatDoor
/- PutField of the program; the table of powers of ten lies as Go's text lays it. -/
set_option linter.unusedVariables false
namespace Go.Proofs.YtkkbhlaakhkjnaaGreatDoor
open Go.ChangeShapes Go.WideShapes Go.ChangeAt Go.RowKit

set_option maxRecDepth 100000 in
theorem rowV_zero {no : Int} (h : fKind no = 0) : rowV no = .agg #[.int .i64 0, .int .i64 0, .int .i64 0, .nilFunc, .nilFunc] := by rw [rowV, if_pos h]
set_option maxRecDepth 100000 in
theorem rowV_yes {no : Int} (h : fKind no ≠ 0) : rowV no = .agg #[.int .i64 no, .int .i64 (fSize no), .int .i64 (fKind no), .func (.func (putId (fKind no))) #[] #[], .func (.func (getId (fKind no))) #[] #[]] := by rw [rowV, if_neg h, rowCells]
set_option maxRecDepth 100000 in
theorem putText_any (s : ByteArray) (w : World) : Calls Tryz.prog 103 #[.string s] w (resF (bytesL s) true w) := by
  have hcv := fun W => Lib.run_convert_string_bytes (P := Tryz.prog) W 9 26 5 s Tryz.underlying9 Tryz.underlying26 Tryz.underlying5
  have HN := Lib.hid (bytesW_nums w 5 s)
  have HZ := Lib.hid (Lib.bytesWorld_size w 5 s)
  have HB := Lib.hid (bytesW_below w 5 s)
  go_enter Tryz.func103, Tryz.ntmps103
  go_wp2
  go_ret2
  refine ⟨_, rfl, ?_, HB.out⟩
  rw [HZ.out]
  exact HN.out
set_option maxRecDepth 100000 in
theorem putBcd_F (s : ByteArray) (w : World) (hs : s.size ≤ 1073741824) (hb : bcdOk s = true) : Calls Tryz.prog 37 #[.string s] w (resF (bcd s) true w) :=
  (implPutBcd_any s w hs).mono fun e w' h => by
    obtain ⟨v, he, ho, hb'⟩ := h
    rw [hb] at he
    exact ⟨v, he, ho.nums, hb'⟩

set_option maxRecDepth 100000 in
set_option maxHeartbeats 800000 in
theorem behind_bcd2 (s : ByteArray) (w : World) (hs : s.size ≤ 60) (hb0 : bcdOk s = true) (htab : Lib.TabIs Tryz.prog w "internal/strconv.uint64pow10" .u64 Lib.pow10Tab) :
    Calls Tryz.prog 124 #[.string s, .int .i64 2, .func (.func 37) #[] #[]] w (resF (putLen (s.size : Int) 2 ++ bcd s) true w) := by
  have hok := (putLenOk_60 s.size (by omega)).1
  have HT := Lib.hid htab
  have HK := Lib.hid hok
  have hl1 := putLen_len (s.size : Int) 2
  have hl2 : (bcd s).length ≤ 60 := by have := bcd_len s; omega
  have HB0 := Lib.hid hb0
  clear hb0
  clear htab hok
  go_enter Tryz.func124, Tryz.ntmps124
  go_wp2_with fail
  refine (implPutLen_any _ _ _ (by omega) (by omega) HT.out).mono ?_
  rw [HK.out]
  rintro e w1 ⟨u1, rfl, hu1, hb1⟩
  have HU1 := Lib.hid hu1
  have hz1 := hb1.size
  have HB1 := Lib.hid hb1
  clear hu1 hb1
  go_wp2_with fail
  refine (putBcd_F s _ (by omega) HB0.out).mono ?_
  rintro e w2 ⟨u2, rfl, hu2, hb2⟩
  have HU2 := Lib.hid hu2
  have HH := Lib.hid (HU1.out.below hb2 (Nat.le_refl _))
  have hB2 := HB1.out.trans (hb2.mono hz1)
  have hz2 := hB2.size
  have HB2 := Lib.hid hB2
  clear hu2 hb2 hB2 HU1
  go_wp2_with (at_builtin; refine app_all w2 rfl _ _ 26 rfl w.heap.size 5 .u8 1 Tryz.underlying26 infoU8c _ (putLen (s.size : Int) 2) rfl HH.out w2.heap.size _ (bcd s) (by rfl) HU2.out.rd (by unfold maxLen; omega) (by omega) hz2 ?_)
  intro v' w3 hown hg hb3
  have HO3 := Lib.hid hown
  clear hown hg
  go_wp2
  go_ret2
  exact ⟨_, rfl, HO3.out.nums, HB2.out.trans hb3⟩

set_option maxRecDepth 100000 in
set_option maxHeartbeats 800000 in
theorem behind_text2 (s : ByteArray) (w : World) (hs : s.size ≤ 60)  (htab : Lib.TabIs Tryz.prog w "internal/strconv.uint64pow10" .u64 Lib.pow10Tab) :
    Calls Tryz.prog 124 #[.string s, .int .i64 2, .func (.func 103) #[] #[]] w (resF (putLen (s.size : Int) 2 ++ bytesL s) true w) := by
  have hok := (putLenOk_60 s.size (by omega)).1
  have HT := Lib.hid htab
  have HK := Lib.hid hok
  have hl1 := putLen_len (s.size : Int) 2
  have hl2 : (bytesL s).length ≤ 60 := by rw [bytesL_len]; exact hs
  skip
  clear htab hok
  go_enter Tryz.func124, Tryz.ntmps124
  go_wp2_with fail
  refine (implPutLen_any _ _ _ (by omega) (by omega) HT.out).mono ?_
  rw [HK.out]
  rintro e w1 ⟨u1, rfl, hu1, hb1⟩
  have HU1 := Lib.hid hu1
  have hz1 := hb1.size
  have HB1 := Lib.hid hb1
  clear hu1 hb1
  go_wp2_with fail
  refine (putText_any s _).mono ?_
  rintro e w2 ⟨u2, rfl, hu2, hb2⟩
  have HU2 := Lib.hid hu2
  have HH := Lib.hid (HU1.out.below hb2 (Nat.le_refl _))
  have hB2 := HB1.out.trans (hb2.mono hz1)
  have hz2 := hB2.size
  have HB2 := Lib.hid hB2
  clear hu2 hb2 hB2 HU1
  go_wp2_with (at_builtin; refine app_all w2 rfl _ _ 26 rfl w.heap.size 5 .u8 1 Tryz.underlying26 infoU8c _ (putLen (s.size : Int) 2) rfl HH.out w2.heap.size _ (bytesL s) (by rfl) HU2.out.rd (by unfold maxLen; omega) (by omega) hz2 ?_)
  intro v' w3 hown hg hb3
  have HO3 := Lib.hid hown
  clear hown hg
  go_wp2
  go_ret2
  exact ⟨_, rfl, HO3.out.nums, HB2.out.trans hb3⟩

set_option maxRecDepth 100000 in
set_option maxHeartbeats 800000 in
theorem behind_text3 (s : ByteArray) (w : World) (hs : s.size ≤ 60)  (htab : Lib.TabIs Tryz.prog w "internal/strconv.uint64pow10" .u64 Lib.pow10Tab) :
    Calls Tryz.prog 124 #[.string s, .int .i64 3, .func (.func 103) #[] #[]] w (resF (putLen (s.size : Int) 3 ++ bytesL s) true w) := by
  have hok := (putLenOk_60 s.size (by omega)).2
  have HT := Lib.hid htab
  have HK := Lib.hid hok
  have hl1 := putLen_len (s.size : Int) 3
  have hl2 : (bytesL s).length ≤ 60 := by rw [bytesL_len]; exact hs
  skip
  clear htab hok
  go_enter Tryz.func124, Tryz.ntmps124
  go_wp2_with fail
  refine (implPutLen_any _ _ _ (by omega) (by omega) HT.out).mono ?_
  rw [HK.out]
  rintro e w1 ⟨u1, rfl, hu1, hb1⟩
  have HU1 := Lib.hid hu1
  have hz1 := hb1.size
  have HB1 := Lib.hid hb1
  clear hu1 hb1
  go_wp2_with fail
  refine (putText_any s _).mono ?_
  rintro e w2 ⟨u2, rfl, hu2, hb2⟩
  have HU2 := Lib.hid hu2
  have HH := Lib.hid (HU1.out.below hb2 (Nat.le_refl _))
  have hB2 := HB1.out.trans (hb2.mono hz1)
  have hz2 := hB2.size
  have HB2 := Lib.hid hB2
  clear hu2 hb2 hB2 HU1
  go_wp2_with (at_builtin; refine app_all w2 rfl _ _ 26 rfl w.heap.size 5 .u8 1 Tryz.underlying26 infoU8c _ (putLen (s.size : Int) 3) rfl HH.out w2.heap.size _ (bytesL s) (by rfl) HU2.out.rd (by unfold maxLen; omega) (by omega) hz2 ?_)
  intro v' w3 hown hg hb3
  have HO3 := Lib.hid hown
  clear hown hg
  go_wp2
  go_ret2
  exact ⟨_, rfl, HO3.out.nums, HB2.out.trans hb3⟩

set_option maxRecDepth 100000 in
theorem putNumVar_any (s : ByteArray) (w : World) (hs : s.size ≤ 60) (hb0 : bcdOk s = true) (htab : Lib.TabIs Tryz.prog w "internal/strconv.uint64pow10" .u64 Lib.pow10Tab) :
    Calls Tryz.prog 105 #[.string s] w (resF (putLen (s.size : Int) 2 ++ bcd s) true w) := by
  have H := Lib.hid (behind_bcd2 s w hs hb0 htab)
  clear htab hb0
  go_enter Tryz.func105, Tryz.ntmps105
  go_wp2_with fail
  refine H.out.mono ?_
  rintro e w1 ⟨u, rfl, hu, hb⟩
  have HU := Lib.hid hu
  clear hu
  go_wp2
  go_ret2
  exact ⟨_, rfl, HU.out, hb⟩

set_option maxRecDepth 100000 in
theorem putTextVar_any (s : ByteArray) (w : World) (hs : s.size ≤ 60)  (htab : Lib.TabIs Tryz.prog w "internal/strconv.uint64pow10" .u64 Lib.pow10Tab) :
    Calls Tryz.prog 107 #[.string s] w (resF (putLen (s.size : Int) 2 ++ bytesL s) true w) := by
  have H := Lib.hid (behind_text2 s w hs htab)
  clear htab 
  go_enter Tryz.func107, Tryz.ntmps107
  go_wp2_with fail
  refine H.out.mono ?_
  rintro e w1 ⟨u, rfl, hu, hb⟩
  have HU := Lib.hid hu
  clear hu
  go_wp2
  go_ret2
  exact ⟨_, rfl, HU.out, hb⟩

set_option maxRecDepth 100000 in
theorem putTextLong_any (s : ByteArray) (w : World) (hs : s.size ≤ 60)  (htab : Lib.TabIs Tryz.prog w "internal/strconv.uint64pow10" .u64 Lib.pow10Tab) :
    Calls Tryz.prog 109 #[.string s] w (resF (putLen (s.size : Int) 3 ++ bytesL s) true w) := by
  have H := Lib.hid (behind_text3 s w hs htab)
  clear htab 
  go_enter Tryz.func109, Tryz.ntmps109
  go_wp2_with fail
  refine H.out.mono ?_
  rintro e w1 ⟨u, rfl, hu, hb⟩
  have HU := Lib.hid hu
  clear hu
  go_wp2
  go_ret2
  exact ⟨_, rfl, HU.out, hb⟩

set_option maxRecDepth 100000 in
set_option maxHeartbeats 1600000 in
theorem implPutField_any (no : Int) (s : ByteArray) (w : World) (hs : s.size ≤ 1048576) (hg : 2 < w.heap.size) (htab : Lib.TabIs Tryz.prog w "internal/strconv.uint64pow10" .u64 Lib.pow10Tab) :
    Calls Tryz.prog 39 #[.int .i64 no, .string s] w (resF (putFL no s) (fOk no s) w) := by
  have HS : Hid (s.size ≤ maxLen) := Lib.hid (by unfold maxLen; omega)
  have HT : Hid (∀ w', Below w.heap.size w w' → Lib.TabIs Tryz.prog w' "internal/strconv.uint64pow10" .u64 Lib.pow10Tab) := Lib.hid fun w' h => var?_below h (by kernel_rfl) hg htab
  clear htab
  by_cases hk0 : fKind no = 0
  · have HR := Lib.hid (rowV_zero hk0)
    have HK : Hid (okBy 0 0 s = false) := Lib.hid (by simp [okBy])
    have HZ : Hid (putFL no s = [] ∧ fOk no s = false) := Lib.hid (by simp [putFL, fOk_no hk0])
    clear hk0
    rw [HZ.out.1, HZ.out.2]
    go_enter Tryz.func39, Tryz.ntmps39
    go_wp2_with fail
    refine (fieldAt_any no _).mono ?_
    rintro e w1 ⟨he, hb⟩
    rw [HR.out] at he
    subst he
    go_wp2_with fail
    refine (allows_any 0 0 0 _ _ s _ HS.out (Or.inl rfl)).mono ?_
    rw [HK.out]
    rintro e w2 ⟨rfl, hb2⟩
    go_wp2
    go_ret2
    exact resF_no (hb.trans (Below.trans ((below_new (Below.refl _ _) (Nat.le_refl _)).mono hb.size) (hb2.mono (by have := hb.size; simp; omega))))
  have HR := Lib.hid (rowV_yes hk0)
  have HO : Hid (okBy (fKind no) (fSize no) s = fOk no s) := Lib.hid rfl
  cases hok : fOk no s
  · have HN : Hid (okBy (fKind no) (fSize no) s = false) := Lib.hid (HO.out.trans hok)
    have HZ : Hid (putFL no s = []) := Lib.hid (by simp [putFL, hok])
    have HC := Lib.hid (kind_cases no)
    clear hk0 hok HO
    rw [HZ.out]
    generalize fKind no = kd at HR HN HC
    generalize fSize no = sz at HR HN
    generalize putId kd = pi at HR
    generalize getId kd = gi at HR
    go_enter Tryz.func39, Tryz.ntmps39
    go_wp2_with fail
    refine (fieldAt_any no _).mono ?_
    rintro e w1 ⟨he, hb⟩
    rw [HR.out] at he
    subst he
    go_wp2_with fail
    refine (allows_any no sz kd _ _ s _ HS.out HC.out).mono ?_
    rw [HN.out]
    rintro e w2 ⟨rfl, hb2⟩
    go_wp2
    go_ret2
    exact resF_no (hb.trans (Below.trans ((below_new (Below.refl _ _) (Nat.le_refl _)).mono hb.size) (hb2.mono (by have := hb.size; simp; omega))))
  have h60 := fOk_60 hok
  have HB := Lib.hid (fun h => bcdOk_60 hok h)
  have HP : Hid (putFL no s = putBody (fKind no) s) := Lib.hid (by simp [putFL, hok])
  have HK : Hid (okBy (fKind no) (fSize no) s = true) := Lib.hid (HO.out.trans hok)
  have hk := kind_cases no
  clear hok HO
  rw [HP.out]
  clear HP
  generalize fKind no = kd at HR HK HB hk hk0
  generalize fSize no = sz at HR HK
  rcases hk with rfl | rfl | rfl | rfl | rfl | rfl
  · exact absurd rfl hk0
  · have HV := Lib.hid (show putBody 1 s = bcd s by simp [putBody])
    rw [show putId 1 = 37 from rfl] at HR
    generalize getId 1 = gi at HR
    clear hk0
    go_enter Tryz.func39, Tryz.ntmps39
    go_wp2_with fail
    refine (fieldAt_any no _).mono ?_
    rintro e w1 ⟨he, hb⟩
    rw [HR.out] at he
    subst he
    go_wp2_with fail
    refine (allows_any no sz 1 _ _ s _ HS.out (by omega)).mono ?_
    rw [HK.out]
    rintro e w2 ⟨rfl, hb2⟩
    have hz := hb.size
    have hbx := bk.new w1 94 [.int .i64 no, .int .i64 sz, .int .i64 1, .func (.func 37) #[] #[], .func (.func gi) #[] #[]]
    have hby := hbx.below hb2 hbx.lt
    have c0 := hby.cell 0
    have c1 := hby.cell 1
    have c2 := hby.cell 2
    have c3 := hby.cell 3
    have c4 := hby.cell 4
    simp only [List.getElem?_cons_zero, List.getElem?_cons_succ] at c0 c1 c2 c3 c4
    have hBB : Below w.heap.size w w2 := hb.trans (Below.trans ((below_new (Below.refl _ _) (Nat.le_refl _)).mono hz) (hb2.mono (by simp; omega)))
    have hz2 := hBB.size
    have HBB := Lib.hid hBB
    clear hbx hby hb hb2 hBB
    go_wp2_with fail
    refine (putBcd_F s _ (by omega) (HB.out (by simp))).mono ?_
    rintro e w3 ⟨u, rfl, hu, hb3⟩
    have HU := Lib.hid hu
    clear hu
    go_wp2
    go_ret2
    rw [HV.out]
    exact ⟨_, rfl, HU.out.mono hz2 (Nat.le_refl _), HBB.out.trans (hb3.mono hz2)⟩
  · have HV := Lib.hid (show putBody 2 s = bytesL s by simp [putBody])
    rw [show putId 2 = 103 from rfl] at HR
    generalize getId 2 = gi at HR
    clear hk0
    go_enter Tryz.func39, Tryz.ntmps39
    go_wp2_with fail
    refine (fieldAt_any no _).mono ?_
    rintro e w1 ⟨he, hb⟩
    rw [HR.out] at he
    subst he
    go_wp2_with fail
    refine (allows_any no sz 2 _ _ s _ HS.out (by omega)).mono ?_
    rw [HK.out]
    rintro e w2 ⟨rfl, hb2⟩
    have hz := hb.size
    have hbx := bk.new w1 94 [.int .i64 no, .int .i64 sz, .int .i64 2, .func (.func 103) #[] #[], .func (.func gi) #[] #[]]
    have hby := hbx.below hb2 hbx.lt
    have c0 := hby.cell 0
    have c1 := hby.cell 1
    have c2 := hby.cell 2
    have c3 := hby.cell 3
    have c4 := hby.cell 4
    simp only [List.getElem?_cons_zero, List.getElem?_cons_succ] at c0 c1 c2 c3 c4
    have hBB : Below w.heap.size w w2 := hb.trans (Below.trans ((below_new (Below.refl _ _) (Nat.le_refl _)).mono hz) (hb2.mono (by simp; omega)))
    have hz2 := hBB.size
    have HBB := Lib.hid hBB
    clear hbx hby hb hb2 hBB
    go_wp2_with fail
    refine (putText_any s _).mono ?_
    rintro e w3 ⟨u, rfl, hu, hb3⟩
    have HU := Lib.hid hu
    clear hu
    go_wp2
    go_ret2
    rw [HV.out]
    exact ⟨_, rfl, HU.out.mono hz2 (Nat.le_refl _), HBB.out.trans (hb3.mono hz2)⟩
  · have HV := Lib.hid (show putBody 3 s = putLen (s.size : Int) 2 ++ bcd s by simp [putBody])
    rw [show putId 3 = 105 from rfl] at HR
    generalize getId 3 = gi at HR
    clear hk0
    go_enter Tryz.func39, Tryz.ntmps39
    go_wp2_with fail
    refine (fieldAt_any no _).mono ?_
    rintro e w1 ⟨he, hb⟩
    rw [HR.out] at he
    subst he
    go_wp2_with fail
    refine (allows_any no sz 3 _ _ s _ HS.out (by omega)).mono ?_
    rw [HK.out]
    rintro e w2 ⟨rfl, hb2⟩
    have hz := hb.size
    have hbx := bk.new w1 94 [.int .i64 no, .int .i64 sz, .int .i64 3, .func (.func 105) #[] #[], .func (.func gi) #[] #[]]
    have hby := hbx.below hb2 hbx.lt
    have c0 := hby.cell 0
    have c1 := hby.cell 1
    have c2 := hby.cell 2
    have c3 := hby.cell 3
    have c4 := hby.cell 4
    simp only [List.getElem?_cons_zero, List.getElem?_cons_succ] at c0 c1 c2 c3 c4
    have hBB : Below w.heap.size w w2 := hb.trans (Below.trans ((below_new (Below.refl _ _) (Nat.le_refl _)).mono hz) (hb2.mono (by simp; omega)))
    have hz2 := hBB.size
    have HBB := Lib.hid hBB
    clear hbx hby hb hb2 hBB
    go_wp2_with fail
    refine (putNumVar_any s _ h60 (HB.out (by simp)) (HT.out _ HBB.out)).mono ?_
    rintro e w3 ⟨u, rfl, hu, hb3⟩
    have HU := Lib.hid hu
    clear hu
    go_wp2
    go_ret2
    rw [HV.out]
    exact ⟨_, rfl, HU.out.mono hz2 (Nat.le_refl _), HBB.out.trans (hb3.mono hz2)⟩
  · have HV := Lib.hid (show putBody 4 s = putLen (s.size : Int) 2 ++ bytesL s by simp [putBody])
    rw [show putId 4 = 107 from rfl] at HR
    generalize getId 4 = gi at HR
    clear hk0
    go_enter Tryz.func39, Tryz.ntmps39
    go_wp2_with fail
    refine (fieldAt_any no _).mono ?_
    rintro e w1 ⟨he, hb⟩
    rw [HR.out] at he
    subst he
    go_wp2_with fail
    refine (allows_any no sz 4 _ _ s _ HS.out (by omega)).mono ?_
    rw [HK.out]
    rintro e w2 ⟨rfl, hb2⟩
    have hz := hb.size
    have hbx := bk.new w1 94 [.int .i64 no, .int .i64 sz, .int .i64 4, .func (.func 107) #[] #[], .func (.func gi) #[] #[]]
    have hby := hbx.below hb2 hbx.lt
    have c0 := hby.cell 0
    have c1 := hby.cell 1
    have c2 := hby.cell 2
    have c3 := hby.cell 3
    have c4 := hby.cell 4
    simp only [List.getElem?_cons_zero, List.getElem?_cons_succ] at c0 c1 c2 c3 c4
    have hBB : Below w.heap.size w w2 := hb.trans (Below.trans ((below_new (Below.refl _ _) (Nat.le_refl _)).mono hz) (hb2.mono (by simp; omega)))
    have hz2 := hBB.size
    have HBB := Lib.hid hBB
    clear hbx hby hb hb2 hBB
    go_wp2_with fail
    refine (putTextVar_any s _ h60 (HT.out _ HBB.out)).mono ?_
    rintro e w3 ⟨u, rfl, hu, hb3⟩
    have HU := Lib.hid hu
    clear hu
    go_wp2
    go_ret2
    rw [HV.out]
    exact ⟨_, rfl, HU.out.mono hz2 (Nat.le_refl _), HBB.out.trans (hb3.mono hz2)⟩
  · have HV := Lib.hid (show putBody 5 s = putLen (s.size : Int) 3 ++ bytesL s by simp [putBody])
    rw [show putId 5 = 109 from rfl] at HR
    generalize getId 5 = gi at HR
    clear hk0
    go_enter Tryz.func39, Tryz.ntmps39
    go_wp2_with fail
    refine (fieldAt_any no _).mono ?_
    rintro e w1 ⟨he, hb⟩
    rw [HR.out] at he
    subst he
    go_wp2_with fail
    refine (allows_any no sz 5 _ _ s _ HS.out (by omega)).mono ?_
    rw [HK.out]
    rintro e w2 ⟨rfl, hb2⟩
    have hz := hb.size
    have hbx := bk.new w1 94 [.int .i64 no, .int .i64 sz, .int .i64 5, .func (.func 109) #[] #[], .func (.func gi) #[] #[]]
    have hby := hbx.below hb2 hbx.lt
    have c0 := hby.cell 0
    have c1 := hby.cell 1
    have c2 := hby.cell 2
    have c3 := hby.cell 3
    have c4 := hby.cell 4
    simp only [List.getElem?_cons_zero, List.getElem?_cons_succ] at c0 c1 c2 c3 c4
    have hBB : Below w.heap.size w w2 := hb.trans (Below.trans ((below_new (Below.refl _ _) (Nat.le_refl _)).mono hz) (hb2.mono (by simp; omega)))
    have hz2 := hBB.size
    have HBB := Lib.hid hBB
    clear hbx hby hb hb2 hBB
    go_wp2_with fail
    refine (putTextLong_any s _ h60 (HT.out _ HBB.out)).mono ?_
    rintro e w3 ⟨u, rfl, hu, hb3⟩
    have HU := Lib.hid hu
    clear hu
    go_wp2
    go_ret2
    rw [HV.out]
    exact ⟨_, rfl, HU.out.mono hz2 (Nat.le_refl _), HBB.out.trans (hb3.mono hz2)⟩

set_option maxRecDepth 100000 in
theorem putFL_len (no : Int) (s : ByteArray) (hs : s.size ≤ 1048576) : (putFL no s).length ≤ 1048700 := by
  unfold putFL
  split
  · unfold putBody
    have h1 := bcd_len s
    have h2 := bytesL_len s
    have h3 := putLen_len (s.size : Int) 2
    have h4 := putLen_len (s.size : Int) 3
    repeat' split
    all_goals (try rw [List.length_append])
    all_goals omega
  · simp
set_option maxRecDepth 100000 in
theorem tab_lt {w : World} (htab : Lib.TabIs Tryz.prog w "internal/strconv.uint64pow10" .u64 Lib.pow10Tab) : 2 < w.heap.size := by
  unfold Lib.TabIs World.var? at htab
  rw [show Tryz.prog.globalNamed "internal/strconv.uint64pow10" = some 2 by kernel_rfl] at htab
  rcases Nat.lt_or_ge 2 w.heap.size with h | h
  · exact h
  · simp [Array.getElem?_eq_none h] at htab
end Go.Proofs.YtkkbhlaakhkjnaaGreatDoor
/- GetField of both; the sentinel of the number scanner holds an error. -/
set_option linter.unusedVariables false
namespace Go.Proofs.YtkkbhlaakhkjnaaGreatDoor
open Go.ChangeShapes Go.WideShapes Go.ChangeAt Go.RowKit

/-- a text, an offset and whether there is one -/
def trip (ok : Bool) (t : List UInt8) (e : Int) : Ending := .returned (.tuple #[.string ⟨(if ok = true then t else []).toArray⟩, .int .i64 (if ok = true then e else 0), .bool ok])
set_option maxRecDepth 100000 in
theorem trip_no {t : List UInt8} {e : Int} : trip false t e = .returned (.tuple #[.string ⟨#[]⟩, .int .i64 0, .bool false]) := rfl
set_option maxRecDepth 100000 in
theorem trip_yes {t : List UInt8} {e : Int} : trip true t e = .returned (.tuple #[.string ⟨t.toArray⟩, .int .i64 e, .bool true]) := rfl
set_option maxRecDepth 100000 in
theorem trip_form (ok : Bool) (t : List UInt8) (e : Int) : ∃ (s : ByteArray) (x : Int) (b : Bool), trip ok t e = .returned (.tuple #[.string s, .int .i64 x, .bool b]) := ⟨_, _, _, rfl⟩
set_option maxRecDepth 100000 in
theorem trip_of {ok : Bool} {t : List UInt8} {e : Int} (h : ok = false) : trip ok t e = .returned (.tuple #[.string ⟨#[]⟩, .int .i64 0, .bool false]) := by subst h; rfl
set_option maxRecDepth 100000 in
theorem trip_on {ok : Bool} {t : List UInt8} {e : Int} (h : ok = true) : trip ok t e = .returned (.tuple #[.string ⟨t.toArray⟩, .int .i64 e, .bool true]) := by subst h; rfl
set_option maxRecDepth 100000 in
theorem gRes_trip (l : List Int) (a n : Int) : gRes l a n = trip (gOk l a n) (gTxt l a n) (gEnd l a n) := by
  cases h : gOk l a n
  · rw [gRes_no h, trip_no]
  · rw [gRes, h, trip_yes]
set_option maxRecDepth 100000 in
theorem fSize_pos {no : Int} (h : fKind no ≠ 0) : 1 ≤ fSize no := by
  unfold fKind at h
  unfold fSize
  repeat' (split at h <;> try omega)
  all_goals repeat' (split <;> try omega)
def inR (l : List Int) (a n : Int) : Bool := decide (0 ≤ a) && decide (0 ≤ n) && decide (a + n ≤ l.length)
def tPart (l : List Int) (a n : Int) : List UInt8 := ((l.drop a.toNat).take n.toNat).map byteOf
set_option maxRecDepth 100000 in
theorem inR_yes {l : List Int} {a n : Int} (h : inR l a n = true) : 0 ≤ a ∧ 0 ≤ n ∧ a + n ≤ l.length := by
  simp only [inR, Bool.and_eq_true, decide_eq_true_eq] at h; exact ⟨h.1.1, h.1.2, h.2⟩
set_option maxRecDepth 100000 in
theorem inR_no {l : List Int} {a n : Int} (h : a < 0 ∨ n < 0 ∨ (l.length : Int) < a + n) : inR l a n = false := by
  cases hq : inR l a n
  · rfl
  · have := inR_yes hq; omega
set_option maxRecDepth 100000 in
theorem tPart_len {l : List Int} {a n : Int} (h : inR l a n = true) : (tPart l a n).length = n.toNat := by
  have := inR_yes h
  unfold tPart
  rw [List.length_map, List.length_take, List.length_drop]
  omega
set_option maxRecDepth 100000 in
theorem tPart_le (l : List Int) (a n : Int) : (tPart l a n).length ≤ l.length := by
  unfold tPart
  rw [List.length_map, List.length_take, List.length_drop]
  omega
set_option maxRecDepth 100000 in
theorem gOk_in {l : List Int} {a n : Int} (h : gOk l a n = true) : gIn l a n = true ∧ small (gPart l a n) = true ∧ (n % 2 = 0 ∨ halfAt (gPart l a n) 0 = 0) := by
  simp only [gOk, Bool.and_eq_true, Bool.or_eq_true, decide_eq_true_eq] at h
  exact ⟨h.1.1, h.1.2, h.2⟩
set_option maxRecDepth 100000 in
theorem gIn_bd {l : List Int} {a n : Int} (h : gIn l a n = true) : 1 ≤ n ∧ n ≤ 38 ∧ 0 ≤ a ∧ a + (n + 1) / 2 ≤ l.length := by
  simp only [gIn, Bool.and_eq_true, decide_eq_true_eq] at h; exact ⟨h.1.1.1, h.1.1.2, h.1.2, h.2⟩
set_option maxRecDepth 100000 in
theorem gTxt_ok {l : List Int} {a n : Int} (hl : isBytes l) (h : gOk l a n = true) : ((gTxt l a n).length : Int) = n ∧ digs ⟨(gTxt l a n).toArray⟩ = true := by
  obtain ⟨hi, hs, hz⟩ := gOk_in h
  have hb := gIn_bd hi
  have hp := gPart_len hi
  have hpb := gPart_bytes hl a n
  have hlen : ((gTxt l a n).length : Int) = n := by
    unfold gTxt
    rw [if_pos h]
    split
    · rw [List.length_drop, decN_len, hp]; omega
    · rw [decN_len, hp]; omega
  refine ⟨hlen, ?_⟩
  rw [digs_list _ (by omega)]
  unfold gTxt
  rw [if_pos h]
  split
  · next ho =>
    rw [all_tail hpb (by rw [hp]; omega) (by omega), hs]
  · rw [all_dec hpb, hs]
set_option maxRecDepth 100000 in
theorem lenEnd_bd (l : List Int) (a d : Int) : 0 ≤ lenEnd l a d ∧ lenEnd l a d ≤ l.length := by
  unfold lenEnd gEnd
  split
  · split
    · next h =>
      have := gIn_bd (gOk_in h).1
      omega
    · omega
  · omega
set_option maxRecDepth 100000 in
theorem lenVal_bd (l : List Int) (a d : Int) : 0 ≤ lenVal l a d ∧ lenVal l a d ≤ 999999999999999999 := by
  unfold lenVal narVal
  split
  · split
    · next h =>
      have := nar_scan h
      exact ⟨dec_pos _ (digs_all this.2.2.1), this.2.1⟩
    · omega
  · omega
set_option maxRecDepth 100000 in
theorem lenRes_trip (l : List Int) (a d : Int) : lenRes l a d = .returned (.tuple #[.int .i64 (lenVal l a d), .int .i64 (lenEnd l a d), .bool (lenGot l a d)]) := rfl
set_option maxRecDepth 100000 in
theorem lenGot_neg {l : List Int} {a d : Int} (h : a < 0) : lenGot l a d = false := by
  unfold lenGot
  rw [gOk_out (gIn_no (.inr (.inr (.inl h)))), Bool.and_false]

set_option maxRecDepth 100000 in
theorem bytesAt_out (hi : Nat) (v : Value) (l : List Int) (at' : Int) (n : Nat) (w : World) (hn : l.length ≤ 1073741824) (hn' : n ≤ 1000000000000000000) (h : rd .u8 hi w v l) (hbad : at' < 0 ∨ (l.length : Int) - n < at') :
    Calls Tryz.prog 95 #[v, .int .i64 at', .int .i64 (n : Int)] w fun e w' => e = .returned (.tuple #[.slice none 0 0, .bool false]) ∧ w = w' := by
  obtain ⟨A, c, rfl, hc, -⟩ := h
  by_cases h0 : at' < 0
  · go_enter Tryz.func95, Tryz.ntmps95
    go_wp2
    go_ret2
    exact ⟨rfl, rfl⟩
  · have h1 : (l.length : Int) - n < at' := by omega
    clear hbad
    go_enter Tryz.func95, Tryz.ntmps95
    go_wp2
    go_ret2
    exact ⟨rfl, rfl⟩
set_option maxRecDepth 100000 in
set_option maxHeartbeats 800000 in
theorem bytesAt_in (hi : Nat) (v : Value) (l : List Int) (a n : Nat) (w : World) (hn : l.length ≤ 1073741824) (h : rd .u8 hi w v l) (han : a + n ≤ l.length) :
    Calls Tryz.prog 95 #[v, .int .i64 (a : Int), .int .i64 (n : Int)] w fun e w' => ∃ u, e = .returned (.tuple #[u, .bool true]) ∧ rd .u8 hi w u ((l.drop a).take n) ∧ w = w' := by
  obtain ⟨A, c, rfl, hc, hj⟩ := h
  by_cases hl0 : l.length = 0
  · have hl : l = [] := List.eq_nil_of_length_eq_zero hl0
    subst hl
    obtain rfl : a = 0 := by simp at han; omega
    obtain rfl : n = 0 := by simp at han; omega
    have q3 : (0 : Int) ≤ (c : Int) := by omega
    clear hj hl0
    cases A with
    | none =>
      go_enter Tryz.func95, Tryz.ntmps95
      go_wp2
      go_ret2
      exact ⟨_, rfl, ⟨none, c, rfl, by simp, fun j hj => by simp at hj⟩, rfl⟩
    | some ad =>
      by_cases hc0 : c = 0
      · subst hc0
        go_enter Tryz.func95, Tryz.ntmps95
        go_wp2
        go_ret2
        exact ⟨_, rfl, ⟨_, _, rfl, by simp, fun j hj => by simp at hj⟩, rfl⟩
      · go_enter Tryz.func95, Tryz.ntmps95
        go_wp2
        go_ret2
        exact ⟨_, rfl, ⟨_, _, rfl, by simp, fun j hj => by simp at hj⟩, rfl⟩
  obtain ⟨b, off, rfl, hb, -⟩ := hj 0 (by omega)
  have hj' : ∀ j, j < l.length → w.cell? ⟨b, off + j, none⟩ = some (.int .u8 (l.getD j 0)) := fun j hjl => by
    obtain ⟨b', off', e, _, hx⟩ := hj j hjl
    simp only [Option.some.injEq, Addr.mk.injEq, and_true] at e
    obtain ⟨rfl, rfl⟩ := e
    exact hx
  have HR := Lib.hid (rd_part hj' hb hc han)
  have q1 : (0 : Int) ≤ (a : Int) := by omega
  have q2 : (a : Int) + (n : Int) ≤ (c : Int) := by omega
  have q3 : (a : Int) ≤ (a : Int) + (n : Int) := by omega
  have HA := Lib.hid han
  clear hj hj'
  by_cases hca : c = a
  · have HX := Lib.hid hca
    obtain rfl : n = 0 := by omega
    go_enter Tryz.func95, Tryz.ntmps95
    go_wp2
    go_ret2
    refine ⟨_, rfl, ?_, rfl⟩
    exact ⟨some ⟨b, off, none⟩, c - a, by simp; have := HX.out; omega, by simp, fun j hj => by simp at hj⟩
  · go_enter Tryz.func95, Tryz.ntmps95
    go_wp2
    go_ret2
    refine ⟨_, rfl, ?_, rfl⟩
    show rd .u8 hi w (.slice (some ⟨b, off + a, none⟩) (a + n - a) (c - a)) _
    rw [Nat.add_sub_cancel_left]
    exact HR.out

end Go.Proofs.YtkkbhlaakhkjnaaGreatDoor
/- GetField of the program; the sentinel of the number scanner holds an error. -/
set_option linter.unusedVariables false
namespace Go.Proofs.YtkkbhlaakhkjnaaGreatDoor
open Go.ChangeShapes Go.WideShapes Go.ChangeAt Go.RowKit

set_option maxRecDepth 100000 in
theorem getText_any (hi : Nat) (v : Value) (l : List Int) (a n : Int) (w : World) (hn : l.length ≤ 1073741824) (hn0 : 0 ≤ n) (hn1 : n ≤ 1000000000000000000) (h : rd .u8 hi w v l) :
    Calls Tryz.prog 104 #[v, .int .i64 a, .int .i64 n] w fun e w' => e = trip (inR l a n) (tPart l a n) (a + n) ∧ Below w.heap.size w w' := by
  obtain ⟨m, rfl⟩ : ∃ m : Nat, n = m := ⟨n.toNat, by omega⟩
  have H := Lib.hid h
  clear h
  cases hr : inR l a (m : Int)
  · rw [trip_no]
    have hbad : a < 0 ∨ (l.length : Int) - (m : Int) < a := by
      rcases Int.lt_or_le a 0 with h0 | h0
      · exact Or.inl h0
      · rcases Int.lt_or_le ((l.length : Int) - m) a with h1 | h1
        · exact Or.inr h1
        · have : inR l a (m : Int) = true := by simp [inR]; omega
          rw [this] at hr; cases hr
    have HB := Lib.hid hbad
    clear hbad hr
    go_enter Tryz.func104, Tryz.ntmps104
    go_wp2_with fail
    refine (bytesAt_out hi _ l a m w hn (by omega) H.out HB.out).mono ?_
    rintro e w1 ⟨rfl, rfl⟩
    go_wp2
    go_ret3
    exact ⟨rfl, Below.refl _ _⟩
  · have hb := inR_yes hr
    rw [trip_yes]
    obtain ⟨b0, rfl⟩ : ∃ b0 : Nat, a = b0 := ⟨a.toNat, by omega⟩
    have HT : Hid (tPart l (b0 : Int) (m : Int) = ((l.drop b0).take m).map byteOf) := Lib.hid rfl
    have han : b0 + m ≤ l.length := by omega
    clear hr hb
    rw [HT.out]
    clear HT
    have HY := Lib.hid (bytesAt_in hi _ l b0 m w hn H.out han)
    clear H
    generalize (l.drop b0).take m = q at HY ⊢
    go_enter Tryz.func104, Tryz.ntmps104
    go_wp2_with fail
    refine HY.out.mono ?_
    rintro e w1 ⟨u, rfl, hu, rfl⟩
    have hst := str_of_rd hu
    clear hu
    go_wp2
    go_ret3
    exact ⟨rfl, Below.refl _ _⟩

set_option maxRecDepth 100000 in
set_option maxHeartbeats 800000 in
theorem getBehindBcd_any (hi : Nat) (v : Value) (l : List Int) (a : Int) (w : World) (p : Addr) (hg : 1 < w.heap.size) (hc : w.cell? ⟨1, 0, none⟩ = some (.iface 183 (.pointer (some p)))) (hn : l.length ≤ 1073741824) (ha : a ≤ 9223372036854775807) (hl : isBytes l) (h : rd .u8 hi w v l) (hhi : hi ≤ w.heap.size) :
    Calls Tryz.prog 125 #[v, .int .i64 a, .int .i64 2, .func (.func 80) #[] #[]] w fun e w' => e = trip (lenGot l a 2 && gOk l (lenEnd l a 2) (lenVal l a 2)) (gTxt l (lenEnd l a 2) (lenVal l a 2)) (gEnd l (lenEnd l a 2) (lenVal l a 2)) ∧ Below w.heap.size w w' := by
  have H := Lib.hid h
  have HL := Lib.hid hl
  have HC := Lib.hid hc
  have he := lenEnd_bd l a 2
  have hv := lenVal_bd l a 2
  clear h hc hl
  cases hgot : lenGot l a 2
  · have HG := Lib.hid hgot
    rw [Bool.false_and, trip_no]
    clear hgot
    go_enter Tryz.func125, Tryz.ntmps125
    go_wp2_with fail
    refine (implGetLen_any hi _ l a _ _ p hg HC.out hn ha HL.out H.out hhi).mono ?_
    rw [lenRes_trip, HG.out]
    rintro e w1 ⟨rfl, hb⟩
    go_wp2
    go_ret3
    exact ⟨rfl, hb⟩
  · have HG := Lib.hid hgot
    rw [Bool.true_and]
    clear hgot
    go_enter Tryz.func125, Tryz.ntmps125
    go_wp2_with fail
    refine (implGetLen_any hi _ l a _ _ p hg HC.out hn ha HL.out H.out hhi).mono ?_
    rw [lenRes_trip, HG.out]
    rintro e w1 ⟨rfl, hb⟩
    have HB1 := Lib.hid hb
    have hz1 := hb.size
    clear hb
    go_wp2_with fail
    refine (implGetBcd_any hi _ l _ _ _ hn (by omega) HL.out (H.out.below HB1.out hhi) (Nat.le_trans hhi hz1)).mono ?_
    rintro e w2 ⟨he2, hb2⟩
    rw [gRes_trip] at he2
    obtain ⟨s0, x0, b0, hf⟩ := trip_form (gOk l (lenEnd l a 2) (lenVal l a 2)) (gTxt l (lenEnd l a 2) (lenVal l a 2)) (gEnd l (lenEnd l a 2) (lenVal l a 2))
    have HF := Lib.hid hf
    rw [hf] at he2
    clear hf
    subst he2
    go_wp2
    go_ret3
    rw [HF.out]
    exact ⟨rfl, HB1.out.trans (hb2.mono hz1)⟩

set_option maxRecDepth 100000 in
set_option maxHeartbeats 800000 in
theorem getBehindText_any (hi : Nat) (v : Value) (l : List Int) (a : Int) (w : World) (p : Addr) (hg : 1 < w.heap.size) (hc : w.cell? ⟨1, 0, none⟩ = some (.iface 183 (.pointer (some p)))) (hn : l.length ≤ 1073741824) (ha : a ≤ 9223372036854775807) (hl : isBytes l) (h : rd .u8 hi w v l) (hhi : hi ≤ w.heap.size) :
    Calls Tryz.prog 125 #[v, .int .i64 a, .int .i64 2, .func (.func 104) #[] #[]] w fun e w' => e = trip (lenGot l a 2 && inR l (lenEnd l a 2) (lenVal l a 2)) (tPart l (lenEnd l a 2) (lenVal l a 2)) (lenEnd l a 2 + lenVal l a 2) ∧ Below w.heap.size w w' := by
  have H := Lib.hid h
  have HL := Lib.hid hl
  have HC := Lib.hid hc
  have he := lenEnd_bd l a 2
  have hv := lenVal_bd l a 2
  clear h hc hl
  cases hgot : lenGot l a 2
  · have HG := Lib.hid hgot
    rw [Bool.false_and, trip_no]
    clear hgot
    go_enter Tryz.func125, Tryz.ntmps125
    go_wp2_with fail
    refine (implGetLen_any hi _ l a _ _ p hg HC.out hn ha HL.out H.out hhi).mono ?_
    rw [lenRes_trip, HG.out]
    rintro e w1 ⟨rfl, hb⟩
    go_wp2
    go_ret3
    exact ⟨rfl, hb⟩
  · have HG := Lib.hid hgot
    rw [Bool.true_and]
    clear hgot
    go_enter Tryz.func125, Tryz.ntmps125
    go_wp2_with fail
    refine (implGetLen_any hi _ l a _ _ p hg HC.out hn ha HL.out H.out hhi).mono ?_
    rw [lenRes_trip, HG.out]
    rintro e w1 ⟨rfl, hb⟩
    have HB1 := Lib.hid hb
    have hz1 := hb.size
    clear hb
    go_wp2_with fail
    refine (getText_any hi _ l _ _ _ hn (by omega) (by omega) (H.out.below HB1.out hhi)).mono ?_
    rintro e w2 ⟨he2, hb2⟩
    skip
    obtain ⟨s0, x0, b0, hf⟩ := trip_form (inR l (lenEnd l a 2) (lenVal l a 2)) (tPart l (lenEnd l a 2) (lenVal l a 2)) (lenEnd l a 2 + lenVal l a 2)
    have HF := Lib.hid hf
    rw [hf] at he2
    clear hf
    subst he2
    go_wp2
    go_ret3
    rw [HF.out]
    exact ⟨rfl, HB1.out.trans (hb2.mono hz1)⟩

set_option maxRecDepth 100000 in
set_option maxHeartbeats 800000 in
theorem getBehindLong_any (hi : Nat) (v : Value) (l : List Int) (a : Int) (w : World) (p : Addr) (hg : 1 < w.heap.size) (hc : w.cell? ⟨1, 0, none⟩ = some (.iface 183 (.pointer (some p)))) (hn : l.length ≤ 1073741824) (ha : a ≤ 9223372036854775807) (hl : isBytes l) (h : rd .u8 hi w v l) (hhi : hi ≤ w.heap.size) :
    Calls Tryz.prog 125 #[v, .int .i64 a, .int .i64 3, .func (.func 104) #[] #[]] w fun e w' => e = trip (lenGot l a 3 && inR l (lenEnd l a 3) (lenVal l a 3)) (tPart l (lenEnd l a 3) (lenVal l a 3)) (lenEnd l a 3 + lenVal l a 3) ∧ Below w.heap.size w w' := by
  have H := Lib.hid h
  have HL := Lib.hid hl
  have HC := Lib.hid hc
  have he := lenEnd_bd l a 3
  have hv := lenVal_bd l a 3
  clear h hc hl
  cases hgot : lenGot l a 3
  · have HG := Lib.hid hgot
    rw [Bool.false_and, trip_no]
    clear hgot
    go_enter Tryz.func125, Tryz.ntmps125
    go_wp2_with fail
    refine (implGetLen_any hi _ l a _ _ p hg HC.out hn ha HL.out H.out hhi).mono ?_
    rw [lenRes_trip, HG.out]
    rintro e w1 ⟨rfl, hb⟩
    go_wp2
    go_ret3
    exact ⟨rfl, hb⟩
  · have HG := Lib.hid hgot
    rw [Bool.true_and]
    clear hgot
    go_enter Tryz.func125, Tryz.ntmps125
    go_wp2_with fail
    refine (implGetLen_any hi _ l a _ _ p hg HC.out hn ha HL.out H.out hhi).mono ?_
    rw [lenRes_trip, HG.out]
    rintro e w1 ⟨rfl, hb⟩
    have HB1 := Lib.hid hb
    have hz1 := hb.size
    clear hb
    go_wp2_with fail
    refine (getText_any hi _ l _ _ _ hn (by omega) (by omega) (H.out.below HB1.out hhi)).mono ?_
    rintro e w2 ⟨he2, hb2⟩
    skip
    obtain ⟨s0, x0, b0, hf⟩ := trip_form (inR l (lenEnd l a 3) (lenVal l a 3)) (tPart l (lenEnd l a 3) (lenVal l a 3)) (lenEnd l a 3 + lenVal l a 3)
    have HF := Lib.hid hf
    rw [hf] at he2
    clear hf
    subst he2
    go_wp2
    go_ret3
    rw [HF.out]
    exact ⟨rfl, HB1.out.trans (hb2.mono hz1)⟩

set_option maxRecDepth 100000 in
theorem getNumVar_any (hi : Nat) (v : Value) (l : List Int) (a n : Int) (w : World) (p : Addr) (hg : 1 < w.heap.size) (hc : w.cell? ⟨1, 0, none⟩ = some (.iface 183 (.pointer (some p)))) (hn : l.length ≤ 1073741824) (ha : a ≤ 9223372036854775807) (hl : isBytes l) (h : rd .u8 hi w v l) (hhi : hi ≤ w.heap.size) :
    Calls Tryz.prog 106 #[v, .int .i64 a, .int .i64 n] w fun e w' => e = trip (lenGot l a 2 && gOk l (lenEnd l a 2) (lenVal l a 2)) (gTxt l (lenEnd l a 2) (lenVal l a 2)) (gEnd l (lenEnd l a 2) (lenVal l a 2)) ∧ Below w.heap.size w w' := by
  have HH := Lib.hid (getBehindBcd_any hi v l a w p hg hc hn ha hl h hhi)
  clear h hc hl
  go_enter Tryz.func106, Tryz.ntmps106
  go_wp2_with fail
  refine HH.out.mono ?_
  rintro e w1 ⟨he, hb⟩
  obtain ⟨s0, x0, b0, hf⟩ := trip_form (lenGot l a 2 && gOk l (lenEnd l a 2) (lenVal l a 2)) (gTxt l (lenEnd l a 2) (lenVal l a 2)) (gEnd l (lenEnd l a 2) (lenVal l a 2))
  have HF := Lib.hid hf
  rw [hf] at he
  clear hf
  subst he
  go_wp2
  go_ret3
  rw [HF.out]
  exact ⟨rfl, hb⟩

set_option maxRecDepth 100000 in
theorem getTextVar_any (hi : Nat) (v : Value) (l : List Int) (a n : Int) (w : World) (p : Addr) (hg : 1 < w.heap.size) (hc : w.cell? ⟨1, 0, none⟩ = some (.iface 183 (.pointer (some p)))) (hn : l.length ≤ 1073741824) (ha : a ≤ 9223372036854775807) (hl : isBytes l) (h : rd .u8 hi w v l) (hhi : hi ≤ w.heap.size) :
    Calls Tryz.prog 108 #[v, .int .i64 a, .int .i64 n] w fun e w' => e = trip (lenGot l a 2 && inR l (lenEnd l a 2) (lenVal l a 2)) (tPart l (lenEnd l a 2) (lenVal l a 2)) (lenEnd l a 2 + lenVal l a 2) ∧ Below w.heap.size w w' := by
  have HH := Lib.hid (getBehindText_any hi v l a w p hg hc hn ha hl h hhi)
  clear h hc hl
  go_enter Tryz.func108, Tryz.ntmps108
  go_wp2_with fail
  refine HH.out.mono ?_
  rintro e w1 ⟨he, hb⟩
  obtain ⟨s0, x0, b0, hf⟩ := trip_form (lenGot l a 2 && inR l (lenEnd l a 2) (lenVal l a 2)) (tPart l (lenEnd l a 2) (lenVal l a 2)) (lenEnd l a 2 + lenVal l a 2)
  have HF := Lib.hid hf
  rw [hf] at he
  clear hf
  subst he
  go_wp2
  go_ret3
  rw [HF.out]
  exact ⟨rfl, hb⟩

set_option maxRecDepth 100000 in
theorem getTextLong_any (hi : Nat) (v : Value) (l : List Int) (a n : Int) (w : World) (p : Addr) (hg : 1 < w.heap.size) (hc : w.cell? ⟨1, 0, none⟩ = some (.iface 183 (.pointer (some p)))) (hn : l.length ≤ 1073741824) (ha : a ≤ 9223372036854775807) (hl : isBytes l) (h : rd .u8 hi w v l) (hhi : hi ≤ w.heap.size) :
    Calls Tryz.prog 110 #[v, .int .i64 a, .int .i64 n] w fun e w' => e = trip (lenGot l a 3 && inR l (lenEnd l a 3) (lenVal l a 3)) (tPart l (lenEnd l a 3) (lenVal l a 3)) (lenEnd l a 3 + lenVal l a 3) ∧ Below w.heap.size w w' := by
  have HH := Lib.hid (getBehindLong_any hi v l a w p hg hc hn ha hl h hhi)
  clear h hc hl
  go_enter Tryz.func110, Tryz.ntmps110
  go_wp2_with fail
  refine HH.out.mono ?_
  rintro e w1 ⟨he, hb⟩
  obtain ⟨s0, x0, b0, hf⟩ := trip_form (lenGot l a 3 && inR l (lenEnd l a 3) (lenVal l a 3)) (tPart l (lenEnd l a 3) (lenVal l a 3)) (lenEnd l a 3 + lenVal l a 3)
  have HF := Lib.hid hf
  rw [hf] at he
  clear hf
  subst he
  go_wp2
  go_ret3
  rw [HF.out]
  exact ⟨rfl, hb⟩

/-- what the decoder of a kind finds, before it is asked whether it fits -/
def rawOk (kd : Int) (l : List Int) (a sz : Int) : Bool := if kd = 1 then gOk l a sz else if kd = 2 then inR l a sz else if kd = 3 then (lenGot l a 2 && gOk l (lenEnd l a 2) (lenVal l a 2)) else if kd = 4 then (lenGot l a 2 && inR l (lenEnd l a 2) (lenVal l a 2)) else (lenGot l a 3 && inR l (lenEnd l a 3) (lenVal l a 3))
def rawTxt (kd : Int) (l : List Int) (a sz : Int) : List UInt8 := if kd = 1 then gTxt l a sz else if kd = 2 then tPart l a sz else if kd = 3 then gTxt l (lenEnd l a 2) (lenVal l a 2) else if kd = 4 then tPart l (lenEnd l a 2) (lenVal l a 2) else tPart l (lenEnd l a 3) (lenVal l a 3)
def rawEnd (kd : Int) (l : List Int) (a sz : Int) : Int := if kd = 1 then gEnd l a sz else if kd = 2 then (a + sz) else if kd = 3 then gEnd l (lenEnd l a 2) (lenVal l a 2) else if kd = 4 then (lenEnd l a 2 + lenVal l a 2) else (lenEnd l a 3 + lenVal l a 3)
def getOk (kd : Int) (l : List Int) (a sz : Int) : Bool := rawOk kd l a sz && okBy kd sz ⟨(rawTxt kd l a sz).toArray⟩
/-- what GetField finds -/
def getRes (l : List Int) (a no : Int) : Ending := if fKind no = 0 then trip false [] 0 else trip (getOk (fKind no) l a (fSize no)) (rawTxt (fKind no) l a (fSize no)) (rawEnd (fKind no) l a (fSize no))
set_option maxRecDepth 100000 in
theorem rawTxt_le (kd : Int) (l : List Int) (a sz : Int) (hn : l.length ≤ 1073741824) : (rawTxt kd l a sz).length ≤ 1073741824 := by
  unfold rawTxt
  repeat' split
  all_goals first | exact Nat.le_trans (gTxt_len _ _ _) (by decide) | exact Nat.le_trans (tPart_le _ _ _) hn
set_option maxRecDepth 100000 in
set_option maxHeartbeats 1600000 in
theorem implGetField_any (hi : Nat) (v : Value) (l : List Int) (a no : Int) (w : World) (p : Addr) (hg : 1 < w.heap.size) (hc : w.cell? ⟨1, 0, none⟩ = some (.iface 183 (.pointer (some p)))) (hn : l.length ≤ 1073741824) (ha : a ≤ 9223372036854775807) (hl : isBytes l) (h : rd .u8 hi w v l) (hhi : hi ≤ w.heap.size) :
    Calls Tryz.prog 83 #[v, .int .i64 a, .int .i64 no] w fun e w' => e = getRes l a no ∧ Below w.heap.size w w' := by
  have H := Lib.hid h
  have HL := Lib.hid hl
  have HC := Lib.hid hc
  clear h hc hl
  by_cases hk0 : fKind no = 0
  · have HR := Lib.hid (rowV_zero hk0)
    have HZ : Hid (getRes l a no = trip false [] 0) := Lib.hid (by rw [getRes, if_pos hk0])
    clear hk0
    rw [HZ.out, trip_no]
    go_enter Tryz.func83, Tryz.ntmps83
    go_wp2_with fail
    refine (fieldAt_any no _).mono ?_
    rintro e w1 ⟨he, hb⟩
    rw [HR.out] at he
    subst he
    go_wp2
    go_ret3
    exact ⟨rfl, below_new hb hb.size⟩
  have HR := Lib.hid (rowV_yes hk0)
  have HZ : Hid (getRes l a no = trip (getOk (fKind no) l a (fSize no)) (rawTxt (fKind no) l a (fSize no)) (rawEnd (fKind no) l a (fSize no))) := Lib.hid (by rw [getRes, if_neg hk0])
  have hsz := (kind_size no).2.2.2.2
  have hs0 := fSize_pos hk0
  have hk := kind_cases no
  rw [HZ.out]
  clear HZ
  generalize fKind no = kd at HR hk hk0
  generalize fSize no = sz at HR hsz hs0
  rcases hk with rfl | rfl | rfl | rfl | rfl | rfl
  · exact absurd rfl hk0
  · have HRaw : Hid (gOk l a sz = rawOk 1 l a sz ∧ gTxt l a sz = rawTxt 1 l a sz ∧ gEnd l a sz = rawEnd 1 l a sz) := Lib.hid ⟨rfl, rfl, rfl⟩
    have HM := Lib.hid (rawTxt_le 1 l a sz hn)
    rw [show getId 1 = 80 from rfl] at HR
    generalize putId 1 = pi at HR
    unfold getOk
    clear hk0
    generalize rawTxt 1 l a sz = t at HRaw HM ⊢
    generalize rawEnd 1 l a sz = en at HRaw ⊢
    generalize rawOk 1 l a sz = ro at HRaw ⊢
    have HQ : Hid ((⟨t.toArray⟩ : ByteArray).size ≤ maxLen) := Lib.hid (by have := HM.out; show t.length ≤ maxLen; unfold maxLen; omega)
    cases ro
    · rw [Bool.false_and, trip_no]
      go_enter Tryz.func83, Tryz.ntmps83
      go_wp2_with fail
      refine (fieldAt_any no _).mono ?_
      rintro e w1 ⟨he, hb⟩
      rw [HR.out] at he
      subst he
      have hz := hb.size
      have hby := bk.new w1 94 [.int .i64 no, .int .i64 sz, .int .i64 1, .func (.func pi) #[] #[], .func (.func 80) #[] #[]]
      have hBB : Below w.heap.size w (w1.alloc (.cells [.int .i64 no, .int .i64 sz, .int .i64 1, .func (.func pi) #[] #[], .func (.func 80) #[] #[]].toArray 94)) := below_new hb hz
      have hz2 := hBB.size
      have HBB := Lib.hid hBB
      have HY := Lib.hid hby
      clear hb hBB hby
      go_wp2_with fail
      refine (implGetBcd_any hi _ l a sz _ hn ha HL.out (H.out.below HBB.out hhi) (Nat.le_trans hhi hz2)).mono ?_
      rintro e w3 ⟨he3, hb3⟩
      rw [gRes_trip] at he3
      rw [HRaw.out.1, HRaw.out.2.1, HRaw.out.2.2] at he3
      have hB3 := HBB.out.trans (hb3.mono hz2)
      have hY3 := HY.out.below hb3 HY.out.lt
      have hz3 := hB3.size
      have HB3 := Lib.hid hB3
      clear hb3 hB3 HRaw HY HBB
      rw [trip_no] at he3
      subst he3
      clear hY3
      go_wp2
      go_ret3
      exact ⟨rfl, HB3.out⟩
    rw [Bool.true_and]
    cases hq : okBy 1 sz ⟨t.toArray⟩
    · have HO := Lib.hid hq
      clear hq
      rw [trip_no]
      go_enter Tryz.func83, Tryz.ntmps83
      go_wp2_with fail
      refine (fieldAt_any no _).mono ?_
      rintro e w1 ⟨he, hb⟩
      rw [HR.out] at he
      subst he
      have hz := hb.size
      have hby := bk.new w1 94 [.int .i64 no, .int .i64 sz, .int .i64 1, .func (.func pi) #[] #[], .func (.func 80) #[] #[]]
      have hBB : Below w.heap.size w (w1.alloc (.cells [.int .i64 no, .int .i64 sz, .int .i64 1, .func (.func pi) #[] #[], .func (.func 80) #[] #[]].toArray 94)) := below_new hb hz
      have hz2 := hBB.size
      have HBB := Lib.hid hBB
      have HY := Lib.hid hby
      clear hb hBB hby
      go_wp2_with fail
      refine (implGetBcd_any hi _ l a sz _ hn ha HL.out (H.out.below HBB.out hhi) (Nat.le_trans hhi hz2)).mono ?_
      rintro e w3 ⟨he3, hb3⟩
      rw [gRes_trip] at he3
      rw [HRaw.out.1, HRaw.out.2.1, HRaw.out.2.2] at he3
      have hB3 := HBB.out.trans (hb3.mono hz2)
      have hY3 := HY.out.below hb3 HY.out.lt
      have hz3 := hB3.size
      have HB3 := Lib.hid hB3
      clear hb3 hB3 HRaw HY HBB
      rw [trip_yes] at he3
      subst he3
      have c0 := hY3.cell 0
      have c1 := hY3.cell 1
      have c2 := hY3.cell 2
      have c3 := hY3.cell 3
      have c4 := hY3.cell 4
      simp only [List.getElem?_cons_zero, List.getElem?_cons_succ] at c0 c1 c2 c3 c4
      clear hY3
      go_wp2_with fail
      refine (allows_any no sz 1 _ _ _ _ HQ.out (by omega)).mono ?_
      rw [HO.out]
      rintro e w4 ⟨rfl, hb4⟩
      go_wp2
      go_ret3
      exact ⟨rfl, HB3.out.trans (hb4.mono hz3)⟩
    · have HO := Lib.hid hq
      clear hq
      rw [trip_yes]
      go_enter Tryz.func83, Tryz.ntmps83
      go_wp2_with fail
      refine (fieldAt_any no _).mono ?_
      rintro e w1 ⟨he, hb⟩
      rw [HR.out] at he
      subst he
      have hz := hb.size
      have hby := bk.new w1 94 [.int .i64 no, .int .i64 sz, .int .i64 1, .func (.func pi) #[] #[], .func (.func 80) #[] #[]]
      have hBB : Below w.heap.size w (w1.alloc (.cells [.int .i64 no, .int .i64 sz, .int .i64 1, .func (.func pi) #[] #[], .func (.func 80) #[] #[]].toArray 94)) := below_new hb hz
      have hz2 := hBB.size
      have HBB := Lib.hid hBB
      have HY := Lib.hid hby
      clear hb hBB hby
      go_wp2_with fail
      refine (implGetBcd_any hi _ l a sz _ hn ha HL.out (H.out.below HBB.out hhi) (Nat.le_trans hhi hz2)).mono ?_
      rintro e w3 ⟨he3, hb3⟩
      rw [gRes_trip] at he3
      rw [HRaw.out.1, HRaw.out.2.1, HRaw.out.2.2] at he3
      have hB3 := HBB.out.trans (hb3.mono hz2)
      have hY3 := HY.out.below hb3 HY.out.lt
      have hz3 := hB3.size
      have HB3 := Lib.hid hB3
      clear hb3 hB3 HRaw HY HBB
      rw [trip_yes] at he3
      subst he3
      have c0 := hY3.cell 0
      have c1 := hY3.cell 1
      have c2 := hY3.cell 2
      have c3 := hY3.cell 3
      have c4 := hY3.cell 4
      simp only [List.getElem?_cons_zero, List.getElem?_cons_succ] at c0 c1 c2 c3 c4
      clear hY3
      go_wp2_with fail
      refine (allows_any no sz 1 _ _ _ _ HQ.out (by omega)).mono ?_
      rw [HO.out]
      rintro e w4 ⟨rfl, hb4⟩
      go_wp2
      go_ret3
      exact ⟨rfl, HB3.out.trans (hb4.mono hz3)⟩
  · have HRaw : Hid (inR l a sz = rawOk 2 l a sz ∧ tPart l a sz = rawTxt 2 l a sz ∧ (a + sz) = rawEnd 2 l a sz) := Lib.hid ⟨rfl, rfl, rfl⟩
    have HM := Lib.hid (rawTxt_le 2 l a sz hn)
    rw [show getId 2 = 104 from rfl] at HR
    generalize putId 2 = pi at HR
    unfold getOk
    clear hk0
    generalize rawTxt 2 l a sz = t at HRaw HM ⊢
    generalize rawEnd 2 l a sz = en at HRaw ⊢
    generalize rawOk 2 l a sz = ro at HRaw ⊢
    have HQ : Hid ((⟨t.toArray⟩ : ByteArray).size ≤ maxLen) := Lib.hid (by have := HM.out; show t.length ≤ maxLen; unfold maxLen; omega)
    cases ro
    · rw [Bool.false_and, trip_no]
      go_enter Tryz.func83, Tryz.ntmps83
      go_wp2_with fail
      refine (fieldAt_any no _).mono ?_
      rintro e w1 ⟨he, hb⟩
      rw [HR.out] at he
      subst he
      have hz := hb.size
      have hby := bk.new w1 94 [.int .i64 no, .int .i64 sz, .int .i64 2, .func (.func pi) #[] #[], .func (.func 104) #[] #[]]
      have hBB : Below w.heap.size w (w1.alloc (.cells [.int .i64 no, .int .i64 sz, .int .i64 2, .func (.func pi) #[] #[], .func (.func 104) #[] #[]].toArray 94)) := below_new hb hz
      have hz2 := hBB.size
      have HBB := Lib.hid hBB
      have HY := Lib.hid hby
      clear hb hBB hby
      go_wp2_with fail
      refine (getText_any hi _ l a sz _ hn (by omega) (by omega) (H.out.below HBB.out hhi)).mono ?_
      rintro e w3 ⟨he3, hb3⟩
      skip
      rw [HRaw.out.1, HRaw.out.2.1, HRaw.out.2.2] at he3
      have hB3 := HBB.out.trans (hb3.mono hz2)
      have hY3 := HY.out.below hb3 HY.out.lt
      have hz3 := hB3.size
      have HB3 := Lib.hid hB3
      clear hb3 hB3 HRaw HY HBB
      rw [trip_no] at he3
      subst he3
      clear hY3
      go_wp2
      go_ret3
      exact ⟨rfl, HB3.out⟩
    rw [Bool.true_and]
    cases hq : okBy 2 sz ⟨t.toArray⟩
    · have HO := Lib.hid hq
      clear hq
      rw [trip_no]
      go_enter Tryz.func83, Tryz.ntmps83
      go_wp2_with fail
      refine (fieldAt_any no _).mono ?_
      rintro e w1 ⟨he, hb⟩
      rw [HR.out] at he
      subst he
      have hz := hb.size
      have hby := bk.new w1 94 [.int .i64 no, .int .i64 sz, .int .i64 2, .func (.func pi) #[] #[], .func (.func 104) #[] #[]]
      have hBB : Below w.heap.size w (w1.alloc (.cells [.int .i64 no, .int .i64 sz, .int .i64 2, .func (.func pi) #[] #[], .func (.func 104) #[] #[]].toArray 94)) := below_new hb hz
      have hz2 := hBB.size
      have HBB := Lib.hid hBB
      have HY := Lib.hid hby
      clear hb hBB hby
      go_wp2_with fail
      refine (getText_any hi _ l a sz _ hn (by omega) (by omega) (H.out.below HBB.out hhi)).mono ?_
      rintro e w3 ⟨he3, hb3⟩
      skip
      rw [HRaw.out.1, HRaw.out.2.1, HRaw.out.2.2] at he3
      have hB3 := HBB.out.trans (hb3.mono hz2)
      have hY3 := HY.out.below hb3 HY.out.lt
      have hz3 := hB3.size
      have HB3 := Lib.hid hB3
      clear hb3 hB3 HRaw HY HBB
      rw [trip_yes] at he3
      subst he3
      have c0 := hY3.cell 0
      have c1 := hY3.cell 1
      have c2 := hY3.cell 2
      have c3 := hY3.cell 3
      have c4 := hY3.cell 4
      simp only [List.getElem?_cons_zero, List.getElem?_cons_succ] at c0 c1 c2 c3 c4
      clear hY3
      go_wp2_with fail
      refine (allows_any no sz 2 _ _ _ _ HQ.out (by omega)).mono ?_
      rw [HO.out]
      rintro e w4 ⟨rfl, hb4⟩
      go_wp2
      go_ret3
      exact ⟨rfl, HB3.out.trans (hb4.mono hz3)⟩
    · have HO := Lib.hid hq
      clear hq
      rw [trip_yes]
      go_enter Tryz.func83, Tryz.ntmps83
      go_wp2_with fail
      refine (fieldAt_any no _).mono ?_
      rintro e w1 ⟨he, hb⟩
      rw [HR.out] at he
      subst he
      have hz := hb.size
      have hby := bk.new w1 94 [.int .i64 no, .int .i64 sz, .int .i64 2, .func (.func pi) #[] #[], .func (.func 104) #[] #[]]
      have hBB : Below w.heap.size w (w1.alloc (.cells [.int .i64 no, .int .i64 sz, .int .i64 2, .func (.func pi) #[] #[], .func (.func 104) #[] #[]].toArray 94)) := below_new hb hz
      have hz2 := hBB.size
      have HBB := Lib.hid hBB
      have HY := Lib.hid hby
      clear hb hBB hby
      go_wp2_with fail
      refine (getText_any hi _ l a sz _ hn (by omega) (by omega) (H.out.below HBB.out hhi)).mono ?_
      rintro e w3 ⟨he3, hb3⟩
      skip
      rw [HRaw.out.1, HRaw.out.2.1, HRaw.out.2.2] at he3
      have hB3 := HBB.out.trans (hb3.mono hz2)
      have hY3 := HY.out.below hb3 HY.out.lt
      have hz3 := hB3.size
      have HB3 := Lib.hid hB3
      clear hb3 hB3 HRaw HY HBB
      rw [trip_yes] at he3
      subst he3
      have c0 := hY3.cell 0
      have c1 := hY3.cell 1
      have c2 := hY3.cell 2
      have c3 := hY3.cell 3
      have c4 := hY3.cell 4
      simp only [List.getElem?_cons_zero, List.getElem?_cons_succ] at c0 c1 c2 c3 c4
      clear hY3
      go_wp2_with fail
      refine (allows_any no sz 2 _ _ _ _ HQ.out (by omega)).mono ?_
      rw [HO.out]
      rintro e w4 ⟨rfl, hb4⟩
      go_wp2
      go_ret3
      exact ⟨rfl, HB3.out.trans (hb4.mono hz3)⟩
  · have HRaw : Hid ((lenGot l a 2 && gOk l (lenEnd l a 2) (lenVal l a 2)) = rawOk 3 l a sz ∧ gTxt l (lenEnd l a 2) (lenVal l a 2) = rawTxt 3 l a sz ∧ gEnd l (lenEnd l a 2) (lenVal l a 2) = rawEnd 3 l a sz) := Lib.hid ⟨rfl, rfl, rfl⟩
    have HM := Lib.hid (rawTxt_le 3 l a sz hn)
    rw [show getId 3 = 106 from rfl] at HR
    generalize putId 3 = pi at HR
    unfold getOk
    clear hk0
    generalize rawTxt 3 l a sz = t at HRaw HM ⊢
    generalize rawEnd 3 l a sz = en at HRaw ⊢
    generalize rawOk 3 l a sz = ro at HRaw ⊢
    have HQ : Hid ((⟨t.toArray⟩ : ByteArray).size ≤ maxLen) := Lib.hid (by have := HM.out; show t.length ≤ maxLen; unfold maxLen; omega)
    cases ro
    · rw [Bool.false_and, trip_no]
      go_enter Tryz.func83, Tryz.ntmps83
      go_wp2_with fail
      refine (fieldAt_any no _).mono ?_
      rintro e w1 ⟨he, hb⟩
      rw [HR.out] at he
      subst he
      have hz := hb.size
      have hby := bk.new w1 94 [.int .i64 no, .int .i64 sz, .int .i64 3, .func (.func pi) #[] #[], .func (.func 106) #[] #[]]
      have hBB : Below w.heap.size w (w1.alloc (.cells [.int .i64 no, .int .i64 sz, .int .i64 3, .func (.func pi) #[] #[], .func (.func 106) #[] #[]].toArray 94)) := below_new hb hz
      have hz2 := hBB.size
      have HBB := Lib.hid hBB
      have HY := Lib.hid hby
      clear hb hBB hby
      go_wp2_with fail
      refine (getNumVar_any hi _ l a sz _ p (Nat.lt_of_lt_of_le hg hz2) ((HBB.out.cell (p := ⟨1, 0, none⟩) hg).trans HC.out) hn ha HL.out (H.out.below HBB.out hhi) (Nat.le_trans hhi hz2)).mono ?_
      rintro e w3 ⟨he3, hb3⟩
      skip
      rw [HRaw.out.1, HRaw.out.2.1, HRaw.out.2.2] at he3
      have hB3 := HBB.out.trans (hb3.mono hz2)
      have hY3 := HY.out.below hb3 HY.out.lt
      have hz3 := hB3.size
      have HB3 := Lib.hid hB3
      clear hb3 hB3 HRaw HY HBB
      rw [trip_no] at he3
      subst he3
      clear hY3
      go_wp2
      go_ret3
      exact ⟨rfl, HB3.out⟩
    rw [Bool.true_and]
    cases hq : okBy 3 sz ⟨t.toArray⟩
    · have HO := Lib.hid hq
      clear hq
      rw [trip_no]
      go_enter Tryz.func83, Tryz.ntmps83
      go_wp2_with fail
      refine (fieldAt_any no _).mono ?_
      rintro e w1 ⟨he, hb⟩
      rw [HR.out] at he
      subst he
      have hz := hb.size
      have hby := bk.new w1 94 [.int .i64 no, .int .i64 sz, .int .i64 3, .func (.func pi) #[] #[], .func (.func 106) #[] #[]]
      have hBB : Below w.heap.size w (w1.alloc (.cells [.int .i64 no, .int .i64 sz, .int .i64 3, .func (.func pi) #[] #[], .func (.func 106) #[] #[]].toArray 94)) := below_new hb hz
      have hz2 := hBB.size
      have HBB := Lib.hid hBB
      have HY := Lib.hid hby
      clear hb hBB hby
      go_wp2_with fail
      refine (getNumVar_any hi _ l a sz _ p (Nat.lt_of_lt_of_le hg hz2) ((HBB.out.cell (p := ⟨1, 0, none⟩) hg).trans HC.out) hn ha HL.out (H.out.below HBB.out hhi) (Nat.le_trans hhi hz2)).mono ?_
      rintro e w3 ⟨he3, hb3⟩
      skip
      rw [HRaw.out.1, HRaw.out.2.1, HRaw.out.2.2] at he3
      have hB3 := HBB.out.trans (hb3.mono hz2)
      have hY3 := HY.out.below hb3 HY.out.lt
      have hz3 := hB3.size
      have HB3 := Lib.hid hB3
      clear hb3 hB3 HRaw HY HBB
      rw [trip_yes] at he3
      subst he3
      have c0 := hY3.cell 0
      have c1 := hY3.cell 1
      have c2 := hY3.cell 2
      have c3 := hY3.cell 3
      have c4 := hY3.cell 4
      simp only [List.getElem?_cons_zero, List.getElem?_cons_succ] at c0 c1 c2 c3 c4
      clear hY3
      go_wp2_with fail
      refine (allows_any no sz 3 _ _ _ _ HQ.out (by omega)).mono ?_
      rw [HO.out]
      rintro e w4 ⟨rfl, hb4⟩
      go_wp2
      go_ret3
      exact ⟨rfl, HB3.out.trans (hb4.mono hz3)⟩
    · have HO := Lib.hid hq
      clear hq
      rw [trip_yes]
      go_enter Tryz.func83, Tryz.ntmps83
      go_wp2_with fail
      refine (fieldAt_any no _).mono ?_
      rintro e w1 ⟨he, hb⟩
      rw [HR.out] at he
      subst he
      have hz := hb.size
      have hby := bk.new w1 94 [.int .i64 no, .int .i64 sz, .int .i64 3, .func (.func pi) #[] #[], .func (.func 106) #[] #[]]
      have hBB : Below w.heap.size w (w1.alloc (.cells [.int .i64 no, .int .i64 sz, .int .i64 3, .func (.func pi) #[] #[], .func (.func 106) #[] #[]].toArray 94)) := below_new hb hz
      have hz2 := hBB.size
      have HBB := Lib.hid hBB
      have HY := Lib.hid hby
      clear hb hBB hby
      go_wp2_with fail
      refine (getNumVar_any hi _ l a sz _ p (Nat.lt_of_lt_of_le hg hz2) ((HBB.out.cell (p := ⟨1, 0, none⟩) hg).trans HC.out) hn ha HL.out (H.out.below HBB.out hhi) (Nat.le_trans hhi hz2)).mono ?_
      rintro e w3 ⟨he3, hb3⟩
      skip
      rw [HRaw.out.1, HRaw.out.2.1, HRaw.out.2.2] at he3
      have hB3 := HBB.out.trans (hb3.mono hz2)
      have hY3 := HY.out.below hb3 HY.out.lt
      have hz3 := hB3.size
      have HB3 := Lib.hid hB3
      clear hb3 hB3 HRaw HY HBB
      rw [trip_yes] at he3
      subst he3
      have c0 := hY3.cell 0
      have c1 := hY3.cell 1
      have c2 := hY3.cell 2
      have c3 := hY3.cell 3
      have c4 := hY3.cell 4
      simp only [List.getElem?_cons_zero, List.getElem?_cons_succ] at c0 c1 c2 c3 c4
      clear hY3
      go_wp2_with fail
      refine (allows_any no sz 3 _ _ _ _ HQ.out (by omega)).mono ?_
      rw [HO.out]
      rintro e w4 ⟨rfl, hb4⟩
      go_wp2
      go_ret3
      exact ⟨rfl, HB3.out.trans (hb4.mono hz3)⟩
  · have HRaw : Hid ((lenGot l a 2 && inR l (lenEnd l a 2) (lenVal l a 2)) = rawOk 4 l a sz ∧ tPart l (lenEnd l a 2) (lenVal l a 2) = rawTxt 4 l a sz ∧ (lenEnd l a 2 + lenVal l a 2) = rawEnd 4 l a sz) := Lib.hid ⟨rfl, rfl, rfl⟩
    have HM := Lib.hid (rawTxt_le 4 l a sz hn)
    rw [show getId 4 = 108 from rfl] at HR
    generalize putId 4 = pi at HR
    unfold getOk
    clear hk0
    generalize rawTxt 4 l a sz = t at HRaw HM ⊢
    generalize rawEnd 4 l a sz = en at HRaw ⊢
    generalize rawOk 4 l a sz = ro at HRaw ⊢
    have HQ : Hid ((⟨t.toArray⟩ : ByteArray).size ≤ maxLen) := Lib.hid (by have := HM.out; show t.length ≤ maxLen; unfold maxLen; omega)
    cases ro
    · rw [Bool.false_and, trip_no]
      go_enter Tryz.func83, Tryz.ntmps83
      go_wp2_with fail
      refine (fieldAt_any no _).mono ?_
      rintro e w1 ⟨he, hb⟩
      rw [HR.out] at he
      subst he
      have hz := hb.size
      have hby := bk.new w1 94 [.int .i64 no, .int .i64 sz, .int .i64 4, .func (.func pi) #[] #[], .func (.func 108) #[] #[]]
      have hBB : Below w.heap.size w (w1.alloc (.cells [.int .i64 no, .int .i64 sz, .int .i64 4, .func (.func pi) #[] #[], .func (.func 108) #[] #[]].toArray 94)) := below_new hb hz
      have hz2 := hBB.size
      have HBB := Lib.hid hBB
      have HY := Lib.hid hby
      clear hb hBB hby
      go_wp2_with fail
      refine (getTextVar_any hi _ l a sz _ p (Nat.lt_of_lt_of_le hg hz2) ((HBB.out.cell (p := ⟨1, 0, none⟩) hg).trans HC.out) hn ha HL.out (H.out.below HBB.out hhi) (Nat.le_trans hhi hz2)).mono ?_
      rintro e w3 ⟨he3, hb3⟩
      skip
      rw [HRaw.out.1, HRaw.out.2.1, HRaw.out.2.2] at he3
      have hB3 := HBB.out.trans (hb3.mono hz2)
      have hY3 := HY.out.below hb3 HY.out.lt
      have hz3 := hB3.size
      have HB3 := Lib.hid hB3
      clear hb3 hB3 HRaw HY HBB
      rw [trip_no] at he3
      subst he3
      clear hY3
      go_wp2
      go_ret3
      exact ⟨rfl, HB3.out⟩
    rw [Bool.true_and]
    cases hq : okBy 4 sz ⟨t.toArray⟩
    · have HO := Lib.hid hq
      clear hq
      rw [trip_no]
      go_enter Tryz.func83, Tryz.ntmps83
      go_wp2_with fail
      refine (fieldAt_any no _).mono ?_
      rintro e w1 ⟨he, hb⟩
      rw [HR.out] at he
      subst he
      have hz := hb.size
      have hby := bk.new w1 94 [.int .i64 no, .int .i64 sz, .int .i64 4, .func (.func pi) #[] #[], .func (.func 108) #[] #[]]
      have hBB : Below w.heap.size w (w1.alloc (.cells [.int .i64 no, .int .i64 sz, .int .i64 4, .func (.func pi) #[] #[], .func (.func 108) #[] #[]].toArray 94)) := below_new hb hz
      have hz2 := hBB.size
      have HBB := Lib.hid hBB
      have HY := Lib.hid hby
      clear hb hBB hby
      go_wp2_with fail
      refine (getTextVar_any hi _ l a sz _ p (Nat.lt_of_lt_of_le hg hz2) ((HBB.out.cell (p := ⟨1, 0, none⟩) hg).trans HC.out) hn ha HL.out (H.out.below HBB.out hhi) (Nat.le_trans hhi hz2)).mono ?_
      rintro e w3 ⟨he3, hb3⟩
      skip
      rw [HRaw.out.1, HRaw.out.2.1, HRaw.out.2.2] at he3
      have hB3 := HBB.out.trans (hb3.mono hz2)
      have hY3 := HY.out.below hb3 HY.out.lt
      have hz3 := hB3.size
      have HB3 := Lib.hid hB3
      clear hb3 hB3 HRaw HY HBB
      rw [trip_yes] at he3
      subst he3
      have c0 := hY3.cell 0
      have c1 := hY3.cell 1
      have c2 := hY3.cell 2
      have c3 := hY3.cell 3
      have c4 := hY3.cell 4
      simp only [List.getElem?_cons_zero, List.getElem?_cons_succ] at c0 c1 c2 c3 c4
      clear hY3
      go_wp2_with fail
      refine (allows_any no sz 4 _ _ _ _ HQ.out (by omega)).mono ?_
      rw [HO.out]
      rintro e w4 ⟨rfl, hb4⟩
      go_wp2
      go_ret3
      exact ⟨rfl, HB3.out.trans (hb4.mono hz3)⟩
    · have HO := Lib.hid hq
      clear hq
      rw [trip_yes]
      go_enter Tryz.func83, Tryz.ntmps83
      go_wp2_with fail
      refine (fieldAt_any no _).mono ?_
      rintro e w1 ⟨he, hb⟩
      rw [HR.out] at he
      subst he
      have hz := hb.size
      have hby := bk.new w1 94 [.int .i64 no, .int .i64 sz, .int .i64 4, .func (.func pi) #[] #[], .func (.func 108) #[] #[]]
      have hBB : Below w.heap.size w (w1.alloc (.cells [.int .i64 no, .int .i64 sz, .int .i64 4, .func (.func pi) #[] #[], .func (.func 108) #[] #[]].toArray 94)) := below_new hb hz
      have hz2 := hBB.size
      have HBB := Lib.hid hBB
      have HY := Lib.hid hby
      clear hb hBB hby
      go_wp2_with fail
      refine (getTextVar_any hi _ l a sz _ p (Nat.lt_of_lt_of_le hg hz2) ((HBB.out.cell (p := ⟨1, 0, none⟩) hg).trans HC.out) hn ha HL.out (H.out.below HBB.out hhi) (Nat.le_trans hhi hz2)).mono ?_
      rintro e w3 ⟨he3, hb3⟩
      skip
      rw [HRaw.out.1, HRaw.out.2.1, HRaw.out.2.2] at he3
      have hB3 := HBB.out.trans (hb3.mono hz2)
      have hY3 := HY.out.below hb3 HY.out.lt
      have hz3 := hB3.size
      have HB3 := Lib.hid hB3
      clear hb3 hB3 HRaw HY HBB
      rw [trip_yes] at he3
      subst he3
      have c0 := hY3.cell 0
      have c1 := hY3.cell 1
      have c2 := hY3.cell 2
      have c3 := hY3.cell 3
      have c4 := hY3.cell 4
      simp only [List.getElem?_cons_zero, List.getElem?_cons_succ] at c0 c1 c2 c3 c4
      clear hY3
      go_wp2_with fail
      refine (allows_any no sz 4 _ _ _ _ HQ.out (by omega)).mono ?_
      rw [HO.out]
      rintro e w4 ⟨rfl, hb4⟩
      go_wp2
      go_ret3
      exact ⟨rfl, HB3.out.trans (hb4.mono hz3)⟩
  · have HRaw : Hid ((lenGot l a 3 && inR l (lenEnd l a 3) (lenVal l a 3)) = rawOk 5 l a sz ∧ tPart l (lenEnd l a 3) (lenVal l a 3) = rawTxt 5 l a sz ∧ (lenEnd l a 3 + lenVal l a 3) = rawEnd 5 l a sz) := Lib.hid ⟨rfl, rfl, rfl⟩
    have HM := Lib.hid (rawTxt_le 5 l a sz hn)
    rw [show getId 5 = 110 from rfl] at HR
    generalize putId 5 = pi at HR
    unfold getOk
    clear hk0
    generalize rawTxt 5 l a sz = t at HRaw HM ⊢
    generalize rawEnd 5 l a sz = en at HRaw ⊢
    generalize rawOk 5 l a sz = ro at HRaw ⊢
    have HQ : Hid ((⟨t.toArray⟩ : ByteArray).size ≤ maxLen) := Lib.hid (by have := HM.out; show t.length ≤ maxLen; unfold maxLen; omega)
    cases ro
    · rw [Bool.false_and, trip_no]
      go_enter Tryz.func83, Tryz.ntmps83
      go_wp2_with fail
      refine (fieldAt_any no _).mono ?_
      rintro e w1 ⟨he, hb⟩
      rw [HR.out] at he
      subst he
      have hz := hb.size
      have hby := bk.new w1 94 [.int .i64 no, .int .i64 sz, .int .i64 5, .func (.func pi) #[] #[], .func (.func 110) #[] #[]]
      have hBB : Below w.heap.size w (w1.alloc (.cells [.int .i64 no, .int .i64 sz, .int .i64 5, .func (.func pi) #[] #[], .func (.func 110) #[] #[]].toArray 94)) := below_new hb hz
      have hz2 := hBB.size
      have HBB := Lib.hid hBB
      have HY := Lib.hid hby
      clear hb hBB hby
      go_wp2_with fail
      refine (getTextLong_any hi _ l a sz _ p (Nat.lt_of_lt_of_le hg hz2) ((HBB.out.cell (p := ⟨1, 0, none⟩) hg).trans HC.out) hn ha HL.out (H.out.below HBB.out hhi) (Nat.le_trans hhi hz2)).mono ?_
      rintro e w3 ⟨he3, hb3⟩
      skip
      rw [HRaw.out.1, HRaw.out.2.1, HRaw.out.2.2] at he3
      have hB3 := HBB.out.trans (hb3.mono hz2)
      have hY3 := HY.out.below hb3 HY.out.lt
      have hz3 := hB3.size
      have HB3 := Lib.hid hB3
      clear hb3 hB3 HRaw HY HBB
      rw [trip_no] at he3
      subst he3
      clear hY3
      go_wp2
      go_ret3
      exact ⟨rfl, HB3.out⟩
    rw [Bool.true_and]
    cases hq : okBy 5 sz ⟨t.toArray⟩
    · have HO := Lib.hid hq
      clear hq
      rw [trip_no]
      go_enter Tryz.func83, Tryz.ntmps83
      go_wp2_with fail
      refine (fieldAt_any no _).mono ?_
      rintro e w1 ⟨he, hb⟩
      rw [HR.out] at he
      subst he
      have hz := hb.size
      have hby := bk.new w1 94 [.int .i64 no, .int .i64 sz, .int .i64 5, .func (.func pi) #[] #[], .func (.func 110) #[] #[]]
      have hBB : Below w.heap.size w (w1.alloc (.cells [.int .i64 no, .int .i64 sz, .int .i64 5, .func (.func pi) #[] #[], .func (.func 110) #[] #[]].toArray 94)) := below_new hb hz
      have hz2 := hBB.size
      have HBB := Lib.hid hBB
      have HY := Lib.hid hby
      clear hb hBB hby
      go_wp2_with fail
      refine (getTextLong_any hi _ l a sz _ p (Nat.lt_of_lt_of_le hg hz2) ((HBB.out.cell (p := ⟨1, 0, none⟩) hg).trans HC.out) hn ha HL.out (H.out.below HBB.out hhi) (Nat.le_trans hhi hz2)).mono ?_
      rintro e w3 ⟨he3, hb3⟩
      skip
      rw [HRaw.out.1, HRaw.out.2.1, HRaw.out.2.2] at he3
      have hB3 := HBB.out.trans (hb3.mono hz2)
      have hY3 := HY.out.below hb3 HY.out.lt
      have hz3 := hB3.size
      have HB3 := Lib.hid hB3
      clear hb3 hB3 HRaw HY HBB
      rw [trip_yes] at he3
      subst he3
      have c0 := hY3.cell 0
      have c1 := hY3.cell 1
      have c2 := hY3.cell 2
      have c3 := hY3.cell 3
      have c4 := hY3.cell 4
      simp only [List.getElem?_cons_zero, List.getElem?_cons_succ] at c0 c1 c2 c3 c4
      clear hY3
      go_wp2_with fail
      refine (allows_any no sz 5 _ _ _ _ HQ.out (by omega)).mono ?_
      rw [HO.out]
      rintro e w4 ⟨rfl, hb4⟩
      go_wp2
      go_ret3
      exact ⟨rfl, HB3.out.trans (hb4.mono hz3)⟩
    · have HO := Lib.hid hq
      clear hq
      rw [trip_yes]
      go_enter Tryz.func83, Tryz.ntmps83
      go_wp2_with fail
      refine (fieldAt_any no _).mono ?_
      rintro e w1 ⟨he, hb⟩
      rw [HR.out] at he
      subst he
      have hz := hb.size
      have hby := bk.new w1 94 [.int .i64 no, .int .i64 sz, .int .i64 5, .func (.func pi) #[] #[], .func (.func 110) #[] #[]]
      have hBB : Below w.heap.size w (w1.alloc (.cells [.int .i64 no, .int .i64 sz, .int .i64 5, .func (.func pi) #[] #[], .func (.func 110) #[] #[]].toArray 94)) := below_new hb hz
      have hz2 := hBB.size
      have HBB := Lib.hid hBB
      have HY := Lib.hid hby
      clear hb hBB hby
      go_wp2_with fail
      refine (getTextLong_any hi _ l a sz _ p (Nat.lt_of_lt_of_le hg hz2) ((HBB.out.cell (p := ⟨1, 0, none⟩) hg).trans HC.out) hn ha HL.out (H.out.below HBB.out hhi) (Nat.le_trans hhi hz2)).mono ?_
      rintro e w3 ⟨he3, hb3⟩
      skip
      rw [HRaw.out.1, HRaw.out.2.1, HRaw.out.2.2] at he3
      have hB3 := HBB.out.trans (hb3.mono hz2)
      have hY3 := HY.out.below hb3 HY.out.lt
      have hz3 := hB3.size
      have HB3 := Lib.hid hB3
      clear hb3 hB3 HRaw HY HBB
      rw [trip_yes] at he3
      subst he3
      have c0 := hY3.cell 0
      have c1 := hY3.cell 1
      have c2 := hY3.cell 2
      have c3 := hY3.cell 3
      have c4 := hY3.cell 4
      simp only [List.getElem?_cons_zero, List.getElem?_cons_succ] at c0 c1 c2 c3 c4
      clear hY3
      go_wp2_with fail
      refine (allows_any no sz 5 _ _ _ _ HQ.out (by omega)).mono ?_
      rw [HO.out]
      rintro e w4 ⟨rfl, hb4⟩
      go_wp2
      go_ret3
      exact ⟨rfl, HB3.out.trans (hb4.mono hz3)⟩
end Go.Proofs.YtkkbhlaakhkjnaaGreatDoor
/- What was put is got back: digits, lengths, fields; wherever it lies. Plain facts on lists; no conditions. -/
set_option linter.unusedVariables false
set_option linter.unusedSimpArgs false
namespace Go.Proofs.YtkkbhlaakhkjnaaGreatDoor
open Go.ChangeShapes Go.WideShapes Go.ChangeAt Go.RowKit

set_option maxRecDepth 100000 in
theorem mid_part (P M Q : List Int) : ((P ++ M ++ Q).drop P.length).take M.length = M := by
  rw [List.append_assoc, List.drop_left, List.take_left]
set_option maxRecDepth 100000 in
theorem pairs_get (L : List Int) (n k : Nat) (h : k < n) : (pairs L n).getD k 0 = 16 * L.getD (2 * k) 0 + L.getD (2 * k + 1) 0 := by
  unfold pairs
  simp [h]
set_option maxRecDepth 100000 in
theorem half_pairs (L : List Int) (hL : halvesOk L) (n i : Nat) (h : i < 2 * n) : halfAt (pairs L n) i = L.getD i 0 := by
  rcases Nat.mod_two_eq_zero_or_one i with e | e
  · obtain ⟨k, rfl⟩ : ∃ k, i = 2 * k := ⟨i / 2, by omega⟩
    rw [half_even, pairs_get _ _ _ (by omega)]
    have h1 := hL (2 * k); have h2 := hL (2 * k + 1)
    omega
  · obtain ⟨k, rfl⟩ : ∃ k, i = 2 * k + 1 := ⟨i / 2, by omega⟩
    rw [half_odd, pairs_get _ _ _ (by omega)]
    have h1 := hL (2 * k); have h2 := hL (2 * k + 1)
    omega
set_option maxRecDepth 100000 in
theorem hv_getD {s : ByteArray} (hd : digs s = true) (i : Nat) (h : i < s.size) : (hv s).getD i 0 = (s[i].toNat : Int) - 48 ∧ 48 ≤ s[i].toNat ∧ s[i].toNat ≤ 57 := by
  have := digs_get hd i h
  exact ⟨by rw [hv_get s i h, hexv_dig this], this.1, this.2⟩
set_option maxRecDepth 100000 in
theorem hv_halves {s : ByteArray} (hd : digs s = true) : halvesOk (hv s) := by
  intro i
  by_cases h : i < s.size
  · have := hv_getD hd i h
    omega
  · rw [List.getD_eq_getElem?_getD, List.getElem?_eq_none (by rw [hv_len]; omega)]
    simp
set_option maxRecDepth 100000 in
/-- the digits of a text of even length -/
theorem dec_back {t : ByteArray} (hd : digs t = true) (he : t.size % 2 = 0) : decN (pairs (hv t) (t.size / 2)) (2 * (pairs (hv t) (t.size / 2)).length) = t.data.toList := by
  rw [pairs_len]
  unfold decN
  refine List.ext_getElem (by simp; omega) fun i h1 h2 => ?_
  have hi : i < t.size := by simpa using h2
  rw [List.getElem_map, List.getElem_range, half_pairs _ (hv_halves hd) _ _ (by omega)]
  have hg := hv_getD hd i hi
  rw [hg.1]
  have : t.data.toList[i] = t[i] := rfl
  rw [this]
  unfold byteOf
  rw [show (48 + ((t[i].toNat : Int) - 48)).toNat = t[i].toNat by omega]
  exact UInt8.ofNat_toNat
set_option maxRecDepth 100000 in
theorem small_back {t : ByteArray} (hd : digs t = true) (n : Nat) (hn : 2 * n ≤ t.size) : small (pairs (hv t) n) = true := by
  unfold small
  rw [pairs_len, List.all_eq_true]
  intro i hi
  have hi' : i < 2 * n := by simpa using hi
  rw [half_pairs _ (hv_halves hd) _ _ hi', (hv_getD hd i (by omega)).1]
  have := hv_getD hd i (by omega)
  simp
  omega
set_option maxRecDepth 100000 in
theorem pad_digs {s : ByteArray} (hd : digs s = true) : digs (padS s) = true := by
  unfold padS
  split
  · exact digs_pad hd
  · exact hd
set_option maxRecDepth 100000 in
theorem pad_sz (s : ByteArray) : (padS s).size = 2 * ((s.size + 1) / 2) := by
  unfold padS
  split
  · rw [pad_size]; omega
  · omega
set_option maxRecDepth 100000 in
theorem bcd_size {s : ByteArray} (h : bcdOk s = true) : (bcd s).length = (s.size + 1) / 2 := by
  rw [bcd_yes h, pairs_len, pad_sz]; omega
set_option maxRecDepth 100000 in
theorem bcdOk_iff (s : ByteArray) : bcdOk s = true ↔ digs s = true ∧ s.size ≤ 38 := by simp [bcdOk]
set_option maxRecDepth 100000 in
theorem bcd_bytes (s : ByteArray) : isBytes (bcd s) := by
  by_cases h : bcdOk s = true
  · have hh := hv_halves (pad_digs ((bcdOk_iff s).1 h).1)
    rw [bcd_yes h]
    intro z hz
    unfold pairs at hz
    obtain ⟨i, _, rfl⟩ := List.mem_map.1 hz
    have h1 := hh (2 * i)
    have h2 := hh (2 * i + 1)
    omega
  · unfold bcd
    rw [if_neg h]
    intro z hz
    cases hz
set_option maxRecDepth 100000 in
/-- digits are found again -/
theorem bcd_back {s : ByteArray} (h : bcdOk s = true) (P Q : List Int) :
    gOk (P ++ bcd s ++ Q) P.length s.size = true ∧ gTxt (P ++ bcd s ++ Q) P.length s.size = s.data.toList ∧ gEnd (P ++ bcd s ++ Q) P.length s.size = P.length + (bcd s).length := by
  obtain ⟨hd, h38⟩ := (bcdOk_iff s).1 h
  have hp := digs_pos hd
  have hlen := bcd_size h
  have hn : (((s.size : Int) + 1) / 2).toNat = (bcd s).length := by rw [hlen]; omega
  have hpart : gPart (P ++ bcd s ++ Q) P.length s.size = bcd s := by
    unfold gPart
    rw [hn, show ((P.length : Int)).toNat = P.length by omega, mid_part]
  have hin : gIn (P ++ bcd s ++ Q) P.length s.size = true := by
    unfold gIn
    simp only [Bool.and_eq_true, decide_eq_true_eq, List.length_append]
    refine ⟨⟨⟨by omega, by omega⟩, by omega⟩, by omega⟩
  have hpd := pad_digs hd
  have hps := pad_sz s
  have hsm : small (bcd s) = true := by rw [bcd_yes h]; exact small_back hpd _ (by omega)
  have hdec : decN (bcd s) (2 * (bcd s).length) = (padS s).data.toList := by rw [bcd_yes h]; exact dec_back hpd (by omega)
  have hok : gOk (P ++ bcd s ++ Q) P.length s.size = true := by
    unfold gOk
    rw [hin, hpart, hsm]
    simp only [Bool.true_and, Bool.or_eq_true, decide_eq_true_eq]
    rcases Nat.mod_two_eq_zero_or_one s.size with e | e
    · left; omega
    · right
      have hb := bcd_yes h
      rw [hb, half_pairs _ (hv_halves hpd) _ _ (by omega), (hv_getD hpd 0 (by omega)).1]
      have : padS s = ⟨#[48]⟩ ++ s := by unfold padS; rw [if_pos e]
      have h0 : (padS s).data.toList = 48 :: s.data.toList := by rw [this]; simp
      have h1 : (padS s)[0]'(by omega) = 48 := by
        show (padS s).data.toList[0]'(by simp; omega) = 48
        simp only [h0, List.getElem_cons_zero]
      rw [h1]
      decide
  refine ⟨hok, ?_, ?_⟩
  · unfold gTxt
    rw [if_pos hok, hpart, hdec]
    rcases Nat.mod_two_eq_zero_or_one s.size with e | e
    · rw [if_neg (by omega)]; unfold padS; rw [if_neg (by omega)]
    · rw [if_pos (by omega)]; unfold padS; rw [if_pos e]; simp
  · unfold gEnd
    rw [if_pos hok, hlen]
    omega
set_option maxRecDepth 100000 in
theorem wide_61 : ∀ n, n < 61 → (digs ⟨(wideOf (n : Nat) 2).toArray⟩ = true ∧ (wideOf (n : Nat) 2).length = 2 ∧ narVal ⟨(wideOf (n : Nat) 2).toArray⟩ = n) ∧ (digs ⟨(wideOf (n : Nat) 3).toArray⟩ = true ∧ (wideOf (n : Nat) 3).length = 3 ∧ narVal ⟨(wideOf (n : Nat) 3).toArray⟩ = n) := by decide +kernel
set_option maxRecDepth 100000 in
theorem wide_both {n : Nat} (hn : n ≤ 60) {d : Int} (hd : d = 2 ∨ d = 3) : digs ⟨(wideOf (n : Nat) d).toArray⟩ = true ∧ ((wideOf (n : Nat) d).length : Int) = d ∧ narVal ⟨(wideOf (n : Nat) d).toArray⟩ = n := by
  obtain ⟨h2, h3⟩ := wide_61 n (by omega)
  rcases hd with rfl | rfl
  · exact ⟨h2.1, by omega, h2.2.2⟩
  · exact ⟨h3.1, by omega, h3.2.2⟩
set_option maxRecDepth 100000 in
/-- a length is found again -/
theorem len_back {n : Nat} (hn : n ≤ 60) {d : Int} (hd : d = 2 ∨ d = 3) (P Q : List Int) :
    lenGot (P ++ putLen n d ++ Q) P.length d = true ∧ lenVal (P ++ putLen n d ++ Q) P.length d = n ∧ lenEnd (P ++ putLen n d ++ Q) P.length d = P.length + (putLen n d).length := by
  have hl : lenDig d = true := by rcases hd with rfl | rfl <;> rfl
  obtain ⟨h1, h2, h3⟩ := wide_both hn hd
  have hs : ((⟨(wideOf (n : Nat) d).toArray⟩ : ByteArray).size : Int) = d := h2
  have hok : bcdOk ⟨(wideOf (n : Nat) d).toArray⟩ = true := (bcdOk_iff _).2 ⟨h1, by omega⟩
  obtain ⟨b1, b2, b3⟩ := bcd_back hok P Q
  rw [hs] at b1 b2 b3
  have hp : putLen n d = bcd ⟨(wideOf (n : Nat) d).toArray⟩ := by unfold putLen; rw [if_pos hl]
  rw [hp]
  refine ⟨by unfold lenGot; rw [hl, b1]; rfl, ?_, by unfold lenEnd; rw [if_pos hl, b3]⟩
  unfold lenVal
  rw [if_pos hl, b2]
  exact h3
set_option maxRecDepth 100000 in
theorem part_back (s : ByteArray) (P Q : List Int) : inR (P ++ bytesL s ++ Q) P.length s.size = true ∧ tPart (P ++ bytesL s ++ Q) P.length s.size = s.data.toList := by
  have hl := bytesL_len s
  constructor
  · unfold inR
    simp only [Bool.and_eq_true, decide_eq_true_eq, List.length_append, hl]
    refine ⟨⟨by omega, by omega⟩, by omega⟩
  · unfold tPart
    rw [show ((P.length : Int)).toNat = P.length by omega, show ((s.size : Int)).toNat = (bytesL s).length by rw [hl]; omega, mid_part, byteOf_back]
set_option maxRecDepth 100000 in
theorem raw3 (l : List Int) (a sz : Int) : rawOk 3 l a sz = (lenGot l a 2 && gOk l (lenEnd l a 2) (lenVal l a 2)) ∧ rawTxt 3 l a sz = gTxt l (lenEnd l a 2) (lenVal l a 2) ∧ rawEnd 3 l a sz = gEnd l (lenEnd l a 2) (lenVal l a 2) := ⟨rfl, rfl, rfl⟩
set_option maxRecDepth 100000 in
theorem raw4 (l : List Int) (a sz : Int) : rawOk 4 l a sz = (lenGot l a 2 && inR l (lenEnd l a 2) (lenVal l a 2)) ∧ rawTxt 4 l a sz = tPart l (lenEnd l a 2) (lenVal l a 2) ∧ rawEnd 4 l a sz = lenEnd l a 2 + lenVal l a 2 := ⟨rfl, rfl, rfl⟩
set_option maxRecDepth 100000 in
theorem raw5 (l : List Int) (a sz : Int) : rawOk 5 l a sz = (lenGot l a 3 && inR l (lenEnd l a 3) (lenVal l a 3)) ∧ rawTxt 5 l a sz = tPart l (lenEnd l a 3) (lenVal l a 3) ∧ rawEnd 5 l a sz = lenEnd l a 3 + lenVal l a 3 := ⟨rfl, rfl, rfl⟩
set_option maxRecDepth 100000 in
theorem back_str (s : ByteArray) : (⟨s.data.toList.toArray⟩ : ByteArray) = s := by simp
set_option maxRecDepth 100000 in
/-- a field is found again, wherever it lies -/
theorem field_back {no : Int} {s : ByteArray} (h : fOk no s = true) (P Q : List Int) :
    getRes (P ++ putFL no s ++ Q) P.length no = .returned (.tuple #[.string s, .int .i64 (P.length + (putFL no s).length), .bool true]) := by
  have hk : fKind no ≠ 0 := fun e => by rw [fOk_no e] at h; cases h
  have h60 := fOk_60 h
  have hokb : okBy (fKind no) (fSize no) s = true := h
  have hput : putFL no s = putBody (fKind no) s := by unfold putFL; rw [if_pos h]
  unfold getRes
  rw [if_neg hk, hput]
  have key : rawOk (fKind no) (P ++ putBody (fKind no) s ++ Q) P.length (fSize no) = true ∧ rawTxt (fKind no) (P ++ putBody (fKind no) s ++ Q) P.length (fSize no) = s.data.toList ∧ rawEnd (fKind no) (P ++ putBody (fKind no) s ++ Q) P.length (fSize no) = P.length + (putBody (fKind no) s).length := by
    have hsz := fOk_size h
    have hkc := kind_cases no
    generalize fKind no = kd at *
    generalize fSize no = sz at *
    rcases hkc with rfl | rfl | rfl | rfl | rfl | rfl
    · exact absurd rfl hk
    · simp [okBy] at hokb
      have hb : bcdOk s = true := (bcdOk_iff s).2 ⟨hokb.2, by omega⟩
      obtain ⟨b1, b2, b3⟩ := bcd_back hb P Q
      rw [hokb.1] at b1 b2 b3
      refine ⟨?_, ?_, ?_⟩
      · simp [rawOk, putBody, ← List.append_assoc, b1]
      · simp [rawTxt, putBody, ← List.append_assoc, b2]
      · simp [rawEnd, putBody, ← List.append_assoc, b3]
    · simp [okBy] at hokb
      obtain ⟨b1, b2⟩ := part_back s P Q
      have hl := bytesL_len s
      rw [hokb.1] at b1 b2
      refine ⟨?_, ?_, ?_⟩
      · simp [rawOk, putBody, ← List.append_assoc, b1]
      · simp [rawTxt, putBody, ← List.append_assoc, b2]
      · simp only [rawEnd, putBody]; simp [hl]; omega
    · simp [okBy] at hokb
      have hb : bcdOk s = true := (bcdOk_iff s).2 ⟨hokb.2, by omega⟩
      obtain ⟨l1, l2, l3⟩ := len_back (n := s.size) (by omega) (.inl rfl : (2 : Int) = 2 ∨ (2 : Int) = 3) P (bcd s ++ Q)
      obtain ⟨b1, b2, b3⟩ := bcd_back hb (P ++ putLen s.size 2) Q
      have e : P ++ putBody 3 s ++ Q = P ++ putLen s.size 2 ++ (bcd s ++ Q) := by simp [putBody]
      have e' : P ++ putLen s.size 2 ++ (bcd s ++ Q) = P ++ putLen s.size 2 ++ bcd s ++ Q := by simp
      have hc : ((P ++ putLen s.size 2).length : Int) = P.length + (putLen s.size 2).length := by simp
      rw [hc] at b1 b2 b3
      rw [e]
      refine ⟨?_, ?_, ?_⟩
      · rw [(raw3 _ _ _).1, l1, l2, l3, e', b1]; rfl
      · rw [(raw3 _ _ _).2.1, l2, l3, e', b2]
      · rw [(raw3 _ _ _).2.2, l2, l3, e', b3]; simp [putBody]; omega
    · simp [okBy] at hokb
      obtain ⟨l1, l2, l3⟩ := len_back (n := s.size) (by omega) (.inl rfl : (2 : Int) = 2 ∨ (2 : Int) = 3) P (bytesL s ++ Q)
      obtain ⟨b1, b2⟩ := part_back s (P ++ putLen s.size 2) Q
      have hl := bytesL_len s
      have e : P ++ putBody 4 s ++ Q = P ++ putLen s.size 2 ++ (bytesL s ++ Q) := by simp [putBody]
      have e' : P ++ putLen s.size 2 ++ (bytesL s ++ Q) = P ++ putLen s.size 2 ++ bytesL s ++ Q := by simp
      have hc : ((P ++ putLen s.size 2).length : Int) = P.length + (putLen s.size 2).length := by simp
      rw [hc] at b1 b2
      rw [e]
      refine ⟨?_, ?_, ?_⟩
      · rw [(raw4 _ _ _).1, l1, l2, l3, e', b1]; rfl
      · rw [(raw4 _ _ _).2.1, l2, l3, e', b2]
      · rw [(raw4 _ _ _).2.2, l2, l3]; simp [putBody, hl]; omega
    · simp [okBy] at hokb
      obtain ⟨l1, l2, l3⟩ := len_back (n := s.size) (by omega) (.inr rfl : (3 : Int) = 2 ∨ (3 : Int) = 3) P (bytesL s ++ Q)
      obtain ⟨b1, b2⟩ := part_back s (P ++ putLen s.size 3) Q
      have hl := bytesL_len s
      have e : P ++ putBody 5 s ++ Q = P ++ putLen s.size 3 ++ (bytesL s ++ Q) := by simp [putBody]
      have e' : P ++ putLen s.size 3 ++ (bytesL s ++ Q) = P ++ putLen s.size 3 ++ bytesL s ++ Q := by simp
      have hc : ((P ++ putLen s.size 3).length : Int) = P.length + (putLen s.size 3).length := by simp
      rw [hc] at b1 b2
      rw [e]
      refine ⟨?_, ?_, ?_⟩
      · rw [(raw5 _ _ _).1, l1, l2, l3, e', b1]; rfl
      · rw [(raw5 _ _ _).2.1, l2, l3, e', b2]
      · rw [(raw5 _ _ _).2.2, l2, l3]; simp [putBody, hl]; omega
  obtain ⟨k1, k2, k3⟩ := key
  have hg : getOk (fKind no) (P ++ putBody (fKind no) s ++ Q) P.length (fSize no) = true := by
    unfold getOk
    rw [k1, k2, back_str, hokb]
    rfl
  rw [trip_on hg, k2, k3, back_str]
end Go.Proofs.YtkkbhlaakhkjnaaGreatDoor
/- FieldFit of both; no conditions. -/
set_option linter.unusedVariables false
namespace Go.Proofs.YtkkbhlaakhkjnaaGreatDoor
open Go.ChangeShapes Go.WideShapes Go.ChangeAt Go.RowKit

def padL (j : Nat) (s : ByteArray) : ByteArray := ⟨(List.replicate j 48 ++ s.data.toList).toArray⟩
def padR (j : Nat) (s : ByteArray) : ByteArray := ⟨(s.data.toList ++ List.replicate j 32).toArray⟩
set_option maxRecDepth 100000 in
theorem padL_zero (s : ByteArray) : padL 0 s = s := rfl
set_option maxRecDepth 100000 in
theorem padR_zero (s : ByteArray) : padR 0 s = s := by unfold padR; simp
set_option maxRecDepth 100000 in
theorem padL_size (j : Nat) (s : ByteArray) : (padL j s).size = j + s.size := by show (List.replicate j 48 ++ s.data.toList).length = _; simp
set_option maxRecDepth 100000 in
theorem padR_size (j : Nat) (s : ByteArray) : (padR j s).size = s.size + j := by show (s.data.toList ++ List.replicate j 32).length = _; simp
set_option maxRecDepth 100000 in
theorem padL_step (j : Nat) (s : ByteArray) : (⟨#[48]⟩ : ByteArray) ++ padL j s = padL (j + 1) s := by
  unfold padL
  apply ByteArray.ext
  simp [List.replicate_succ]
set_option maxRecDepth 100000 in
theorem padR_step (j : Nat) (s : ByteArray) : padR j s ++ (⟨#[32]⟩ : ByteArray) = padR (j + 1) s := by
  unfold padR
  apply ByteArray.ext
  rw [ByteArray.data_append]
  have h32 : (⟨#[32]⟩ : ByteArray).data = [(32 : UInt8)].toArray := rfl
  rw [h32, List.append_toArray, List.replicate_succ', List.append_assoc]
/-- s filled up for a kind and a size -/
def fitS (kd : Int) (m : Nat) (s : ByteArray) : ByteArray := if kd = 1 then padL (m - s.size) s else if kd = 2 then padR (m - s.size) s else s
def sizeB : Value → Nat | .string s => s.size | _ => 0
def fitRes (no : Int) (s : ByteArray) : ByteArray := if fOk no (fitS (fKind no) (fSize no).toNat s) = true then fitS (fKind no) (fSize no).toNat s else ⟨#[]⟩
set_option maxRecDepth 100000 in
theorem fitS_size (kd : Int) (m : Nat) (s : ByteArray) (hm : m ≤ 60) (hs : s.size ≤ 1048576) : (fitS kd m s).size ≤ 1048576 := by
  unfold fitS
  split
  · rw [padL_size]; omega
  · split
    · rw [padR_size]; omega
    · exact hs
set_option maxRecDepth 100000 in
theorem rep_32 (c : Nat) : Lib.repeatL [32] c = List.replicate c 32 := by
  induction c with
  | zero => rfl
  | succ c ih => rw [List.replicate_succ, ← ih]; rfl
set_option maxRecDepth 100000 in
theorem fSize_nn (no : Int) : 0 ≤ fSize no := by
  by_cases h : fKind no = 0
  · rw [fSize_no h]; omega
  · have := fSize_pos h; omega

end Go.Proofs.YtkkbhlaakhkjnaaGreatDoor
/- Small facts on fields for the laws that put and get one; no conditions. -/
set_option linter.unusedVariables false
namespace Go.Proofs.YtkkbhlaakhkjnaaGreatDoor
open Go.ChangeShapes Go.WideShapes Go.ChangeAt Go.RowKit

set_option maxRecDepth 100000 in
theorem ow_single (w : World) (c : Int) (T : TypeId) : ow T .u8 w.heap.size (w.alloc (.cells #[.int .u8 c] T)) (.slice (some ⟨w.heap.size, 0, none⟩) 1 1) [c] := by
  refine ⟨rfl, Or.inr ⟨w.heap.size, 1, #[.int .u8 c], rfl, Nat.le_refl _, ?_, Nat.le_refl _, by decide, rfl, rfl⟩⟩
  show (w.heap.push _)[w.heap.size]? = _
  simp
set_option maxRecDepth 100000 in
theorem ow.rdOne {T : TypeId} {K : IntKind} {B : Nat} {w : World} {o : Obj} {v : Value} {L : List Int} (h : ow T K B (w.alloc o) v L) : rd K (w.heap.size + 1) (w.alloc o) v L := by
  have := h.nums.rd
  simpa using this
set_option maxRecDepth 100000 in
theorem cell_lt {w : World} {b o : Nat} {v : Value} (h : w.cell? ⟨b, o, none⟩ = some v) : b < w.heap.size := by
  rcases Nat.lt_or_ge b w.heap.size with h' | h'
  · exact h'
  · simp [World.cell?, Array.getElem?_eq_none h'] at h
set_option maxRecDepth 100000 in
theorem putLen_bytes {n : Nat} (hn : n ≤ 60) {d : Int} (hd : d = 2 ∨ d = 3) : isBytes (putLen n d) ∧ (putLen n d).length ≤ 2 := by
  have hl : lenDig d = true := by rcases hd with rfl | rfl <;> rfl
  obtain ⟨h1, h2, h3⟩ := wide_both hn hd
  have hs : ((⟨(wideOf (n : Nat) d).toArray⟩ : ByteArray).size : Int) = d := h2
  have hok : bcdOk ⟨(wideOf (n : Nat) d).toArray⟩ = true := (bcdOk_iff _).2 ⟨h1, by omega⟩
  unfold putLen
  rw [if_pos hl]
  exact ⟨bcd_bytes _, by rw [bcd_size hok]; omega⟩
set_option maxRecDepth 100000 in
theorem putFL_bytes {no : Int} {s : ByteArray} (h : fOk no s = true) : isBytes (putFL no s) := by
  have h60 := fOk_60 h
  have h1 := bcd_bytes s
  have h2 := bytesL_ok s
  have h3 := (putLen_bytes h60 (.inl rfl : (2 : Int) = 2 ∨ (2 : Int) = 3)).1
  have h4 := (putLen_bytes h60 (.inr rfl : (3 : Int) = 2 ∨ (3 : Int) = 3)).1
  unfold putFL putBody
  rw [if_pos h]
  repeat' split
  all_goals intro z hz
  all_goals try simp only [List.mem_append] at hz
  · exact h1 z hz
  · exact h2 z hz
  · exact hz.elim (h3 z) (h1 z)
  · exact hz.elim (h3 z) (h2 z)
  · exact hz.elim (h4 z) (h2 z)
set_option maxRecDepth 100000 in
theorem fit_back {no : Int} {s : ByteArray} (h : fOk no s = true) : fitRes no s = s := by
  have hb : okBy (fKind no) (fSize no) s = true := h
  have e : fitS (fKind no) (fSize no).toNat s = s := by
    unfold fitS
    split
    · next hk => rw [hk] at hb; simp [okBy] at hb; rw [show (fSize no).toNat - s.size = 0 by omega]; rfl
    · split
      · next hk => rw [hk] at hb; simp [okBy] at hb; rw [show (fSize no).toNat - s.size = 0 by omega, padR_zero]
      · rfl
  unfold fitRes
  rw [e, if_pos h]
end Go.Proofs.YtkkbhlaakhkjnaaGreatDoor
/- What the law package's helpers do with slices of ints; no conditions. -/
set_option linter.unusedVariables false
namespace Go.Proofs.YtkkbhlaakhkjnaaGreatDoor
open Go.ChangeShapes Go.WideShapes Go.ChangeAt Go.RowKit

set_option maxRecDepth 100000 in
theorem infoI64 : (Tryz.prog.info? 3).map (fun i => (i.zero, i.size, i.bytes)) = some (some (.int .i64 0), 1, 8) := by kernel_rfl
end Go.Proofs.YtkkbhlaakhkjnaaGreatDoor
/- Bitmaps of eight bytes: PutBits and GetBits of both; no conditions. -/
set_option linter.unusedVariables false
namespace Go.Proofs.YtkkbhlaakhkjnaaGreatDoor
open Go.ChangeShapes Go.WideShapes Go.ChangeAt Go.RowKit

/-- the weight of bit k in its byte -/
def wt (k : Int) : Int := 128 / 2 ^ ((k - 1) % 8).toNat
def setB (b : List Int) (k : Int) : List Int := if 1 ≤ k ∧ k ≤ 64 then b.set ((k - 1) / 8).toNat (bits BinOp.or IntKind.u8 (b.getD ((k - 1) / 8).toNat 0) (wt k)) else b
def putB (l : List Int) : List Int := l.foldl setB (List.replicate 8 0)
set_option maxRecDepth 100000 in
theorem setB_len (b : List Int) (k : Int) : (setB b k).length = b.length := by unfold setB; split <;> simp
set_option maxRecDepth 100000 in
theorem fold_len (l b : List Int) : (l.foldl setB b).length = b.length := by
  induction l generalizing b with
  | nil => rfl
  | cons x l ih => rw [List.foldl_cons, ih, setB_len]
set_option maxRecDepth 100000 in
theorem putB_len (l : List Int) : (putB l).length = 8 := by unfold putB; rw [fold_len]; rfl
set_option maxRecDepth 100000 in
theorem take_foldl (l : List Int) (k : Nat) (h : k < l.length) : putB (l.take (k + 1)) = setB (putB (l.take k)) (l.getD k 0) := by
  unfold putB
  rw [List.take_succ_eq_append_getElem h, List.foldl_append, List.getD_eq_getElem?_getD, List.getElem?_eq_getElem h]
  rfl

set_option maxRecDepth 100000 in
theorem bitPlace_any (k : Int) (w : World) (h1 : 1 ≤ k) (h2 : k ≤ 64) :
    Calls Tryz.prog 91 #[.int .i64 k] w fun e w' => e = .returned (.tuple #[.int .i64 ((k - 1) / 8), .int .u8 (wt k)]) ∧ ∃ n, w' = w.drewN n := by
  have r1 : IntKind.i64.wrap (k - 1) = k - 1 := IntWalk.i64_in _ (by omega)
  go_enter Tryz.func91, Tryz.ntmps91
  go_wp2
  go_quiet (fail)
  go_wp2
  go_ret2
  exact ⟨rfl, _, rfl⟩
set_option maxRecDepth 100000 in
theorem in_any (k a b : Int) (w : World) :
    Calls Tryz.prog 64 #[.int .i64 k, .int .i64 a, .int .i64 b] w fun e w' => e = .returned (.bool (decide (a ≤ k) && decide (k ≤ b))) ∧ w = w' := by
  by_cases h : a ≤ k
  · go_enter Tryz.func64, Tryz.ntmps64
    go_wp2
    go_ret
    exact ⟨ret_bool (by simp [h]), rfl⟩
  · have hd : decide (a ≤ k) = false := decide_eq_false h
    go_enter Tryz.func64, Tryz.ntmps64
    go_wp2
    go_ret
    exact ⟨ret_bool (by simp), rfl⟩

/-- the row of the bitmap -/
def bmap (b : Nat) (w : World) (l : List Int) : Prop := w.rowIs b 5 8 (fun j => .int .u8 (l.getD j 0))
set_option maxRecDepth 100000 in
theorem bmap.start (w : World) : bmap w.heap.size (w.alloc (.cells (madeCells #[.int .u8 0] 8) 5)) (putB []) := (World.rowIs_made w (.int .u8 0) 8 5).congr fun j hj => by
  have : j = 0 ∨ j = 1 ∨ j = 2 ∨ j = 3 ∨ j = 4 ∨ j = 5 ∨ j = 6 ∨ j = 7 := by omega
  rcases this with rfl | rfl | rfl | rfl | rfl | rfl | rfl | rfl <;> rfl
set_option maxRecDepth 100000 in
theorem bmap.set {b : Nat} {w : World} {l : List Int} {k y : Int} {i : Nat} (h : bmap b w l) (h1 : 1 ≤ k) (h2 : k ≤ 64) (hl : l.length = 8) (hi : (k - 1) / 8 = (i : Int)) (hy : y = bits BinOp.or IntKind.u8 (l.getD i 0) (wt k)) : bmap b (w.setCell ⟨b, i, none⟩ (.int .u8 y)) (setB l k) := by
  have hs : setB l k = l.set i (bits BinOp.or IntKind.u8 (l.getD i 0) (wt k)) := by unfold setB; rw [if_pos ⟨h1, h2⟩, hi, Int.toNat_natCast]
  rw [hs]
  refine (World.rowIs.set h i _).congr fun j hj => ?_
  by_cases e : j = i
  · subst e
    rw [if_pos rfl, List.getD_eq_getElem?_getD, List.getElem?_set_self (by omega), hy]
    rfl
  · rw [if_neg e]
    congr 1
    rw [List.getD_eq_getElem?_getD, List.getD_eq_getElem?_getD, List.getElem?_set_ne (Ne.symm e)]
set_option maxRecDepth 100000 in
theorem bmap.done {b lo : Nat} {w : World} {l : List Int} (h : bmap b w l) (hl : l.length = 8) (hlo : lo ≤ b) : nums .u8 lo w.heap.size w (.slice (some ⟨b, 0, none⟩) 8 8) l :=
  ⟨some ⟨b, 0, none⟩, 8, by rw [hl], by omega, fun j hj => ⟨b, 0, rfl, hlo, World.rowIs.lt h, by rw [Nat.zero_add]; exact World.rowIs.cell h (by omega), World.rowIs.frozen h _⟩⟩
set_option maxRecDepth 100000 in
theorem makeEight (w : World) : (Instr.makeSlice 26 (.int .i64 8) (.int .i64 8)).run Tryz.prog w = .ok (.slice (some ⟨w.heap.size, 0, none⟩) 8 8) (w.alloc (.cells (madeCells #[.int .u8 0] 8) 5)) :=
  run_make_row' (P := Tryz.prog) 26 5 (.int .u8 0) 1 Tryz.underlying26 infoU8 rfl .i64 .i64 8 (by omega) (by omega) w
def resN (L : List Int) (w : World) (e : Ending) (w' : World) : Prop := ∃ v, e = .returned v ∧ nums .u8 w.heap.size w'.heap.size w' v L ∧ Below w.heap.size w w'

set_option maxRecDepth 100000 in
set_option maxHeartbeats 1600000 in
theorem specPutBits_any (hi : Nat) (v : Value) (l : List Int) (w : World) (hn : l.length ≤ 1073741824) (h : rd .i64 hi w v l) (hhi : hi ≤ w.heap.size) :
    Calls Tryz.prog 34 #[v] w (resN (putB l) w) := by
  obtain ⟨A, c, rfl, hc, hj⟩ := h
  have HR := Lib.hid hj
  clear hj
  have hmk := fun w => makeEight w
  go_enter Tryz.func34, Tryz.ntmps34
  go_wp2
  go_loopw [5, 9] (fun _ iv wr => ∃ k : Nat, k ≤ l.length ∧ iv = .int .i64 (k : Int) ∧ bmap w.heap.size wr (putB (l.take k)) ∧ Below w.heap.size w wr) (fun _ iv _ => l.length - (intOf iv).toNat)
  case atStart => exact ⟨0, Nat.zero_le _, rfl, bmap.start w, (Below.refl _ _).alloc (Nat.le_refl _) _⟩
  case round =>
    obtain ⟨k, hk, rfl, hm, hb⟩ := hrel
    have HM := Lib.hid hm
    by_cases hlt : k < l.length
    · obtain ⟨b, off, rfl, hbl, hcell⟩ := HR.out k hlt
      have hcell := (hb.cell (p := ⟨b, off + k, none⟩) (show b < w.heap.size by omega)).trans hcell
      have HT := Lib.hid (take_foldl l k hlt)
      have HL := Lib.hid (putB_len (l.take k))
      generalize l.getD k 0 = x at hcell HT
      have g1 : (k : Int) < (l.length : Int) := by omega
      have g2 : 0 ≤ (k : Int) := by omega
      by_cases hx : 1 ≤ x ∧ x ≤ 64
      · obtain ⟨hx1, hx2⟩ := hx
        obtain ⟨i, hi'⟩ : ∃ i : Nat, (x - 1) / 8 = (i : Int) := ⟨((x - 1) / 8).toNat, by omega⟩
        have hi8 : i < 8 := by omega
        have hdst : wr.cell? ⟨w.heap.size, i, none⟩ = _ := World.rowIs.cell hm hi8
        have hfr := World.rowIs.frozen hm i
        have r1 : IntKind.i64.wrap (x - 1) = x - 1 := IntWalk.i64_in _ (by omega)
        have g3 : (0 : Int) ≤ (i : Int) := by omega
        have g4 : (i : Int) < 8 := by omega
        have d1 : decide (1 ≤ x) = true := decide_eq_true hx1
        have d2 : decide (x ≤ 64) = true := decide_eq_true hx2
        have HI := Lib.hid hi'
        clear hm
        go_wp2_with (go_at_call 64; refine (in_any x 1 64 _).mono ?_; rintro e w1 ⟨rfl, rfl⟩)
        go_region
        go_wp2
        go_roundw
        case rel => exact ⟨k + 1, by omega, by go_num, by rw [HT.out]; exact HM.out.set hx1 hx2 HL.out HI.out rfl, (hb.setCell (Nat.le_refl _) _).drew⟩
        case measure => simp [intOf] <;> omega
      · have hd : (decide (1 ≤ x) && decide (x ≤ 64)) = false := by
          cases hq : (decide (1 ≤ x) && decide (x ≤ 64))
          · rfl
          · simp only [Bool.and_eq_true, decide_eq_true_eq] at hq; exact absurd hq hx
        have HS : Hid (setB (putB (l.take k)) x = putB (l.take k)) := Lib.hid (by unfold setB; rw [if_neg hx])
        have HD := Lib.hid hd
        clear hm hx hd
        go_wp2_with (go_at_call 64; refine (in_any x 1 64 _).mono ?_; rw [HD.out]; rintro e w1 ⟨rfl, rfl⟩)
        go_roundw
        case rel => exact ⟨k + 1, by omega, by go_num, by rw [HT.out, HS.out]; exact HM.out, hb⟩
        case measure => simp [intOf] <;> omega
    · obtain rfl : k = l.length := by omega
      have HN := Lib.hid (hm.done (putB_len _) (Nat.le_refl _))
      clear hm
      go_wp2
      go_ret
      have := HN.out
      rw [List.take_of_length_le (Nat.le_refl _)] at this
      exact ⟨_, rfl, this, hb⟩

set_option maxRecDepth 100000 in
theorem bmap.owned {b lo : Nat} {w : World} {l : List Int} (h : bmap b w l) (hl : l.length = 8) (hlo : lo ≤ b) : ow 5 .u8 lo w (.slice (some ⟨b, 0, none⟩) 8 8) l := by
  obtain ⟨c, hb, hc, hi⟩ := h
  refine ⟨by rw [List.length_map, Nat.mul_one], Or.inr ⟨b, 8, c, by rw [hl], hlo, hb, by omega, by decide, by omega, ?_⟩⟩
  rw [Nat.mul_one, hl]
  apply List.ext_getElem?
  intro j
  by_cases hj : j < 8
  · have hg : l[j]? = some l[j] := List.getElem?_eq_getElem (by omega)
    have hd : l.getD j 0 = l[j] := by rw [List.getD_eq_getElem?_getD, hg]; rfl
    rw [List.getElem?_take_of_lt hj, Array.getElem?_toList, hi j hj, List.getElem?_map, hg]
    show some (Value.int IntKind.u8 (l.getD j 0)) = _
    rw [hd]; rfl
  · rw [List.getElem?_eq_none (by rw [List.length_take]; omega), List.getElem?_eq_none (by rw [List.length_map]; omega)]
/-- as resN; the bytes lie in a row of the call's own -/
def resNo (L : List Int) (w : World) (e : Ending) (w' : World) : Prop := ∃ v, e = .returned v ∧ ow 5 .u8 w.heap.size w' v L ∧ Below w.heap.size w w'

set_option maxRecDepth 100000 in
set_option maxHeartbeats 1600000 in
theorem implPutBits_own (hi : Nat) (v : Value) (l : List Int) (w : World) (hn : l.length ≤ 1073741824) (h : rd .i64 hi w v l) (hhi : hi ≤ w.heap.size) :
    Calls Tryz.prog 71 #[v] w (resNo (putB l) w) := by
  obtain ⟨A, c, rfl, hc, hj⟩ := h
  have HR := Lib.hid hj
  clear hj
  have hmk := fun w => makeEight w
  go_enter Tryz.func71, Tryz.ntmps71
  go_wp2
  go_loopw [5, 6, 7, 11] (fun _ _ _ iv wr => ∃ k : Nat, k ≤ l.length ∧ iv = .int .i64 (k : Int) ∧ bmap w.heap.size wr (putB (l.take k)) ∧ Below w.heap.size w wr) (fun _ _ _ iv _ => l.length - (intOf iv).toNat)
  case atStart => exact ⟨0, Nat.zero_le _, rfl, bmap.start w, (Below.refl _ _).alloc (Nat.le_refl _) _⟩
  case round =>
    obtain ⟨k, hk, rfl, hm, hb⟩ := hrel
    have HM := Lib.hid hm
    by_cases hlt : k < l.length
    · obtain ⟨b, off, rfl, hbl, hcell⟩ := HR.out k hlt
      have hcell := (hb.cell (p := ⟨b, off + k, none⟩) (show b < w.heap.size by omega)).trans hcell
      have HT := Lib.hid (take_foldl l k hlt)
      have HL := Lib.hid (putB_len (l.take k))
      generalize l.getD k 0 = x at hcell HT
      have g1 : (k : Int) < (l.length : Int) := by omega
      have g2 : 0 ≤ (k : Int) := by omega
      by_cases hx : 1 ≤ x ∧ x ≤ 64
      · obtain ⟨hx1, hx2⟩ := hx
        obtain ⟨i, hi'⟩ : ∃ i : Nat, (x - 1) / 8 = (i : Int) := ⟨((x - 1) / 8).toNat, by omega⟩
        have hi8 : i < 8 := by omega
        have g3 : (0 : Int) ≤ (i : Int) := by omega
        have g4 : (i : Int) < 8 := by omega
        have HI := Lib.hid hi'
        clear hm
        go_wp2_with fail
        refine (bitPlace_any x _ hx1 hx2).mono ?_
        rw [HI.out]
        rintro e w1 ⟨rfl, q, rfl⟩
        have hm := HM.out
        have hdst : (wr.drewN q).cell? ⟨w.heap.size, i, none⟩ = _ := World.rowIs.cell hm hi8
        have hfr : (wr.drewN q).frozen? ⟨w.heap.size, i, none⟩ = _ := World.rowIs.frozen hm i
        clear hm
        go_wp2
        go_roundw
        case rel => exact ⟨k + 1, by omega, by go_num, by rw [HT.out]; exact HM.out.set hx1 hx2 HL.out HI.out rfl, (below_drewN hb q).setCell (Nat.le_refl _) _⟩
        case measure => simp [intOf] <;> omega
      · have HS : Hid (setB (putB (l.take k)) x = putB (l.take k)) := Lib.hid (by unfold setB; rw [if_neg hx])
        by_cases hx1 : x < 1
        · clear hm hx
          go_wp2
          go_roundw
          case rel => exact ⟨k + 1, by omega, by go_num, by rw [HT.out, HS.out]; exact HM.out, hb⟩
          case measure => simp [intOf] <;> omega
        · have hx2 : 64 < x := by omega
          clear hm hx
          go_wp2
          go_roundw
          case rel => exact ⟨k + 1, by omega, by go_num, by rw [HT.out, HS.out]; exact HM.out, hb⟩
          case measure => simp [intOf] <;> omega
    · obtain rfl : k = l.length := by omega
      have HN := Lib.hid (hm.owned (putB_len _) (Nat.le_refl w.heap.size))
      clear hm
      go_wp2
      go_ret
      have := HN.out
      rw [List.take_of_length_le (Nat.le_refl _)] at this
      exact ⟨_, rfl, this, hb⟩

set_option maxRecDepth 100000 in
theorem implPutBits_any (hi : Nat) (v : Value) (l : List Int) (w : World) (hn : l.length ≤ 1073741824) (h : rd .i64 hi w v l) (hhi : hi ≤ w.heap.size) :
    Calls Tryz.prog 71 #[v] w (resN (putB l) w) :=
  (implPutBits_own hi v l w hn h hhi).mono fun _ _ ⟨v, h1, h2, h3⟩ => ⟨v, h1, h2.nums, h3⟩

/-- is bit k (from 1 on) of these bytes set? -/
def bitAt (p : List Int) (i : Nat) : Bool := decide (p.getD (i / 8) 0 / 2 ^ (7 - i % 8) % 2 = 1)
def getB (p : List Int) (n : Nat) : List Int := ((List.range n).filter (bitAt p)).map fun (i : Nat) => (i : Int) + 1
set_option maxRecDepth 100000 in
theorem getB_step (p : List Int) (n : Nat) : getB p (n + 1) = getB p n ++ (if bitAt p n = true then [(n : Int) + 1] else []) := by
  unfold getB
  rw [List.range_succ, List.filter_append, List.map_append]
  congr 1
  cases h : bitAt p n <;> simp [h]
set_option maxRecDepth 100000 in
theorem getB_len (p : List Int) (n : Nat) : (getB p n).length ≤ n := by
  unfold getB
  rw [List.length_map]
  exact Nat.le_trans (List.length_filter_le _ _) (by simp)
set_option maxRecDepth 100000 in
theorem bit_and : ∀ x < 256, ∀ j < 8, (bits BinOp.and IntKind.u8 ((x : Nat) : Int) (128 / 2 ^ (((j : Nat) : Int)).toNat) != 0) = decide (((x : Nat) : Int) / 2 ^ (7 - j) % 2 = 1) := by decide +kernel
set_option maxRecDepth 100000 in
theorem bit_wt {x : Int} (i : Nat) (h0 : 0 ≤ x) (h1 : x ≤ 255) : (bits BinOp.and IntKind.u8 x (wt ((i : Int) + 1)) != 0) = decide (x / 2 ^ (7 - i % 8) % 2 = 1) := by
  have := bit_and x.toNat (by omega) (i % 8) (by omega)
  rw [Int.toNat_of_nonneg h0] at this
  rw [← this]
  unfold wt
  have e : (((i : Int) + 1 - 1) % 8) = ((i % 8 : Nat) : Int) := by omega
  rw [e]
def bIn (l : List Int) (a : Int) : Bool := decide (0 ≤ a) && decide (a + 8 ≤ l.length)
def bPart (l : List Int) (a : Int) : List Int := (l.drop a.toNat).take 8
def bGet (l : List Int) (a : Int) : List Int := if bIn l a = true then getB (bPart l a) 64 else []
def bEnd (l : List Int) (a : Int) : Int := if bIn l a = true then a + 8 else 0
/-- what GetBits comes to -/
def resG (l : List Int) (a : Int) (w : World) (e : Ending) (w' : World) : Prop := ∃ v, e = .returned (.tuple #[v, .int .i64 (bEnd l a), .bool (bIn l a)]) ∧ nums .i64 w.heap.size w'.heap.size w' v (bGet l a) ∧ Below w.heap.size w w'
set_option maxRecDepth 100000 in
theorem resG_no {l : List Int} {a : Int} {w w' : World} (h : bIn l a = false) (hb : Below w.heap.size w w') : resG l a w (.returned (.tuple #[.slice none 0 0, .int .i64 0, .bool false])) w' := by
  refine ⟨.slice none 0 0, ?_, ?_, hb⟩
  · simp [bEnd, h]
  · have : bGet l a = [] := by simp [bGet, h]
    rw [this]
    exact nums_none _ _ _ _
set_option maxRecDepth 100000 in
theorem resG_yes {l : List Int} {a : Int} {w w' : World} {v : Value} (h : bIn l a = true) (hn : nums .i64 w.heap.size w'.heap.size w' v (getB (bPart l a) 64)) (hb : Below w.heap.size w w') : resG l a w (.returned (.tuple #[v, .int .i64 (a + 8), .bool true])) w' := by
  refine ⟨v, ?_, ?_, hb⟩
  · simp [bEnd, h]
  · have : bGet l a = getB (bPart l a) 64 := by simp [bGet, h]
    rw [this]
    exact hn
set_option maxRecDepth 100000 in
theorem bGet_len (l : List Int) (a : Int) : (bGet l a).length ≤ 64 := by
  unfold bGet; split
  · exact getB_len _ _
  · simp
set_option maxRecDepth 100000 in
theorem bIn_no {l : List Int} {a : Int} (h : a < 0 ∨ (l.length : Int) - 8 < a) : bIn l a = false := by
  cases hg : bIn l a
  · rfl
  · simp only [bIn, Bool.and_eq_true, decide_eq_true_eq] at hg; omega
set_option maxRecDepth 100000 in
theorem bPart_get {l : List Int} {b0 : Nat} (j : Nat) (hj : j < 8) : (bPart l (b0 : Int)).getD j 0 = l.getD (b0 + j) 0 := by
  unfold bPart
  rw [List.getD_eq_getElem?_getD, List.getD_eq_getElem?_getD, List.getElem?_take_of_lt hj, List.getElem?_drop]
  rfl

set_option maxRecDepth 100000 in
set_option maxHeartbeats 1600000 in
theorem specGetBits_any (hi : Nat) (v : Value) (l : List Int) (a : Int) (w : World) (hn : l.length ≤ 1073741824) (ha : a ≤ 9223372036854775807) (hl : isBytes l) (h : rd .u8 hi w v l) (hhi : hi ≤ w.heap.size) :
    Calls Tryz.prog 76 #[v, .int .i64 a] w (resG l a w) := by
  obtain ⟨A, c, rfl, hc, hj⟩ := h
  by_cases h0 : a < 0
  · have HN := Lib.hid (bIn_no (l := l) (.inl h0))
    clear hj
    go_enter Tryz.func76, Tryz.ntmps76
    go_wp2
    go_ret3
    exact resG_no HN.out (Below.refl _ _)
  by_cases h1 : (l.length : Int) - 8 < a
  · have HN := Lib.hid (bIn_no (l := l) (.inr h1))
    clear hj
    go_enter Tryz.func76, Tryz.ntmps76
    go_wp2
    go_ret3
    exact resG_no HN.out (Below.refl _ _)
  have HI := Lib.hid (show bIn l a = true by simp [bIn]; omega)
  obtain ⟨b0, rfl⟩ : ∃ b0 : Nat, a = b0 := ⟨a.toNat, by omega⟩
  have HR := Lib.hid hj
  have HG := Lib.hid (fun j hj => bPart_get (l := l) (b0 := b0) j hj)
  have hpb : isBytes (bPart l (b0 : Int)) := fun z hz => hl z (List.mem_of_mem_drop (List.mem_of_mem_take hz))
  generalize hp : bPart l (b0 : Int) = p at *
  have HP := Lib.hid hp
  clear hj hp
  go_enter Tryz.func76, Tryz.ntmps76
  go_wp2
  go_loopw [7, 8] (fun bv iv wr => ∃ k : Nat, k ≤ 64 ∧ iv = .int .i64 ((k : Int) + 1) ∧ wr.ownsRow w.heap.size 3 1 bv (getB p k).length ((getB p k).map (Value.int .i64)) ∧ Below w.heap.size w wr) (fun _ iv _ => 65 - (intOf iv).toNat)
  case atStart =>
    refine ⟨0, Nat.zero_le _, rfl, ⟨rfl, Or.inr ⟨w.heap.size, 0, #[], rfl, Nat.le_refl _, ?_, Nat.le_refl _, Nat.zero_le _, rfl, rfl⟩⟩, (Below.refl _ _).alloc (Nat.le_refl _) _⟩
    show (w.heap.push _)[w.heap.size]? = _
    simp
  case round =>
    obtain ⟨k, hk, rfl, hown, hb⟩ := hrel
    by_cases hlt : k < 64
    · obtain ⟨b, off, rfl, hbl, hcell⟩ := HR.out (b0 + k / 8) (by omega)
      have hcell := (hb.cell (p := ⟨b, off + (b0 + k / 8), none⟩) (show b < w.heap.size by omega)).trans hcell
      rw [← HG.out (k / 8) (by omega)] at hcell
      have hx := hpb.getD (k / 8)
      have HT := Lib.hid (getB_step p k)
      have HA := Lib.hid (show bitAt p k = decide (p.getD (k / 8) 0 / 2 ^ (7 - k % 8) % 2 = 1) from rfl)
      have htk := getB_len p k
      have htl : (getB p k).length + 1 ≤ 9223372036854775807 := by omega
      have htb : ((getB p k).length + 1) * 8 ≤ 140737488355328 := by omega
      generalize p.getD (k / 8) 0 = x at hx hcell HA
      generalize getB p k = M at hown HT htl htb htk
      obtain ⟨hx0, hx1⟩ := hx
      clear htk
      obtain ⟨m, hm⟩ : ∃ m : Nat, m = k / 8 := ⟨_, rfl⟩
      obtain ⟨j, hjj⟩ : ∃ j : Nat, j = k % 8 := ⟨_, rfl⟩
      rw [← hm] at hcell
      rw [← hjj] at HA
      have q0 : ((k : Int) + 1 - 1) / 8 = (m : Int) := by omega
      have q1 : (k : Int) / 8 = (m : Int) := by omega
      have q2 : (k : Int) % 8 = (j : Int) := by omega
      have q3 : (b0 : Int) + (m : Int) < (l.length : Int) := by omega
      have q4 : (0 : Int) ≤ (b0 : Int) + (m : Int) := by omega
      have q5 : ((b0 : Int) + (m : Int)).toNat = b0 + m := by omega
      have q6 : (7 - (j : Int)).toNat = 7 - j := by omega
      have q7 : (j : Int) ≤ 7 := by omega
      clear hm hjj
      have q8 : 0 ≤ x / 2 ^ (7 - j) := Int.ediv_nonneg hx0 (Int.le_of_lt (Int.pow_pos (by decide)))
      cases hbt : bitAt p k
      · have e1 : (x / 2 ^ (7 - j) % 2 == 1) = false := by
          rw [HA.out] at hbt
          exact beq_eq_false_iff_ne.2 (of_decide_eq_false hbt)
        have HT : Hid (getB p (k + 1) = M) := Lib.hid (by rw [HT.out, hbt]; simp)
        have HO := Lib.hid hown
        clear hbt hown
        go_wp2
        go_roundw
        case rel => exact ⟨k + 1, by omega, by go_num, by rw [HT.out]; exact HO.out, hb⟩
        case measure => simp [intOf] <;> omega
      · have e1 : (x / 2 ^ (7 - j) % 2 == 1) = true := by
          rw [HA.out] at hbt
          exact beq_iff_eq.2 (of_decide_eq_true hbt)
        have HT : Hid (getB p (k + 1) = M ++ [(k : Int) + 1]) := Lib.hid (by rw [HT.out, hbt]; simp)
        clear hbt
        go_wp2_with (at_builtin; refine app_one (Value.int .i64) (int_one .i64) 53 3 (.int .i64 0) 8 Tryz.underlying53 infoI64 rfl _ _ rfl (by rfl) w wr _ M _ (by rfl) (by rfl) hown hb htl htb ?_)
        intro v' w1 hown' hb'
        clear hown hb
        go_wp2
        go_roundw
        case rel => exact ⟨k + 1, by omega, by go_num, by rw [HT.out]; simpa using hown', hb'⟩
        case measure => simp [intOf] <;> omega
    · obtain rfl : k = 64 := by omega
      have HN := Lib.hid (nums_of_own hown)
      clear hown
      go_wp2
      go_ret3
      exact resG_yes HI.out (by rw [HP.out]; exact HN.out) hb

/-- as resG; the numbers lie in a row of the call's own -/
def resGo (l : List Int) (a : Int) (w : World) (e : Ending) (w' : World) : Prop := ∃ v, e = .returned (.tuple #[v, .int .i64 (bEnd l a), .bool (bIn l a)]) ∧ ow 3 .i64 w.heap.size w' v (bGet l a) ∧ Below w.heap.size w w'
set_option maxRecDepth 100000 in
theorem resGo_no {l : List Int} {a : Int} {w w' : World} (h : bIn l a = false) (hb : Below w.heap.size w w') : resGo l a w (.returned (.tuple #[.slice none 0 0, .int .i64 0, .bool false])) w' := by
  refine ⟨.slice none 0 0, ?_, ?_, hb⟩
  · simp [bEnd, h]
  · have : bGet l a = [] := by simp [bGet, h]
    rw [this]
    exact ow_none _ _ _ _
set_option maxRecDepth 100000 in
theorem resGo_yes {l : List Int} {a : Int} {w w' : World} {v : Value} (h : bIn l a = true) (hn : w'.ownsRow w.heap.size 3 1 v (getB (bPart l a) 64).length ((getB (bPart l a) 64).map (Value.int .i64))) (hb : Below w.heap.size w w') : resGo l a w (.returned (.tuple #[v, .int .i64 (a + 8), .bool true])) w' := by
  refine ⟨v, ?_, ?_, hb⟩
  · simp [bEnd, h]
  · have : bGet l a = getB (bPart l a) 64 := by simp [bGet, h]
    rw [this]
    exact hn
set_option maxRecDepth 100000 in
set_option maxHeartbeats 1600000 in
theorem implGetBits_own (hi : Nat) (v : Value) (l : List Int) (a : Int) (w : World) (hn : l.length ≤ 1073741824) (ha : a ≤ 9223372036854775807) (hl : isBytes l) (h : rd .u8 hi w v l) (hhi : hi ≤ w.heap.size) :
    Calls Tryz.prog 97 #[v, .int .i64 a] w (resGo l a w) := by
  have H := Lib.hid h
  by_cases hbad : a < 0 ∨ (l.length : Int) - 8 < a
  · have HN := Lib.hid (bIn_no (l := l) hbad)
    have HB := Lib.hid hbad
    clear hbad h
    go_enter Tryz.func97, Tryz.ntmps97
    go_wp2_with fail
    refine (bytesAt_no hi _ l a 8 w hn (by decide) H.out HB.out).mono ?_
    rintro e w1 ⟨rfl, rfl⟩
    go_wp2
    go_ret3
    exact resGo_no HN.out (Below.refl _ _)
  have HI := Lib.hid (show bIn l a = true by simp [bIn]; omega)
  obtain ⟨b0, rfl⟩ : ∃ b0 : Nat, a = b0 := ⟨a.toNat, by omega⟩
  have hpb : isBytes (bPart l (b0 : Int)) := fun z hz => hl z (List.mem_of_mem_drop (List.mem_of_mem_take hz))
  have hpp : (l.drop b0).take 8 = bPart l (b0 : Int) := rfl
  have hpl : (bPart l (b0 : Int)).length = 8 := by unfold bPart; rw [List.length_take, List.length_drop]; omega
  have HPP := Lib.hid hpp
  clear h hpp
  go_enter Tryz.func97, Tryz.ntmps97
  go_wp2_with fail
  refine (bytesAt_yes hi _ l b0 8 w hn (by decide) (by decide) H.out (by omega)).mono ?_
  rw [HPP.out]
  generalize hp : bPart l (b0 : Int) = p at *
  rintro e w1 ⟨u, rfl, hu, rfl⟩
  have HP := Lib.hid hp
  obtain ⟨A1, c1, rfl, -, hj⟩ := hu
  rw [hpl] at hj ⊢
  have HR := Lib.hid hj
  clear hp hj hpl
  go_wp2
  go_loopw [9, 10, 11, 12] (fun bv iv _ _ wr => ∃ k : Nat, k ≤ 64 ∧ iv = .int .i64 ((k : Int) + 1) ∧ wr.ownsRow w.heap.size 3 1 bv (getB p k).length ((getB p k).map (Value.int .i64)) ∧ Below w.heap.size w wr) (fun _ iv _ _ _ => 65 - (intOf iv).toNat)
  case atStart => exact ⟨0, Nat.zero_le _, rfl, ⟨rfl, Or.inl ⟨rfl, rfl⟩⟩, Below.refl _ _⟩
  case round =>
    obtain ⟨k, hk, rfl, hown, hb⟩ := hrel
    by_cases hlt : k < 64
    · obtain ⟨b, off, rfl, hbl, hcell⟩ := HR.out (k / 8) (by omega)
      have hcell := (hb.cell (p := ⟨b, off + k / 8, none⟩) (show b < w.heap.size by omega)).trans hcell
      have hx := hpb.getD (k / 8)
      have HT := Lib.hid (getB_step p k)
      have HA := Lib.hid (show bitAt p k = decide (p.getD (k / 8) 0 / 2 ^ (7 - k % 8) % 2 = 1) from rfl)
      have htk := getB_len p k
      have htl : (getB p k).length + 1 ≤ 9223372036854775807 := by omega
      have htb : ((getB p k).length + 1) * 8 ≤ 140737488355328 := by omega
      generalize p.getD (k / 8) 0 = x at hx hcell HA
      generalize getB p k = M at hown HT htl htb htk
      obtain ⟨hx0, hx1⟩ := hx
      have HW := Lib.hid (bit_wt k hx0 hx1)
      clear htk
      obtain ⟨m, hm⟩ : ∃ m : Nat, m = k / 8 := ⟨_, rfl⟩
      rw [← hm] at hcell
      have hq0 : ((k : Int) + 1 - 1) / 8 = (m : Int) := by omega
      have Q0 := Lib.hid hq0
      have q3 : (m : Int) < 8 := by omega
      have q4 : (0 : Int) ≤ (m : Int) := by omega
      clear hm hq0
      cases hbt : bitAt p k
      · have e1 : (bits BinOp.and IntKind.u8 x (wt ((k : Int) + 1)) != 0) = false := by
          rw [HA.out] at hbt
          rw [HW.out, hbt]
        have HT : Hid (getB p (k + 1) = M) := Lib.hid (by rw [HT.out, hbt]; simp)
        have HO := Lib.hid hown
        clear hbt hown
        go_wp2_with fail
        refine (bitPlace_any ((k : Int) + 1) _ (by omega) (by omega)).mono ?_
        rw [Q0.out]
        rintro e w1 ⟨rfl, q, rfl⟩
        go_wp2
        go_roundw
        case rel => exact ⟨k + 1, by omega, by go_num, by rw [HT.out]; exact HO.out, below_drewN hb q⟩
        case measure => simp [intOf] <;> omega
      · have e1 : (bits BinOp.and IntKind.u8 x (wt ((k : Int) + 1)) != 0) = true := by
          rw [HA.out] at hbt
          rw [HW.out, hbt]
        have HT : Hid (getB p (k + 1) = M ++ [(k : Int) + 1]) := Lib.hid (by rw [HT.out, hbt]; simp)
        clear hbt
        go_wp2_with fail
        refine (bitPlace_any ((k : Int) + 1) _ (by omega) (by omega)).mono ?_
        rw [Q0.out]
        rintro e w1 ⟨rfl, q, rfl⟩
        have hbq := below_drewN hb q
        have hownq : (wr.drewN q).ownsRow w.heap.size 3 1 _ M.length (M.map (Value.int .i64)) := hown
        go_wp2_with (at_builtin; refine app_one (Value.int .i64) (int_one .i64) 53 3 (.int .i64 0) 8 Tryz.underlying53 infoI64 rfl _ _ rfl (by rfl) w (wr.drewN q) _ M _ (by rfl) (by rfl) hownq hbq htl htb ?_)
        intro v' w1 hown' hb'
        clear hown hb hownq hbq
        go_wp2
        go_roundw
        case rel => exact ⟨k + 1, by omega, by go_num, by rw [HT.out]; simpa using hown', hb'⟩
        case measure => simp [intOf] <;> omega
    · obtain rfl : k = 64 := by omega
      have HN := Lib.hid hown
      clear hown
      go_wp2
      go_ret3
      exact resGo_yes HI.out (by rw [HP.out]; exact HN.out) hb
set_option maxRecDepth 100000 in
theorem implGetBits_any (hi : Nat) (v : Value) (l : List Int) (a : Int) (w : World) (hn : l.length ≤ 1073741824) (ha : a ≤ 9223372036854775807) (hl : isBytes l) (h : rd .u8 hi w v l) (hhi : hi ≤ w.heap.size) :
    Calls Tryz.prog 97 #[v, .int .i64 a] w (resG l a w) :=
  (implGetBits_own hi v l a w hn ha hl h hhi).mono fun _ _ ⟨v, h1, h2, h3⟩ => ⟨v, h1, h2.nums, h3⟩
end Go.Proofs.YtkkbhlaakhkjnaaGreatDoor
