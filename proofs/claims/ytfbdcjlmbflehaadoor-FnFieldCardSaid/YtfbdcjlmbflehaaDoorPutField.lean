/- PutField of both; the table of powers of ten lies as Go's text lays it. -/
import Derived.Test.YtfbdcjlmbflehaaDoorFieldOk
import Derived.Test.YtfbdcjlmbflehaaDoorLen
import Derived.Test.YtfbdcjlmbflehaaDoorAppAll
import Derived.Test.YtfbdcjlmbflehaaDoorConvB
import Derived.Test.YtfbdcjlmbflehaaDoorTxt
set_option linter.unusedVariables false
namespace Go.Proofs.YtfbdcjlmbflehaaDoor
open Go.ChangeShapes Go.WideShapes Go.ChangeAt Go.RowKit

def fWidth (kd : Int) : Int := if kd = 3 ∨ kd = 4 then 2 else if kd = 5 then 3 else 0
set_option maxRecDepth 100000 in
theorem width_any (kd : Int) (w : World) :
    Calls Tryd.prog 47 #[.int .i64 kd] w fun e w' => e = .returned (.int .i64 (fWidth kd)) ∧ w = w' := by
  go_enter Tryd.func47, Tryd.ntmps47
  go_wp2
  all_goals go_ret
  all_goals refine ⟨ret_int ?_, rfl⟩
  all_goals simp only [beq_iff_eq, beq_eq_false_iff_ne, ne_eq] at *
  all_goals first | (subst_vars; rfl) | simp [fWidth, *]
/-- what PutField encodes of a content that fits -/
def putBody (kd : Int) (s : ByteArray) : List Int :=
  if kd = 1 then bcd s else if kd = 2 then bytesL s else if kd = 3 then putLen s.size 2 ++ bcd s else if kd = 4 then putLen s.size 2 ++ bytesL s else putLen s.size 3 ++ bytesL s
def putFL (no : Int) (s : ByteArray) : List Int := if fOk no s = true then putBody (fKind no) s else []
def resF (L : List Int) (ok : Bool) (w : World) (e : Ending) (w' : World) : Prop := ∃ v, e = .returned (.tuple #[v, .bool ok]) ∧ nums .u8 w.heap.size w'.heap.size w' v L ∧ Below w.heap.size w w'
set_option maxRecDepth 100000 in
theorem resF_no {w w' : World} (hb : Below w.heap.size w w') : resF [] false w (.returned (.tuple #[.slice none 0 0, .bool false])) w' := ⟨_, rfl, nums_none _ _ _ _, hb⟩
set_option maxRecDepth 100000 in
theorem resF_to {L L' : List Int} {ok ok' : Bool} {w w' : World} {e : Ending} (h : resF L ok w e w') (hL : L = L') (ho : ok = ok') : resF L' ok' w e w' := by subst hL; subst ho; exact h
set_option maxRecDepth 100000 in
theorem kind_size (no : Int) : (fKind no = 1 → fSize no ≤ 12) ∧ (fKind no = 2 → fSize no ≤ 12) ∧ (fKind no = 3 → fSize no ≤ 19) ∧ (fKind no = 4 → fSize no ≤ 20) ∧ fSize no ≤ 60 := by
  unfold fKind fSize
  repeat' (split <;> try omega)
set_option maxRecDepth 100000 in
theorem fOk_size {no : Int} {s : ByteArray} (h : fOk no s = true) : s.size ≤ 60 ∧ (fKind no = 1 → digs s = true ∧ s.size ≤ 12) ∧ (fKind no = 3 → digs s = true ∧ s.size ≤ 19) ∧ fKind no ≠ 0 ∧ 0 < s.size ∨ fKind no = 2 ∧ s.size ≤ 60 := by
  obtain ⟨z1, z2, z3, z4, z5⟩ := kind_size no
  unfold fOk okBy at h
  rcases kind_cases no with e | e | e | e | e | e
  · simp [e] at h
  · rw [if_pos e] at h
    simp only [Bool.and_eq_true, decide_eq_true_eq] at h
    have := z1 e
    have hp := digs_pos h.2
    exact Or.inl ⟨by omega, fun _ => ⟨h.2, by omega⟩, fun h' => by omega, by omega, hp⟩
  · rw [if_neg (by omega), if_pos e] at h
    simp only [Bool.and_eq_true, decide_eq_true_eq] at h
    exact Or.inr ⟨e, by omega⟩
  · rw [if_neg (by omega), if_neg (by omega), if_pos e] at h
    simp only [Bool.and_eq_true, decide_eq_true_eq] at h
    have := z3 e
    have hp := digs_pos h.2
    exact Or.inl ⟨by omega, fun h' => by omega, fun _ => ⟨h.2, by omega⟩, by omega, hp⟩
  · rw [if_neg (by omega), if_neg (by omega), if_neg (by omega), if_pos (by omega)] at h
    simp only [Bool.and_eq_true, decide_eq_true_eq] at h
    exact Or.inl ⟨by omega, fun h' => by omega, fun h' => by omega, by omega, by omega⟩
  · rw [if_neg (by omega), if_neg (by omega), if_neg (by omega), if_pos (by omega)] at h
    simp only [Bool.and_eq_true, decide_eq_true_eq] at h
    exact Or.inl ⟨by omega, fun h' => by omega, fun h' => by omega, by omega, by omega⟩
set_option maxRecDepth 100000 in
theorem fOk_60 {no : Int} {s : ByteArray} (h : fOk no s = true) : s.size ≤ 60 := by
  rcases fOk_size h with h | h
  · exact h.1
  · exact h.2
set_option maxRecDepth 100000 in
theorem ow_empty (T : TypeId) (K : IntKind) (w : World) : ow T K w.heap.size (w.alloc (.cells #[] T)) (.slice (some ⟨w.heap.size, 0, none⟩) 0 0) [] := by
  refine ⟨rfl, Or.inr ⟨w.heap.size, 0, #[], rfl, Nat.le_refl _, ?_, Nat.le_refl _, Nat.zero_le _, rfl, rfl⟩⟩
  show (w.heap.push _)[w.heap.size]? = _
  simp
set_option maxRecDepth 100000 in
theorem infoU8c : (Tryd.prog.info? 5).map (fun i => (i.zero, i.size, i.bytes)) = some (some (.int .u8 0), 1, 1) := by kernel_rfl
set_option maxRecDepth 100000 in
theorem bcdOk_60 {no : Int} {s : ByteArray} (h : fOk no s = true) (hk : fKind no = 1 ∨ fKind no = 3) : bcdOk s = true := by
  unfold bcdOk
  rcases fOk_size h with h | h
  · rcases hk with e | e
    · have := h.2.1 e; rw [this.1]; simp; omega
    · have := h.2.2.1 e; rw [this.1]; simp; omega
  · omega
def twoDig (n : Nat) : List UInt8 := if n < 10 then [UInt8.ofNat (48 + n)] else [UInt8.ofNat (48 + n / 10), UInt8.ofNat (48 + n % 10)]
set_option maxRecDepth 100000 in
theorem twoDig_ok : ∀ n, n < 61 → twoDig n ≠ [] ∧ (twoDig n).all isDig = true ∧ lead (twoDig n) = false ∧ (decOf (twoDig n)).toNat = n ∧ (twoDig n).length ≤ 2 := by decide +kernel
set_option maxRecDepth 100000 in
theorem dec_two (n : Nat) (h : n < 61) : Lib.decDigits n = twoDig n := by
  obtain ⟨h1, h2, h3, h4, -⟩ := twoDig_ok n h
  have := lead_yes _ (twoDig n) rfl h1 h2 h3
  rwa [h4] at this
set_option maxRecDepth 100000 in
theorem wide_60 (n : Nat) (h : n < 61) (d : Int) (hd : d = 2 ∨ d = 3) : bcdOk ⟨(wideOf (n : Int) d).toArray⟩ = true := by
  obtain ⟨h1, h2, -, -, h5⟩ := twoDig_ok n h
  have hw : wideOk (n : Int) d = true := by
    unfold wideOk
    rw [Int.toNat_natCast, dec_two n h]
    simp
    omega
  have hl : 1 ≤ (twoDig n).length := by
    rcases Nat.eq_zero_or_pos (twoDig n).length with e | e
    · exact absurd (List.eq_nil_of_length_eq_zero e) h1
    · exact e
  unfold wideOf
  rw [if_pos hw, Int.toNat_natCast, dec_two n h]
  unfold bcdOk
  rw [digs_list _ (by simp; omega)]
  have hs : ∀ l : List UInt8, (⟨l.toArray⟩ : ByteArray).size = l.length := fun l => rfl
  rw [hs]
  simp only [List.all_append, h2, Bool.and_true, Bool.and_eq_true, decide_eq_true_eq, List.length_append, List.length_replicate]
  refine ⟨?_, by omega⟩
  rw [List.all_eq_true]
  intro x hx
  rw [(List.mem_replicate.1 hx).2]
  rfl
set_option maxRecDepth 100000 in
theorem putLenOk_60 (n : Nat) (hn : n < 61) : putLenOk (n : Int) 2 = true ∧ putLenOk (n : Int) 3 = true := by
  constructor
  · unfold putLenOk; rw [wide_60 n hn 2 (Or.inl rfl)]; rfl
  · unfold putLenOk; rw [wide_60 n hn 3 (Or.inr rfl)]; rfl

set_option maxRecDepth 100000 in
set_option maxHeartbeats 1600000 in
theorem specPutField_any (no : Int) (s : ByteArray) (w : World) (hs : s.size ≤ 1048576) :
    Calls Tryd.prog 28 #[.int .i64 no, .string s] w (resF (putFL no s) (fOk no s) w) := by
  have H1 := Lib.hid (specFieldOk_any no s w (by unfold maxLen; omega))
  cases hok : fOk no s
  · have HK := Lib.hid hok
    clear hok
    go_enter Tryd.func28, Tryd.ntmps28
    go_wp2_with fail
    refine H1.out.mono ?_
    rw [HK.out]
    rintro e w1 ⟨rfl, rfl⟩
    go_wp2
    go_ret2
    have : putFL no s = [] := by simp [putFL, HK.out]
    rw [this]
    exact resF_no (Below.refl _ _)
  have h60 := fOk_60 hok
  have HB := Lib.hid (fun h => bcdOk_60 hok h)
  have HP : Hid (putFL no s = putBody (fKind no) s) := Lib.hid (by simp [putFL, hok])
  have H2 := Lib.hid (specFieldKind_any no)
  have hne : fKind no ≠ 0 := fun h => by rw [fOk_no h] at hok; cases hok
  have hk := kind_cases no
  have HK := Lib.hid hok
  clear hok
  rw [HP.out]
  generalize fKind no = kd at H2 hk HB HP hne
  rcases hk with rfl | rfl | rfl | rfl | rfl | rfl
  · exact absurd rfl hne
  · have hz := bcd_len s
    have HV := Lib.hid (show putBody 1 s = bcd s by simp [putBody])
    clear hne
    go_enter Tryd.func28, Tryd.ntmps28
    go_wp2_with fail
    refine H1.out.mono ?_
    rw [HK.out]
    rintro e w1 ⟨rfl, rfl⟩
    go_wp2_with fail
    refine (H2.out _).mono ?_
    rintro e w1 ⟨rfl, rfl⟩
    go_wp2_with fail
    refine (width_any _ _).mono ?_
    rw [show fWidth 1 = 0 from rfl]
    rintro e w1 ⟨rfl, rfl⟩
    go_wp2_with fail
    refine (specPutBcd_any s _ (by omega)).mono ?_
    rintro e w2 ⟨u, rfl, hu, hb⟩
    have HU := Lib.hid hu
    have HO := Lib.hid ((ow_empty 5 .u8 w).below hb (Nat.le_refl _))
    have hBB : Below w.heap.size w w2 := (below_new (Below.refl _ _) (Nat.le_refl _)).trans (hb.mono (by simp))
    have HBB := Lib.hid hBB
    have hsz := hBB.size
    clear hu hb hBB
    go_wp2_with (at_builtin; refine app_all w2 rfl _ _ 22 rfl w.heap.size 5 .u8 1 Tryd.underlying22 infoU8c _ [] rfl HO.out w2.heap.size _ (bcd s) (by rfl) HU.out.nums.rd (by unfold maxLen; simp; omega) (by simp; omega) hsz ?_)
    intro v' w3 hown hg hb3
    have HO3 := Lib.hid hown
    clear hown hg
    go_wp2
    go_ret2
    rw [HV.out]
    exact ⟨_, rfl, HO3.out.nums, HBB.out.trans hb3⟩
  · have hz := bytesL_len s
    have hzz := Lib.hid hz
    clear hz
    have hcv := fun W => Lib.run_convert_string_bytes (P := Tryd.prog) W 9 22 5 s Tryd.underlying9 Tryd.underlying22 Tryd.underlying5
    have HV := Lib.hid (show putBody 2 s = bytesL s by simp [putBody])
    clear hne
    go_enter Tryd.func28, Tryd.ntmps28
    go_wp2_with fail
    refine H1.out.mono ?_
    rw [HK.out]
    rintro e w1 ⟨rfl, rfl⟩
    go_wp2_with fail
    refine (H2.out _).mono ?_
    rintro e w1 ⟨rfl, rfl⟩
    go_wp2_with fail
    refine (width_any _ _).mono ?_
    rw [show fWidth 2 = 0 from rfl]
    rintro e w1 ⟨rfl, rfl⟩
    go_wp2_with (at_builtin; refine app_all (Lib.bytesWorld (w.alloc (.cells #[] 5)) 5 s) rfl _ _ 22 rfl w.heap.size 5 .u8 1 Tryd.underlying22 infoU8c _ [] rfl ((ow_empty 5 .u8 w).below (bytesW_below _ _ _) (Nat.le_refl _)) _ _ (bytesL s) (by rfl) (bytesW_nums' (w.alloc (.cells #[] 5)) 5 s (w.heap.size + 1) (by simp)).rd (by unfold maxLen; rw [hzz.out]; simp; omega) (by rw [hzz.out]; simp; omega) (by rw [Lib.bytesWorld_size]; simp; omega) ?_)
    intro v' w3 hown hg hb3
    have HO3 := Lib.hid hown
    clear hown hg
    go_wp2
    go_ret2
    rw [HV.out]
    exact ⟨_, rfl, HO3.out.nums, (((below_new (Below.refl _ _) (Nat.le_refl _)).trans ((bytesW_below _ _ _).mono (by simp))).trans hb3)⟩
  · have hz := bcd_len s
    have HV := Lib.hid (show putBody 3 s = putLen (s.size : Int) 2 ++ bcd s by simp [putBody])
    clear hne
    go_enter Tryd.func28, Tryd.ntmps28
    go_wp2_with fail
    refine H1.out.mono ?_
    rw [HK.out]
    rintro e w1 ⟨rfl, rfl⟩
    go_wp2_with fail
    refine (H2.out _).mono ?_
    rintro e w1 ⟨rfl, rfl⟩
    go_wp2_with fail
    refine (width_any _ _).mono ?_
    rw [show fWidth 3 = 2 from rfl]
    rintro e w1 ⟨rfl, rfl⟩
    go_wp2_with fail
    refine (width_any _ _).mono ?_
    rw [show fWidth 3 = 2 from rfl]
    rintro e w1 ⟨rfl, rfl⟩
    go_wp2_with fail
    refine (specPutLen_any _ _ _).mono ?_
    rintro e w2 ⟨u, rfl, hu, hb⟩
    have hpl := putLen_len (s.size : Int) 2
    have hBB : Below w.heap.size w w2 := (below_new (Below.refl _ _) (Nat.le_refl _)).trans (hb.mono (by simp))
    have HU := Lib.hid (hu.mono (B' := w.heap.size) (by simp))
    have HBB := Lib.hid hBB
    have hsz := hBB.size
    clear hu hb hBB
    go_wp2_with fail
    refine (specPutBcd_any s _ (by omega)).mono ?_
    rintro e w4 ⟨u4, rfl, hu4, hb4⟩
    have HU4 := Lib.hid hu4
    have HH := Lib.hid (HU.out.below hb4 (Nat.le_refl _))
    have hB4 := HBB.out.trans (hb4.mono hsz)
    have hsz4 := hB4.size
    have HB4 := Lib.hid hB4
    clear hu4 hb4 hB4 HU
    go_wp2_with (at_builtin; refine app_all w4 rfl _ _ 22 rfl w.heap.size 5 .u8 1 Tryd.underlying22 infoU8c _ (putLen (s.size : Int) 2) rfl HH.out w4.heap.size _ (bcd s) (by rfl) HU4.out.nums.rd (by unfold maxLen; omega) (by omega) hsz4 ?_)
    intro v' w3 hown hg hb3
    have HO3 := Lib.hid hown
    clear hown hg
    go_wp2
    go_ret2
    rw [HV.out]
    exact ⟨_, rfl, HO3.out.nums, HB4.out.trans hb3⟩
  · have hz := bytesL_len s
    have hzz := Lib.hid hz
    clear hz
    have hcv := fun W => Lib.run_convert_string_bytes (P := Tryd.prog) W 9 22 5 s Tryd.underlying9 Tryd.underlying22 Tryd.underlying5
    have HV := Lib.hid (show putBody 4 s = putLen (s.size : Int) 2 ++ bytesL s by simp [putBody])
    clear hne
    go_enter Tryd.func28, Tryd.ntmps28
    go_wp2_with fail
    refine H1.out.mono ?_
    rw [HK.out]
    rintro e w1 ⟨rfl, rfl⟩
    go_wp2_with fail
    refine (H2.out _).mono ?_
    rintro e w1 ⟨rfl, rfl⟩
    go_wp2_with fail
    refine (width_any _ _).mono ?_
    rw [show fWidth 4 = 2 from rfl]
    rintro e w1 ⟨rfl, rfl⟩
    go_wp2_with fail
    refine (width_any _ _).mono ?_
    rw [show fWidth 4 = 2 from rfl]
    rintro e w1 ⟨rfl, rfl⟩
    go_wp2_with fail
    refine (specPutLen_any _ _ _).mono ?_
    rintro e w2 ⟨u, rfl, hu, hb⟩
    have hpl := putLen_len (s.size : Int) 2
    have hBB : Below w.heap.size w w2 := (below_new (Below.refl _ _) (Nat.le_refl _)).trans (hb.mono (by simp))
    have HU := Lib.hid (hu.mono (B' := w.heap.size) (by simp))
    have HBB := Lib.hid hBB
    have hsz := hBB.size
    clear hu hb hBB
    go_wp2_with (at_builtin; refine app_all (Lib.bytesWorld w2 5 s) rfl _ _ 22 rfl w.heap.size 5 .u8 1 Tryd.underlying22 infoU8c _ (putLen (s.size : Int) 2) rfl (HU.out.below (bytesW_below _ _ _) (Nat.le_refl _)) _ _ (bytesL s) (by rfl) (bytesW_nums w2 5 s).rd (by unfold maxLen; rw [hzz.out]; omega) (by rw [hzz.out]; omega) (by rw [Lib.bytesWorld_size]; omega) ?_)
    intro v' w3 hown hg hb3
    have HO3 := Lib.hid hown
    clear hown hg
    go_wp2
    go_ret2
    rw [HV.out]
    exact ⟨_, rfl, HO3.out.nums, (HBB.out.trans ((bytesW_below _ _ _).mono hsz)).trans hb3⟩
  · have hz := bytesL_len s
    have hzz := Lib.hid hz
    clear hz
    have hcv := fun W => Lib.run_convert_string_bytes (P := Tryd.prog) W 9 22 5 s Tryd.underlying9 Tryd.underlying22 Tryd.underlying5
    have HV := Lib.hid (show putBody 5 s = putLen (s.size : Int) 3 ++ bytesL s by simp [putBody])
    clear hne
    go_enter Tryd.func28, Tryd.ntmps28
    go_wp2_with fail
    refine H1.out.mono ?_
    rw [HK.out]
    rintro e w1 ⟨rfl, rfl⟩
    go_wp2_with fail
    refine (H2.out _).mono ?_
    rintro e w1 ⟨rfl, rfl⟩
    go_wp2_with fail
    refine (width_any _ _).mono ?_
    rw [show fWidth 5 = 3 from rfl]
    rintro e w1 ⟨rfl, rfl⟩
    go_wp2_with fail
    refine (width_any _ _).mono ?_
    rw [show fWidth 5 = 3 from rfl]
    rintro e w1 ⟨rfl, rfl⟩
    go_wp2_with fail
    refine (specPutLen_any _ _ _).mono ?_
    rintro e w2 ⟨u, rfl, hu, hb⟩
    have hpl := putLen_len (s.size : Int) 3
    have hBB : Below w.heap.size w w2 := (below_new (Below.refl _ _) (Nat.le_refl _)).trans (hb.mono (by simp))
    have HU := Lib.hid (hu.mono (B' := w.heap.size) (by simp))
    have HBB := Lib.hid hBB
    have hsz := hBB.size
    clear hu hb hBB
    go_wp2_with (at_builtin; refine app_all (Lib.bytesWorld w2 5 s) rfl _ _ 22 rfl w.heap.size 5 .u8 1 Tryd.underlying22 infoU8c _ (putLen (s.size : Int) 3) rfl (HU.out.below (bytesW_below _ _ _) (Nat.le_refl _)) _ _ (bytesL s) (by rfl) (bytesW_nums w2 5 s).rd (by unfold maxLen; rw [hzz.out]; omega) (by rw [hzz.out]; omega) (by rw [Lib.bytesWorld_size]; omega) ?_)
    intro v' w3 hown hg hb3
    have HO3 := Lib.hid hown
    clear hown hg
    go_wp2
    go_ret2
    rw [HV.out]
    exact ⟨_, rfl, HO3.out.nums, (HBB.out.trans ((bytesW_below _ _ _).mono hsz)).trans hb3⟩
end Go.Proofs.YtfbdcjlmbflehaaDoor
