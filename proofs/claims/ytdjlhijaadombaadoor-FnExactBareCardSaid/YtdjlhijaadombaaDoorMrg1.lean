/- PutField of both; the table of powers of ten lies as Go's text lays it. -/
import Derived.Test.YtdjlhijaadombaaDoorFieldOk
import Derived.Test.YtdjlhijaadombaaDoorLen
import Derived.Test.YtdjlhijaadombaaDoorAppAll
import Derived.Test.YtdjlhijaadombaaDoorConvB
import Derived.Test.YtdjlhijaadombaaDoorTxt
import Derived.Laws.EntriesVeiled
import Derived.LaidMore
import Derived.Test.YtdjlhijaadombaaDoorShelf
import Derived.Test.YtdjlhijaadombaaDoorReplyP
import Derived.Test.YtdjlhijaadombaaDoorMsgF
import Derived.Test.YtdjlhijaadombaaDoorMsgS
import Derived.Test.YtdjlhijaadombaaDoorMsgRow
import Derived.Test.YtdjlhijaadombaaDoorNums
import Derived.Test.YtdjlhijaadombaaDoorNumsB
import Derived.Test.YtdjlhijaadombaaDoorBytesAt
import Derived.Laws.ShiftsVar
import Derived.IntWalk
import Derived.RegionTactic
import Derived.BigRegion
import Derived.Maps.StringElems
set_option linter.unusedVariables false
namespace Go.Proofs.YtdjlhijaadombaaDoor
open Go.ChangeShapes Go.WideShapes Go.ChangeAt Go.RowKit

def fWidth (kd : Int) : Int := if kd = 3 ∨ kd = 4 then 2 else if kd = 5 then 3 else 0
/-- what PutField encodes of a content that fits -/
def putBody (kd : Int) (s : ByteArray) : List Int :=
  if kd = 1 then bcd s else if kd = 2 then bytesL s else if kd = 3 then putLen s.size 2 ++ bcd s else if kd = 4 then putLen s.size 2 ++ bytesL s else putLen s.size 3 ++ bytesL s
def putFL (no : Int) (s : ByteArray) : List Int := if fOk no s = true then putBody (fKind no) s else []
def resF (L : List Int) (ok : Bool) (w : World) (e : Ending) (w' : World) : Prop := ∃ v, e = .returned (.tuple #[v, .bool ok]) ∧ nums .u8 w.heap.size w'.heap.size w' v L ∧ Below w.heap.size w w'
set_option maxRecDepth 100000 in
theorem resF_no {w w' : World} (hb : Below w.heap.size w w') : resF [] false w (.returned (.tuple #[.slice none 0 0, .bool false])) w' := ⟨_, rfl, nums_none _ _ _ _, hb⟩
set_option maxRecDepth 100000 in
theorem resF_to {L L' : List Int} {ok ok' : Bool} {w w' : World} {e : Ending} (h : resF L ok w e w') (hL : L = L') (ho : ok = ok') : resF L' ok' w e w' := by subst hL; subst ho; exact h
set_option maxRecDepth 100000 in
theorem kind_size (no : Int) : (fKind no = 1 → fSize no ≤ 12) ∧ (fKind no = 2 → fSize no ≤ 12) ∧ (fKind no = 3 → fSize no ≤ 19) ∧ (fKind no = 4 → fSize no ≤ 20) ∧ fSize no ≤ 60 := by
  unfold fKind fSize
  repeat' (split <;> try omega)
set_option maxRecDepth 100000 in
theorem fOk_size {no : Int} {s : ByteArray} (h : fOk no s = true) : s.size ≤ 60 ∧ (fKind no = 1 → digs s = true ∧ s.size ≤ 12) ∧ (fKind no = 3 → digs s = true ∧ s.size ≤ 19) ∧ fKind no ≠ 0 ∧ 0 < s.size ∨ fKind no = 2 ∧ s.size ≤ 60 := by
  obtain ⟨z1, z2, z3, z4, z5⟩ := kind_size no
  unfold fOk okBy at h
  rcases kind_cases no with e | e | e | e | e | e
  · simp [e] at h
  · rw [if_pos e] at h
    simp only [Bool.and_eq_true, decide_eq_true_eq] at h
    have := z1 e
    have hp := digs_pos h.2
    exact Or.inl ⟨by omega, fun _ => ⟨h.2, by omega⟩, fun h' => by omega, by omega, hp⟩
  · rw [if_neg (by omega), if_pos e] at h
    simp only [Bool.and_eq_true, decide_eq_true_eq] at h
    exact Or.inr ⟨e, by omega⟩
  · rw [if_neg (by omega), if_neg (by omega), if_pos e] at h
    simp only [Bool.and_eq_true, decide_eq_true_eq] at h
    have := z3 e
    have hp := digs_pos h.2
    exact Or.inl ⟨by omega, fun h' => by omega, fun _ => ⟨h.2, by omega⟩, by omega, hp⟩
  · rw [if_neg (by omega), if_neg (by omega), if_neg (by omega), if_pos (by omega)] at h
    simp only [Bool.and_eq_true, decide_eq_true_eq] at h
    exact Or.inl ⟨by omega, fun h' => by omega, fun h' => by omega, by omega, by omega⟩
  · rw [if_neg (by omega), if_neg (by omega), if_neg (by omega), if_pos (by omega)] at h
    simp only [Bool.and_eq_true, decide_eq_true_eq] at h
    exact Or.inl ⟨by omega, fun h' => by omega, fun h' => by omega, by omega, by omega⟩
set_option maxRecDepth 100000 in
theorem fOk_60 {no : Int} {s : ByteArray} (h : fOk no s = true) : s.size ≤ 60 := by
  rcases fOk_size h with h | h
  · exact h.1
  · exact h.2
set_option maxRecDepth 100000 in
theorem ow_empty (T : TypeId) (K : IntKind) (w : World) : ow T K w.heap.size (w.alloc (.cells #[] T)) (.slice (some ⟨w.heap.size, 0, none⟩) 0 0) [] := by
  refine ⟨rfl, Or.inr ⟨w.heap.size, 0, #[], rfl, Nat.le_refl _, ?_, Nat.le_refl _, Nat.zero_le _, rfl, rfl⟩⟩
  show (w.heap.push _)[w.heap.size]? = _
  simp
set_option maxRecDepth 100000 in
theorem infoU8c : (Tryd.prog.info? 5).map (fun i => (i.zero, i.size, i.bytes)) = some (some (.int .u8 0), 1, 1) := by kernel_rfl
set_option maxRecDepth 100000 in
theorem bcdOk_60 {no : Int} {s : ByteArray} (h : fOk no s = true) (hk : fKind no = 1 ∨ fKind no = 3) : bcdOk s = true := by
  unfold bcdOk
  rcases fOk_size h with h | h
  · rcases hk with e | e
    · have := h.2.1 e; rw [this.1]; simp; omega
    · have := h.2.2.1 e; rw [this.1]; simp; omega
  · omega
def twoDig (n : Nat) : List UInt8 := if n < 10 then [UInt8.ofNat (48 + n)] else [UInt8.ofNat (48 + n / 10), UInt8.ofNat (48 + n % 10)]
set_option maxRecDepth 100000 in
theorem twoDig_ok : ∀ n, n < 61 → twoDig n ≠ [] ∧ (twoDig n).all isDig = true ∧ lead (twoDig n) = false ∧ (decOf (twoDig n)).toNat = n ∧ (twoDig n).length ≤ 2 := by decide +kernel
set_option maxRecDepth 100000 in
theorem dec_two (n : Nat) (h : n < 61) : Lib.decDigits n = twoDig n := by
  obtain ⟨h1, h2, h3, h4, -⟩ := twoDig_ok n h
  have := lead_yes _ (twoDig n) rfl h1 h2 h3
  rwa [h4] at this
set_option maxRecDepth 100000 in
theorem wide_60 (n : Nat) (h : n < 61) (d : Int) (hd : d = 2 ∨ d = 3) : bcdOk ⟨(wideOf (n : Int) d).toArray⟩ = true := by
  obtain ⟨h1, h2, -, -, h5⟩ := twoDig_ok n h
  have hw : wideOk (n : Int) d = true := by
    unfold wideOk
    rw [Int.toNat_natCast, dec_two n h]
    simp
    omega
  have hl : 1 ≤ (twoDig n).length := by
    rcases Nat.eq_zero_or_pos (twoDig n).length with e | e
    · exact absurd (List.eq_nil_of_length_eq_zero e) h1
    · exact e
  unfold wideOf
  rw [if_pos hw, Int.toNat_natCast, dec_two n h]
  unfold bcdOk
  rw [digs_list _ (by simp; omega)]
  have hs : ∀ l : List UInt8, (⟨l.toArray⟩ : ByteArray).size = l.length := fun l => rfl
  rw [hs]
  simp only [List.all_append, h2, Bool.and_true, Bool.and_eq_true, decide_eq_true_eq, List.length_append, List.length_replicate]
  refine ⟨?_, by omega⟩
  rw [List.all_eq_true]
  intro x hx
  rw [(List.mem_replicate.1 hx).2]
  rfl
set_option maxRecDepth 100000 in
theorem putLenOk_60 (n : Nat) (hn : n < 61) : putLenOk (n : Int) 2 = true ∧ putLenOk (n : Int) 3 = true := by
  constructor
  · unfold putLenOk; rw [wide_60 n hn 2 (Or.inl rfl)]; rfl
  · unfold putLenOk; rw [wide_60 n hn 3 (Or.inr rfl)]; rfl

end Go.Proofs.YtdjlhijaadombaaDoor
/- PutField of the program; the table of powers of ten lies as Go's text lays it. -/
set_option linter.unusedVariables false
namespace Go.Proofs.YtdjlhijaadombaaDoor
open Go.ChangeShapes Go.WideShapes Go.ChangeAt Go.RowKit

set_option maxRecDepth 100000 in
theorem rowV_zero {no : Int} (h : fKind no = 0) : rowV no = .agg #[.int .i64 0, .int .i64 0, .int .i64 0, .nilFunc, .nilFunc] := by rw [rowV, if_pos h]
set_option maxRecDepth 100000 in
theorem rowV_yes {no : Int} (h : fKind no ≠ 0) : rowV no = .agg #[.int .i64 no, .int .i64 (fSize no), .int .i64 (fKind no), .func (.func (putId (fKind no))) #[] #[], .func (.func (getId (fKind no))) #[] #[]] := by rw [rowV, if_neg h, rowCells]
set_option maxRecDepth 100000 in
theorem putText_any (s : ByteArray) (w : World) : Calls Tryd.prog 42 #[.string s] w (resF (bytesL s) true w) := by
  have hcv := fun W => Lib.run_convert_string_bytes (P := Tryd.prog) W 9 46 5 s Tryd.underlying9 Tryd.underlying46 Tryd.underlying5
  have HN := Lib.hid (bytesW_nums w 5 s)
  have HZ := Lib.hid (Lib.bytesWorld_size w 5 s)
  have HB := Lib.hid (bytesW_below w 5 s)
  go_enter Tryd.func42, Tryd.ntmps42
  go_wp2
  go_ret2
  refine ⟨_, rfl, ?_, HB.out⟩
  rw [HZ.out]
  exact HN.out
set_option maxRecDepth 100000 in
theorem putBcd_F (s : ByteArray) (w : World) (hs : s.size ≤ 1073741824) (hb : bcdOk s = true) : Calls Tryd.prog 40 #[.string s] w (resF (bcd s) true w) :=
  (implPutBcd_any s w hs).mono fun e w' h => by
    obtain ⟨v, he, ho, hb'⟩ := h
    rw [hb] at he
    exact ⟨v, he, ho.nums, hb'⟩

set_option maxRecDepth 100000 in
set_option maxHeartbeats 800000 in
theorem behind_bcd2 (s : ByteArray) (w : World) (hs : s.size ≤ 60) (hb0 : bcdOk s = true) (htab : Lib.TabIs Tryd.prog w "internal/strconv.uint64pow10" .u64 Lib.pow10Tab) :
    Calls Tryd.prog 53 #[.string s, .int .i64 2, .func (.func 40) #[] #[]] w (resF (putLen (s.size : Int) 2 ++ bcd s) true w) := by
  have hok := (putLenOk_60 s.size (by omega)).1
  have HT := Lib.hid htab
  have HK := Lib.hid hok
  have hl1 := putLen_len (s.size : Int) 2
  have hl2 : (bcd s).length ≤ 60 := by have := bcd_len s; omega
  have HB0 := Lib.hid hb0
  clear hb0
  clear htab hok
  go_enter Tryd.func53, Tryd.ntmps53
  go_wp2_with fail
  refine (implPutLen_any _ _ _ (by omega) (by omega) HT.out).mono ?_
  rw [HK.out]
  rintro e w1 ⟨u1, rfl, hu1, hb1⟩
  have HU1 := Lib.hid hu1
  have hz1 := hb1.size
  have HB1 := Lib.hid hb1
  clear hu1 hb1
  go_wp2_with fail
  refine (putBcd_F s _ (by omega) HB0.out).mono ?_
  rintro e w2 ⟨u2, rfl, hu2, hb2⟩
  have HU2 := Lib.hid hu2
  have HH := Lib.hid (HU1.out.below hb2 (Nat.le_refl _))
  have hB2 := HB1.out.trans (hb2.mono hz1)
  have hz2 := hB2.size
  have HB2 := Lib.hid hB2
  clear hu2 hb2 hB2 HU1
  go_wp2_with (at_builtin; refine app_all w2 rfl _ _ 46 rfl w.heap.size 5 .u8 1 Tryd.underlying46 infoU8c _ (putLen (s.size : Int) 2) rfl HH.out w2.heap.size _ (bcd s) (by rfl) HU2.out.rd (by unfold maxLen; omega) (by omega) hz2 ?_)
  intro v' w3 hown hg hb3
  have HO3 := Lib.hid hown
  clear hown hg
  go_wp2
  go_ret2
  exact ⟨_, rfl, HO3.out.nums, HB2.out.trans hb3⟩

set_option maxRecDepth 100000 in
set_option maxHeartbeats 800000 in
theorem behind_text2 (s : ByteArray) (w : World) (hs : s.size ≤ 60)  (htab : Lib.TabIs Tryd.prog w "internal/strconv.uint64pow10" .u64 Lib.pow10Tab) :
    Calls Tryd.prog 53 #[.string s, .int .i64 2, .func (.func 42) #[] #[]] w (resF (putLen (s.size : Int) 2 ++ bytesL s) true w) := by
  have hok := (putLenOk_60 s.size (by omega)).1
  have HT := Lib.hid htab
  have HK := Lib.hid hok
  have hl1 := putLen_len (s.size : Int) 2
  have hl2 : (bytesL s).length ≤ 60 := by rw [bytesL_len]; exact hs
  skip
  clear htab hok
  go_enter Tryd.func53, Tryd.ntmps53
  go_wp2_with fail
  refine (implPutLen_any _ _ _ (by omega) (by omega) HT.out).mono ?_
  rw [HK.out]
  rintro e w1 ⟨u1, rfl, hu1, hb1⟩
  have HU1 := Lib.hid hu1
  have hz1 := hb1.size
  have HB1 := Lib.hid hb1
  clear hu1 hb1
  go_wp2_with fail
  refine (putText_any s _).mono ?_
  rintro e w2 ⟨u2, rfl, hu2, hb2⟩
  have HU2 := Lib.hid hu2
  have HH := Lib.hid (HU1.out.below hb2 (Nat.le_refl _))
  have hB2 := HB1.out.trans (hb2.mono hz1)
  have hz2 := hB2.size
  have HB2 := Lib.hid hB2
  clear hu2 hb2 hB2 HU1
  go_wp2_with (at_builtin; refine app_all w2 rfl _ _ 46 rfl w.heap.size 5 .u8 1 Tryd.underlying46 infoU8c _ (putLen (s.size : Int) 2) rfl HH.out w2.heap.size _ (bytesL s) (by rfl) HU2.out.rd (by unfold maxLen; omega) (by omega) hz2 ?_)
  intro v' w3 hown hg hb3
  have HO3 := Lib.hid hown
  clear hown hg
  go_wp2
  go_ret2
  exact ⟨_, rfl, HO3.out.nums, HB2.out.trans hb3⟩

set_option maxRecDepth 100000 in
set_option maxHeartbeats 800000 in
theorem behind_text3 (s : ByteArray) (w : World) (hs : s.size ≤ 60)  (htab : Lib.TabIs Tryd.prog w "internal/strconv.uint64pow10" .u64 Lib.pow10Tab) :
    Calls Tryd.prog 53 #[.string s, .int .i64 3, .func (.func 42) #[] #[]] w (resF (putLen (s.size : Int) 3 ++ bytesL s) true w) := by
  have hok := (putLenOk_60 s.size (by omega)).2
  have HT := Lib.hid htab
  have HK := Lib.hid hok
  have hl1 := putLen_len (s.size : Int) 3
  have hl2 : (bytesL s).length ≤ 60 := by rw [bytesL_len]; exact hs
  skip
  clear htab hok
  go_enter Tryd.func53, Tryd.ntmps53
  go_wp2_with fail
  refine (implPutLen_any _ _ _ (by omega) (by omega) HT.out).mono ?_
  rw [HK.out]
  rintro e w1 ⟨u1, rfl, hu1, hb1⟩
  have HU1 := Lib.hid hu1
  have hz1 := hb1.size
  have HB1 := Lib.hid hb1
  clear hu1 hb1
  go_wp2_with fail
  refine (putText_any s _).mono ?_
  rintro e w2 ⟨u2, rfl, hu2, hb2⟩
  have HU2 := Lib.hid hu2
  have HH := Lib.hid (HU1.out.below hb2 (Nat.le_refl _))
  have hB2 := HB1.out.trans (hb2.mono hz1)
  have hz2 := hB2.size
  have HB2 := Lib.hid hB2
  clear hu2 hb2 hB2 HU1
  go_wp2_with (at_builtin; refine app_all w2 rfl _ _ 46 rfl w.heap.size 5 .u8 1 Tryd.underlying46 infoU8c _ (putLen (s.size : Int) 3) rfl HH.out w2.heap.size _ (bytesL s) (by rfl) HU2.out.rd (by unfold maxLen; omega) (by omega) hz2 ?_)
  intro v' w3 hown hg hb3
  have HO3 := Lib.hid hown
  clear hown hg
  go_wp2
  go_ret2
  exact ⟨_, rfl, HO3.out.nums, HB2.out.trans hb3⟩

set_option maxRecDepth 100000 in
theorem putNumVar_any (s : ByteArray) (w : World) (hs : s.size ≤ 60) (hb0 : bcdOk s = true) (htab : Lib.TabIs Tryd.prog w "internal/strconv.uint64pow10" .u64 Lib.pow10Tab) :
    Calls Tryd.prog 44 #[.string s] w (resF (putLen (s.size : Int) 2 ++ bcd s) true w) := by
  have H := Lib.hid (behind_bcd2 s w hs hb0 htab)
  clear htab hb0
  go_enter Tryd.func44, Tryd.ntmps44
  go_wp2_with fail
  refine H.out.mono ?_
  rintro e w1 ⟨u, rfl, hu, hb⟩
  have HU := Lib.hid hu
  clear hu
  go_wp2
  go_ret2
  exact ⟨_, rfl, HU.out, hb⟩

set_option maxRecDepth 100000 in
theorem putTextVar_any (s : ByteArray) (w : World) (hs : s.size ≤ 60)  (htab : Lib.TabIs Tryd.prog w "internal/strconv.uint64pow10" .u64 Lib.pow10Tab) :
    Calls Tryd.prog 46 #[.string s] w (resF (putLen (s.size : Int) 2 ++ bytesL s) true w) := by
  have H := Lib.hid (behind_text2 s w hs htab)
  clear htab 
  go_enter Tryd.func46, Tryd.ntmps46
  go_wp2_with fail
  refine H.out.mono ?_
  rintro e w1 ⟨u, rfl, hu, hb⟩
  have HU := Lib.hid hu
  clear hu
  go_wp2
  go_ret2
  exact ⟨_, rfl, HU.out, hb⟩

set_option maxRecDepth 100000 in
theorem putTextLong_any (s : ByteArray) (w : World) (hs : s.size ≤ 60)  (htab : Lib.TabIs Tryd.prog w "internal/strconv.uint64pow10" .u64 Lib.pow10Tab) :
    Calls Tryd.prog 48 #[.string s] w (resF (putLen (s.size : Int) 3 ++ bytesL s) true w) := by
  have H := Lib.hid (behind_text3 s w hs htab)
  clear htab 
  go_enter Tryd.func48, Tryd.ntmps48
  go_wp2_with fail
  refine H.out.mono ?_
  rintro e w1 ⟨u, rfl, hu, hb⟩
  have HU := Lib.hid hu
  clear hu
  go_wp2
  go_ret2
  exact ⟨_, rfl, HU.out, hb⟩

set_option maxRecDepth 100000 in
theorem putFL_len (no : Int) (s : ByteArray) (hs : s.size ≤ 1048576) : (putFL no s).length ≤ 1048700 := by
  unfold putFL
  split
  · unfold putBody
    have h1 := bcd_len s
    have h2 := bytesL_len s
    have h3 := putLen_len (s.size : Int) 2
    have h4 := putLen_len (s.size : Int) 3
    repeat' split
    all_goals (try rw [List.length_append])
    all_goals omega
  · simp
set_option maxRecDepth 100000 in
theorem tab_lt {w : World} (htab : Lib.TabIs Tryd.prog w "internal/strconv.uint64pow10" .u64 Lib.pow10Tab) : 3 < w.heap.size := by
  unfold Lib.TabIs World.var? at htab
  rw [show Tryd.prog.globalNamed "internal/strconv.uint64pow10" = some 3 by kernel_rfl] at htab
  rcases Nat.lt_or_ge 3 w.heap.size with h | h
  · exact h
  · simp [Array.getElem?_eq_none h] at htab
end Go.Proofs.YtdjlhijaadombaaDoor
/- GetField of both; the sentinel of the number scanner holds an error. -/
set_option linter.unusedVariables false
namespace Go.Proofs.YtdjlhijaadombaaDoor
open Go.ChangeShapes Go.WideShapes Go.ChangeAt Go.RowKit

/-- a text, an offset and whether there is one -/
def trip (ok : Bool) (t : List UInt8) (e : Int) : Ending := .returned (.tuple #[.string ⟨(if ok = true then t else []).toArray⟩, .int .i64 (if ok = true then e else 0), .bool ok])
set_option maxRecDepth 100000 in
theorem trip_no {t : List UInt8} {e : Int} : trip false t e = .returned (.tuple #[.string ⟨#[]⟩, .int .i64 0, .bool false]) := rfl
set_option maxRecDepth 100000 in
theorem trip_yes {t : List UInt8} {e : Int} : trip true t e = .returned (.tuple #[.string ⟨t.toArray⟩, .int .i64 e, .bool true]) := rfl
set_option maxRecDepth 100000 in
theorem trip_form (ok : Bool) (t : List UInt8) (e : Int) : ∃ (s : ByteArray) (x : Int) (b : Bool), trip ok t e = .returned (.tuple #[.string s, .int .i64 x, .bool b]) := ⟨_, _, _, rfl⟩
set_option maxRecDepth 100000 in
theorem trip_of {ok : Bool} {t : List UInt8} {e : Int} (h : ok = false) : trip ok t e = .returned (.tuple #[.string ⟨#[]⟩, .int .i64 0, .bool false]) := by subst h; rfl
set_option maxRecDepth 100000 in
theorem trip_on {ok : Bool} {t : List UInt8} {e : Int} (h : ok = true) : trip ok t e = .returned (.tuple #[.string ⟨t.toArray⟩, .int .i64 e, .bool true]) := by subst h; rfl
set_option maxRecDepth 100000 in
theorem gRes_trip (l : List Int) (a n : Int) : gRes l a n = trip (gOk l a n) (gTxt l a n) (gEnd l a n) := by
  cases h : gOk l a n
  · rw [gRes_no h, trip_no]
  · rw [gRes, h, trip_yes]
set_option maxRecDepth 100000 in
theorem fSize_pos {no : Int} (h : fKind no ≠ 0) : 1 ≤ fSize no := by
  unfold fKind at h
  unfold fSize
  repeat' (split at h <;> try omega)
  all_goals repeat' (split <;> try omega)
def inR (l : List Int) (a n : Int) : Bool := decide (0 ≤ a) && decide (0 ≤ n) && decide (a + n ≤ l.length)
def tPart (l : List Int) (a n : Int) : List UInt8 := ((l.drop a.toNat).take n.toNat).map byteOf
set_option maxRecDepth 100000 in
theorem inR_yes {l : List Int} {a n : Int} (h : inR l a n = true) : 0 ≤ a ∧ 0 ≤ n ∧ a + n ≤ l.length := by
  simp only [inR, Bool.and_eq_true, decide_eq_true_eq] at h; exact ⟨h.1.1, h.1.2, h.2⟩
set_option maxRecDepth 100000 in
theorem inR_no {l : List Int} {a n : Int} (h : a < 0 ∨ n < 0 ∨ (l.length : Int) < a + n) : inR l a n = false := by
  cases hq : inR l a n
  · rfl
  · have := inR_yes hq; omega
set_option maxRecDepth 100000 in
theorem tPart_len {l : List Int} {a n : Int} (h : inR l a n = true) : (tPart l a n).length = n.toNat := by
  have := inR_yes h
  unfold tPart
  rw [List.length_map, List.length_take, List.length_drop]
  omega
set_option maxRecDepth 100000 in
theorem tPart_le (l : List Int) (a n : Int) : (tPart l a n).length ≤ l.length := by
  unfold tPart
  rw [List.length_map, List.length_take, List.length_drop]
  omega
set_option maxRecDepth 100000 in
theorem gOk_in {l : List Int} {a n : Int} (h : gOk l a n = true) : gIn l a n = true ∧ small (gPart l a n) = true ∧ (n % 2 = 0 ∨ halfAt (gPart l a n) 0 = 0) := by
  simp only [gOk, Bool.and_eq_true, Bool.or_eq_true, decide_eq_true_eq] at h
  exact ⟨h.1.1, h.1.2, h.2⟩
set_option maxRecDepth 100000 in
theorem gIn_bd {l : List Int} {a n : Int} (h : gIn l a n = true) : 1 ≤ n ∧ n ≤ 38 ∧ 0 ≤ a ∧ a + (n + 1) / 2 ≤ l.length := by
  simp only [gIn, Bool.and_eq_true, decide_eq_true_eq] at h; exact ⟨h.1.1.1, h.1.1.2, h.1.2, h.2⟩
set_option maxRecDepth 100000 in
theorem gTxt_ok {l : List Int} {a n : Int} (hl : isBytes l) (h : gOk l a n = true) : ((gTxt l a n).length : Int) = n ∧ digs ⟨(gTxt l a n).toArray⟩ = true := by
  obtain ⟨hi, hs, hz⟩ := gOk_in h
  have hb := gIn_bd hi
  have hp := gPart_len hi
  have hpb := gPart_bytes hl a n
  have hlen : ((gTxt l a n).length : Int) = n := by
    unfold gTxt
    rw [if_pos h]
    split
    · rw [List.length_drop, decN_len, hp]; omega
    · rw [decN_len, hp]; omega
  refine ⟨hlen, ?_⟩
  rw [digs_list _ (by omega)]
  unfold gTxt
  rw [if_pos h]
  split
  · next ho =>
    rw [all_tail hpb (by rw [hp]; omega) (by omega), hs]
  · rw [all_dec hpb, hs]
set_option maxRecDepth 100000 in
theorem lenEnd_bd (l : List Int) (a d : Int) : 0 ≤ lenEnd l a d ∧ lenEnd l a d ≤ l.length := by
  unfold lenEnd gEnd
  split
  · split
    · next h =>
      have := gIn_bd (gOk_in h).1
      omega
    · omega
  · omega
set_option maxRecDepth 100000 in
theorem lenVal_bd (l : List Int) (a d : Int) : 0 ≤ lenVal l a d ∧ lenVal l a d ≤ 999999999999999999 := by
  unfold lenVal narVal
  split
  · split
    · next h =>
      have := nar_scan h
      exact ⟨dec_pos _ (digs_all this.2.2.1), this.2.1⟩
    · omega
  · omega
set_option maxRecDepth 100000 in
theorem lenRes_trip (l : List Int) (a d : Int) : lenRes l a d = .returned (.tuple #[.int .i64 (lenVal l a d), .int .i64 (lenEnd l a d), .bool (lenGot l a d)]) := rfl
set_option maxRecDepth 100000 in
theorem lenGot_neg {l : List Int} {a d : Int} (h : a < 0) : lenGot l a d = false := by
  unfold lenGot
  rw [gOk_out (gIn_no (.inr (.inr (.inl h)))), Bool.and_false]

set_option maxRecDepth 100000 in
theorem bytesAt_out (hi : Nat) (v : Value) (l : List Int) (at' : Int) (n : Nat) (w : World) (hn : l.length ≤ 1073741824) (hn' : n ≤ 1000000000000000000) (h : rd .u8 hi w v l) (hbad : at' < 0 ∨ (l.length : Int) - n < at') :
    Calls Tryd.prog 51 #[v, .int .i64 at', .int .i64 (n : Int)] w fun e w' => e = .returned (.tuple #[.slice none 0 0, .bool false]) ∧ w = w' := by
  obtain ⟨A, c, rfl, hc, -⟩ := h
  by_cases h0 : at' < 0
  · go_enter Tryd.func51, Tryd.ntmps51
    go_wp2
    go_ret2
    exact ⟨rfl, rfl⟩
  · have h1 : (l.length : Int) - n < at' := by omega
    clear hbad
    go_enter Tryd.func51, Tryd.ntmps51
    go_wp2
    go_ret2
    exact ⟨rfl, rfl⟩
set_option maxRecDepth 100000 in
set_option maxHeartbeats 800000 in
theorem bytesAt_in (hi : Nat) (v : Value) (l : List Int) (a n : Nat) (w : World) (hn : l.length ≤ 1073741824) (h : rd .u8 hi w v l) (han : a + n ≤ l.length) :
    Calls Tryd.prog 51 #[v, .int .i64 (a : Int), .int .i64 (n : Int)] w fun e w' => ∃ u, e = .returned (.tuple #[u, .bool true]) ∧ rd .u8 hi w u ((l.drop a).take n) ∧ w = w' := by
  obtain ⟨A, c, rfl, hc, hj⟩ := h
  by_cases hl0 : l.length = 0
  · have hl : l = [] := List.eq_nil_of_length_eq_zero hl0
    subst hl
    obtain rfl : a = 0 := by simp at han; omega
    obtain rfl : n = 0 := by simp at han; omega
    have q3 : (0 : Int) ≤ (c : Int) := by omega
    clear hj hl0
    cases A with
    | none =>
      go_enter Tryd.func51, Tryd.ntmps51
      go_wp2
      go_ret2
      exact ⟨_, rfl, ⟨none, c, rfl, by simp, fun j hj => by simp at hj⟩, rfl⟩
    | some ad =>
      by_cases hc0 : c = 0
      · subst hc0
        go_enter Tryd.func51, Tryd.ntmps51
        go_wp2
        go_ret2
        exact ⟨_, rfl, ⟨_, _, rfl, by simp, fun j hj => by simp at hj⟩, rfl⟩
      · go_enter Tryd.func51, Tryd.ntmps51
        go_wp2
        go_ret2
        exact ⟨_, rfl, ⟨_, _, rfl, by simp, fun j hj => by simp at hj⟩, rfl⟩
  obtain ⟨b, off, rfl, hb, -⟩ := hj 0 (by omega)
  have hj' : ∀ j, j < l.length → w.cell? ⟨b, off + j, none⟩ = some (.int .u8 (l.getD j 0)) := fun j hjl => by
    obtain ⟨b', off', e, _, hx⟩ := hj j hjl
    simp only [Option.some.injEq, Addr.mk.injEq, and_true] at e
    obtain ⟨rfl, rfl⟩ := e
    exact hx
  have HR := Lib.hid (rd_part hj' hb hc han)
  have q1 : (0 : Int) ≤ (a : Int) := by omega
  have q2 : (a : Int) + (n : Int) ≤ (c : Int) := by omega
  have q3 : (a : Int) ≤ (a : Int) + (n : Int) := by omega
  have HA := Lib.hid han
  clear hj hj'
  by_cases hca : c = a
  · have HX := Lib.hid hca
    obtain rfl : n = 0 := by omega
    go_enter Tryd.func51, Tryd.ntmps51
    go_wp2
    go_ret2
    refine ⟨_, rfl, ?_, rfl⟩
    exact ⟨some ⟨b, off, none⟩, c - a, by simp; have := HX.out; omega, by simp, fun j hj => by simp at hj⟩
  · go_enter Tryd.func51, Tryd.ntmps51
    go_wp2
    go_ret2
    refine ⟨_, rfl, ?_, rfl⟩
    show rd .u8 hi w (.slice (some ⟨b, off + a, none⟩) (a + n - a) (c - a)) _
    rw [Nat.add_sub_cancel_left]
    exact HR.out

end Go.Proofs.YtdjlhijaadombaaDoor
/- FieldFit of both; no conditions. -/
set_option linter.unusedVariables false
namespace Go.Proofs.YtdjlhijaadombaaDoor
open Go.ChangeShapes Go.WideShapes Go.ChangeAt Go.RowKit

def padL (j : Nat) (s : ByteArray) : ByteArray := ⟨(List.replicate j 48 ++ s.data.toList).toArray⟩
def padR (j : Nat) (s : ByteArray) : ByteArray := ⟨(s.data.toList ++ List.replicate j 32).toArray⟩
set_option maxRecDepth 100000 in
theorem padL_zero (s : ByteArray) : padL 0 s = s := rfl
set_option maxRecDepth 100000 in
theorem padR_zero (s : ByteArray) : padR 0 s = s := by unfold padR; simp
set_option maxRecDepth 100000 in
theorem padL_size (j : Nat) (s : ByteArray) : (padL j s).size = j + s.size := by show (List.replicate j 48 ++ s.data.toList).length = _; simp
set_option maxRecDepth 100000 in
theorem padR_size (j : Nat) (s : ByteArray) : (padR j s).size = s.size + j := by show (s.data.toList ++ List.replicate j 32).length = _; simp
set_option maxRecDepth 100000 in
theorem padL_step (j : Nat) (s : ByteArray) : (⟨#[48]⟩ : ByteArray) ++ padL j s = padL (j + 1) s := by
  unfold padL
  apply ByteArray.ext
  simp [List.replicate_succ]
set_option maxRecDepth 100000 in
theorem padR_step (j : Nat) (s : ByteArray) : padR j s ++ (⟨#[32]⟩ : ByteArray) = padR (j + 1) s := by
  unfold padR
  apply ByteArray.ext
  rw [ByteArray.data_append]
  have h32 : (⟨#[32]⟩ : ByteArray).data = [(32 : UInt8)].toArray := rfl
  rw [h32, List.append_toArray, List.replicate_succ', List.append_assoc]
/-- s filled up for a kind and a size -/
def fitS (kd : Int) (m : Nat) (s : ByteArray) : ByteArray := if kd = 1 then padL (m - s.size) s else if kd = 2 then padR (m - s.size) s else s
def sizeB : Value → Nat | .string s => s.size | _ => 0
def fitRes (no : Int) (s : ByteArray) : ByteArray := if fOk no (fitS (fKind no) (fSize no).toNat s) = true then fitS (fKind no) (fSize no).toNat s else ⟨#[]⟩
set_option maxRecDepth 100000 in
theorem fitS_size (kd : Int) (m : Nat) (s : ByteArray) (hm : m ≤ 60) (hs : s.size ≤ 1048576) : (fitS kd m s).size ≤ 1048576 := by
  unfold fitS
  split
  · rw [padL_size]; omega
  · split
    · rw [padR_size]; omega
    · exact hs
set_option maxRecDepth 100000 in
theorem rep_32 (c : Nat) : Lib.repeatL [32] c = List.replicate c 32 := by
  induction c with
  | zero => rfl
  | succ c ih => rw [List.replicate_succ, ← ih]; rfl
set_option maxRecDepth 100000 in
theorem fSize_nn (no : Int) : 0 ≤ fSize no := by
  by_cases h : fKind no = 0
  · rw [fSize_no h]; omega
  · have := fSize_pos h; omega

end Go.Proofs.YtdjlhijaadombaaDoor
/- What chapter 6 asks of a reply, as plain functions of the arguments. No conditions. -/
set_option linter.unusedVariables false
namespace Go.Proofs.YtdjlhijaadombaaDoor
open Go.ChangeShapes Go.WideShapes Go.ChangeAt Go.RowKit

def rpNos : List Int := [2, 3, 4, 7, 11, 37, 38, 39, 41, 49, 54, 102, 103]
/-- a field of a reply, and whether it is there -/
def rpF (m : MsgD) (code : Int) (hold told : ByteArray) (no : Int) : ByteArray × Bool :=
  if no = 38 then (fitRes 38 hold, decide (code = 0) && decide (hold ≠ ⟨#[]⟩)) else if no = 39 then (rsText code, true) else if no = 54 then (told, decide (told ≠ ⟨#[]⟩)) else (fldTxt m.2 no, fldHas m.2 no)
def rpL (F : Int → ByteArray × Bool) (l : List Int) : List FieldD := l.filterMap fun no => if (F no).2 = true then some (no, (F no).1) else none
def rpGood (F : Int → ByteArray × Bool) (l : List Int) : Bool := l.all fun no => !(F no).2 || fOk no (F no).1
set_option maxRecDepth 100000 in
theorem rpL_yes {F : Int → ByteArray × Bool} {l : List Int} {no : Int} (h : (F no).2 = true) : rpL F (l ++ [no]) = rpL F l ++ [(no, (F no).1)] := by
  unfold rpL; rw [List.filterMap_append]; simp [h]
set_option maxRecDepth 100000 in
theorem rpL_no {F : Int → ByteArray × Bool} {l : List Int} {no : Int} (h : (F no).2 = false) : rpL F (l ++ [no]) = rpL F l := by
  unfold rpL; rw [List.filterMap_append]; simp [h]
set_option maxRecDepth 100000 in
theorem rpGood_yes {F : Int → ByteArray × Bool} {l : List Int} {no : Int} (h : (F no).2 = true) : rpGood F (l ++ [no]) = (rpGood F l && fOk no (F no).1) := by
  unfold rpGood; rw [List.all_append]; simp [h]
set_option maxRecDepth 100000 in
theorem rpGood_no {F : Int → ByteArray × Bool} {l : List Int} {no : Int} (h : (F no).2 = false) : rpGood F (l ++ [no]) = rpGood F l := by
  unfold rpGood; rw [List.all_append]; simp [h]
set_option maxRecDepth 100000 in
theorem rpL_len (F : Int → ByteArray × Bool) (l : List Int) : (rpL F l).length ≤ l.length := by unfold rpL; exact List.length_filterMap_le _ _
def replyRes (m : MsgD) (code : Int) (hold told : ByteArray) : MsgD × Bool :=
  if (msgOk m = true ∧ replyMti m.1 ≠ ⟨#[]⟩ ∧ rsText code ≠ ⟨#[]⟩) ∧ rpGood (rpF m code hold told) rpNos = true then ((replyMti m.1, rpL (rpF m code hold told) rpNos), true) else ((⟨#[]⟩, []), false)
def bareMsg (mti : ByteArray) (code : Int) : MsgD := (replyMti mti, [(39, rsText code)])
def bareRes (mti : ByteArray) (code : Int) : MsgD × Bool := if msgOk (bareMsg mti code) = true then (bareMsg mti code, true) else ((⟨#[]⟩, []), false)
set_option maxRecDepth 100000 in
theorem reply_len (m : MsgD) (code : Int) (hold told : ByteArray) : (replyRes m code hold told).1.2.length ≤ 13 := by
  unfold replyRes
  split
  · exact rpL_len _ rpNos
  · exact Nat.zero_le _
set_option maxRecDepth 100000 in
theorem reply_size (m : MsgD) (code : Int) (hold told : ByteArray) : (replyRes m code hold told).1.1.size ≤ 4 := by
  unfold replyRes
  split
  · exact replyMti_size _
  · exact Nat.zero_le _
set_option maxRecDepth 100000 in
theorem bare_len (mti : ByteArray) (code : Int) : (bareRes mti code).1.2.length ≤ 1 := by
  unfold bareRes
  split
  · exact Nat.le_refl _
  · exact Nat.zero_le _
set_option maxRecDepth 100000 in
theorem bare_size (mti : ByteArray) (code : Int) : (bareRes mti code).1.1.size ≤ 4 := by
  unfold bareRes
  split
  · exact replyMti_size _
  · exact Nat.zero_le _
end Go.Proofs.YtdjlhijaadombaaDoor
/- WithField of the reference; no conditions. -/
set_option linter.unusedVariables false
namespace Go.Proofs.YtdjlhijaadombaaDoor
open Go.ChangeShapes Go.WideShapes Go.ChangeAt Go.RowKit

def wstep (no : Int) (s : ByteArray) (st : List FieldD × Bool) (x : FieldD) : List FieldD × Bool :=
  let st1 := if !st.2 && decide (no ≤ x.1) then (st.1 ++ [(no, s)], true) else st
  if x.1 = no then st1 else (st1.1 ++ [x], st1.2)
def wst (no : Int) (s : ByteArray) (l : List FieldD) (i : Nat) : List FieldD × Bool := (l.take i).foldl (wstep no s) ([], false)
set_option maxRecDepth 100000 in
theorem wst_zero (no : Int) (s : ByteArray) (l : List FieldD) : wst no s l 0 = ([], false) := rfl
set_option maxRecDepth 100000 in
theorem wst_next (no : Int) (s : ByteArray) (l : List FieldD) (i : Nat) (x : FieldD) (h : l[i]? = some x) : wst no s l (i + 1) = wstep no s (wst no s l i) x := by
  obtain ⟨hi, rfl⟩ := List.getElem?_eq_some_iff.1 h
  unfold wst
  rw [List.take_succ_eq_append_getElem hi, List.foldl_append]
  rfl
set_option maxRecDepth 100000 in
theorem wst_len (no : Int) (s : ByteArray) (l : List FieldD) (i : Nat) : (wst no s l i).1.length ≤ 2 * i := by
  induction i with
  | zero => simp [wst]
  | succ i ih =>
    by_cases hi : i < l.length
    · rw [wst_next no s l i l[i] (List.getElem?_eq_getElem hi)]
      unfold wstep
      split <;> split <;> simp <;> omega
    · have : wst no s l (i + 1) = wst no s l i := by
        unfold wst; rw [List.take_of_length_le (by omega), List.take_of_length_le (by omega)]
      rw [this]; omega
def withF (no : Int) (s : ByteArray) (l : List FieldD) : List FieldD := if (wst no s l l.length).2 = true then (wst no s l l.length).1 else (wst no s l l.length).1 ++ [(no, s)]
def withOk (m : MsgD) (no : Int) (s : ByteArray) : Bool := msgOk m && fOk no s
def withMsg (m : MsgD) (no : Int) (s : ByteArray) : MsgD := if withOk m no s = true then (m.1, withF no s m.2) else (⟨#[]⟩, [])

end Go.Proofs.YtdjlhijaadombaaDoor
/- GetField of the program; the sentinel of the number scanner holds an error. -/
set_option linter.unusedVariables false
namespace Go.Proofs.YtdjlhijaadombaaDoor
open Go.ChangeShapes Go.WideShapes Go.ChangeAt Go.RowKit

set_option maxRecDepth 100000 in
theorem getText_any (hi : Nat) (v : Value) (l : List Int) (a n : Int) (w : World) (hn : l.length ≤ 1073741824) (hn0 : 0 ≤ n) (hn1 : n ≤ 1000000000000000000) (h : rd .u8 hi w v l) :
    Calls Tryd.prog 43 #[v, .int .i64 a, .int .i64 n] w fun e w' => e = trip (inR l a n) (tPart l a n) (a + n) ∧ Below w.heap.size w w' := by
  obtain ⟨m, rfl⟩ : ∃ m : Nat, n = m := ⟨n.toNat, by omega⟩
  have H := Lib.hid h
  clear h
  cases hr : inR l a (m : Int)
  · rw [trip_no]
    have hbad : a < 0 ∨ (l.length : Int) - (m : Int) < a := by
      rcases Int.lt_or_le a 0 with h0 | h0
      · exact Or.inl h0
      · rcases Int.lt_or_le ((l.length : Int) - m) a with h1 | h1
        · exact Or.inr h1
        · have : inR l a (m : Int) = true := by simp [inR]; omega
          rw [this] at hr; cases hr
    have HB := Lib.hid hbad
    clear hbad hr
    go_enter Tryd.func43, Tryd.ntmps43
    go_wp2_with fail
    refine (bytesAt_out hi _ l a m w hn (by omega) H.out HB.out).mono ?_
    rintro e w1 ⟨rfl, rfl⟩
    go_wp2
    go_ret3
    exact ⟨rfl, Below.refl _ _⟩
  · have hb := inR_yes hr
    rw [trip_yes]
    obtain ⟨b0, rfl⟩ : ∃ b0 : Nat, a = b0 := ⟨a.toNat, by omega⟩
    have HT : Hid (tPart l (b0 : Int) (m : Int) = ((l.drop b0).take m).map byteOf) := Lib.hid rfl
    have han : b0 + m ≤ l.length := by omega
    clear hr hb
    rw [HT.out]
    clear HT
    have HY := Lib.hid (bytesAt_in hi _ l b0 m w hn H.out han)
    clear H
    generalize (l.drop b0).take m = q at HY ⊢
    go_enter Tryd.func43, Tryd.ntmps43
    go_wp2_with fail
    refine HY.out.mono ?_
    rintro e w1 ⟨u, rfl, hu, rfl⟩
    have hst := str_of_rd hu
    clear hu
    go_wp2
    go_ret3
    exact ⟨rfl, Below.refl _ _⟩

set_option maxRecDepth 100000 in
set_option maxHeartbeats 800000 in
theorem getBehindBcd_any (hi : Nat) (v : Value) (l : List Int) (a : Int) (w : World) (p : Addr) (hg : 2 < w.heap.size) (hc : w.cell? ⟨2, 0, none⟩ = some (.iface 114 (.pointer (some p)))) (hn : l.length ≤ 1073741824) (ha : a ≤ 9223372036854775807) (hl : isBytes l) (h : rd .u8 hi w v l) (hhi : hi ≤ w.heap.size) :
    Calls Tryd.prog 54 #[v, .int .i64 a, .int .i64 2, .func (.func 41) #[] #[]] w fun e w' => e = trip (lenGot l a 2 && gOk l (lenEnd l a 2) (lenVal l a 2)) (gTxt l (lenEnd l a 2) (lenVal l a 2)) (gEnd l (lenEnd l a 2) (lenVal l a 2)) ∧ Below w.heap.size w w' := by
  have H := Lib.hid h
  have HL := Lib.hid hl
  have HC := Lib.hid hc
  have he := lenEnd_bd l a 2
  have hv := lenVal_bd l a 2
  clear h hc hl
  cases hgot : lenGot l a 2
  · have HG := Lib.hid hgot
    rw [Bool.false_and, trip_no]
    clear hgot
    go_enter Tryd.func54, Tryd.ntmps54
    go_wp2_with fail
    refine (implGetLen_any hi _ l a _ _ p hg HC.out hn ha HL.out H.out hhi).mono ?_
    rw [lenRes_trip, HG.out]
    rintro e w1 ⟨rfl, hb⟩
    go_wp2
    go_ret3
    exact ⟨rfl, hb⟩
  · have HG := Lib.hid hgot
    rw [Bool.true_and]
    clear hgot
    go_enter Tryd.func54, Tryd.ntmps54
    go_wp2_with fail
    refine (implGetLen_any hi _ l a _ _ p hg HC.out hn ha HL.out H.out hhi).mono ?_
    rw [lenRes_trip, HG.out]
    rintro e w1 ⟨rfl, hb⟩
    have HB1 := Lib.hid hb
    have hz1 := hb.size
    clear hb
    go_wp2_with fail
    refine (implGetBcd_any hi _ l _ _ _ hn (by omega) HL.out (H.out.below HB1.out hhi) (Nat.le_trans hhi hz1)).mono ?_
    rintro e w2 ⟨he2, hb2⟩
    rw [gRes_trip] at he2
    obtain ⟨s0, x0, b0, hf⟩ := trip_form (gOk l (lenEnd l a 2) (lenVal l a 2)) (gTxt l (lenEnd l a 2) (lenVal l a 2)) (gEnd l (lenEnd l a 2) (lenVal l a 2))
    have HF := Lib.hid hf
    rw [hf] at he2
    clear hf
    subst he2
    go_wp2
    go_ret3
    rw [HF.out]
    exact ⟨rfl, HB1.out.trans (hb2.mono hz1)⟩

set_option maxRecDepth 100000 in
set_option maxHeartbeats 800000 in
theorem getBehindText_any (hi : Nat) (v : Value) (l : List Int) (a : Int) (w : World) (p : Addr) (hg : 2 < w.heap.size) (hc : w.cell? ⟨2, 0, none⟩ = some (.iface 114 (.pointer (some p)))) (hn : l.length ≤ 1073741824) (ha : a ≤ 9223372036854775807) (hl : isBytes l) (h : rd .u8 hi w v l) (hhi : hi ≤ w.heap.size) :
    Calls Tryd.prog 54 #[v, .int .i64 a, .int .i64 2, .func (.func 43) #[] #[]] w fun e w' => e = trip (lenGot l a 2 && inR l (lenEnd l a 2) (lenVal l a 2)) (tPart l (lenEnd l a 2) (lenVal l a 2)) (lenEnd l a 2 + lenVal l a 2) ∧ Below w.heap.size w w' := by
  have H := Lib.hid h
  have HL := Lib.hid hl
  have HC := Lib.hid hc
  have he := lenEnd_bd l a 2
  have hv := lenVal_bd l a 2
  clear h hc hl
  cases hgot : lenGot l a 2
  · have HG := Lib.hid hgot
    rw [Bool.false_and, trip_no]
    clear hgot
    go_enter Tryd.func54, Tryd.ntmps54
    go_wp2_with fail
    refine (implGetLen_any hi _ l a _ _ p hg HC.out hn ha HL.out H.out hhi).mono ?_
    rw [lenRes_trip, HG.out]
    rintro e w1 ⟨rfl, hb⟩
    go_wp2
    go_ret3
    exact ⟨rfl, hb⟩
  · have HG := Lib.hid hgot
    rw [Bool.true_and]
    clear hgot
    go_enter Tryd.func54, Tryd.ntmps54
    go_wp2_with fail
    refine (implGetLen_any hi _ l a _ _ p hg HC.out hn ha HL.out H.out hhi).mono ?_
    rw [lenRes_trip, HG.out]
    rintro e w1 ⟨rfl, hb⟩
    have HB1 := Lib.hid hb
    have hz1 := hb.size
    clear hb
    go_wp2_with fail
    refine (getText_any hi _ l _ _ _ hn (by omega) (by omega) (H.out.below HB1.out hhi)).mono ?_
    rintro e w2 ⟨he2, hb2⟩
    skip
    obtain ⟨s0, x0, b0, hf⟩ := trip_form (inR l (lenEnd l a 2) (lenVal l a 2)) (tPart l (lenEnd l a 2) (lenVal l a 2)) (lenEnd l a 2 + lenVal l a 2)
    have HF := Lib.hid hf
    rw [hf] at he2
    clear hf
    subst he2
    go_wp2
    go_ret3
    rw [HF.out]
    exact ⟨rfl, HB1.out.trans (hb2.mono hz1)⟩

set_option maxRecDepth 100000 in
set_option maxHeartbeats 800000 in
theorem getBehindLong_any (hi : Nat) (v : Value) (l : List Int) (a : Int) (w : World) (p : Addr) (hg : 2 < w.heap.size) (hc : w.cell? ⟨2, 0, none⟩ = some (.iface 114 (.pointer (some p)))) (hn : l.length ≤ 1073741824) (ha : a ≤ 9223372036854775807) (hl : isBytes l) (h : rd .u8 hi w v l) (hhi : hi ≤ w.heap.size) :
    Calls Tryd.prog 54 #[v, .int .i64 a, .int .i64 3, .func (.func 43) #[] #[]] w fun e w' => e = trip (lenGot l a 3 && inR l (lenEnd l a 3) (lenVal l a 3)) (tPart l (lenEnd l a 3) (lenVal l a 3)) (lenEnd l a 3 + lenVal l a 3) ∧ Below w.heap.size w w' := by
  have H := Lib.hid h
  have HL := Lib.hid hl
  have HC := Lib.hid hc
  have he := lenEnd_bd l a 3
  have hv := lenVal_bd l a 3
  clear h hc hl
  cases hgot : lenGot l a 3
  · have HG := Lib.hid hgot
    rw [Bool.false_and, trip_no]
    clear hgot
    go_enter Tryd.func54, Tryd.ntmps54
    go_wp2_with fail
    refine (implGetLen_any hi _ l a _ _ p hg HC.out hn ha HL.out H.out hhi).mono ?_
    rw [lenRes_trip, HG.out]
    rintro e w1 ⟨rfl, hb⟩
    go_wp2
    go_ret3
    exact ⟨rfl, hb⟩
  · have HG := Lib.hid hgot
    rw [Bool.true_and]
    clear hgot
    go_enter Tryd.func54, Tryd.ntmps54
    go_wp2_with fail
    refine (implGetLen_any hi _ l a _ _ p hg HC.out hn ha HL.out H.out hhi).mono ?_
    rw [lenRes_trip, HG.out]
    rintro e w1 ⟨rfl, hb⟩
    have HB1 := Lib.hid hb
    have hz1 := hb.size
    clear hb
    go_wp2_with fail
    refine (getText_any hi _ l _ _ _ hn (by omega) (by omega) (H.out.below HB1.out hhi)).mono ?_
    rintro e w2 ⟨he2, hb2⟩
    skip
    obtain ⟨s0, x0, b0, hf⟩ := trip_form (inR l (lenEnd l a 3) (lenVal l a 3)) (tPart l (lenEnd l a 3) (lenVal l a 3)) (lenEnd l a 3 + lenVal l a 3)
    have HF := Lib.hid hf
    rw [hf] at he2
    clear hf
    subst he2
    go_wp2
    go_ret3
    rw [HF.out]
    exact ⟨rfl, HB1.out.trans (hb2.mono hz1)⟩

set_option maxRecDepth 100000 in
theorem getNumVar_any (hi : Nat) (v : Value) (l : List Int) (a n : Int) (w : World) (p : Addr) (hg : 2 < w.heap.size) (hc : w.cell? ⟨2, 0, none⟩ = some (.iface 114 (.pointer (some p)))) (hn : l.length ≤ 1073741824) (ha : a ≤ 9223372036854775807) (hl : isBytes l) (h : rd .u8 hi w v l) (hhi : hi ≤ w.heap.size) :
    Calls Tryd.prog 45 #[v, .int .i64 a, .int .i64 n] w fun e w' => e = trip (lenGot l a 2 && gOk l (lenEnd l a 2) (lenVal l a 2)) (gTxt l (lenEnd l a 2) (lenVal l a 2)) (gEnd l (lenEnd l a 2) (lenVal l a 2)) ∧ Below w.heap.size w w' := by
  have HH := Lib.hid (getBehindBcd_any hi v l a w p hg hc hn ha hl h hhi)
  clear h hc hl
  go_enter Tryd.func45, Tryd.ntmps45
  go_wp2_with fail
  refine HH.out.mono ?_
  rintro e w1 ⟨he, hb⟩
  obtain ⟨s0, x0, b0, hf⟩ := trip_form (lenGot l a 2 && gOk l (lenEnd l a 2) (lenVal l a 2)) (gTxt l (lenEnd l a 2) (lenVal l a 2)) (gEnd l (lenEnd l a 2) (lenVal l a 2))
  have HF := Lib.hid hf
  rw [hf] at he
  clear hf
  subst he
  go_wp2
  go_ret3
  rw [HF.out]
  exact ⟨rfl, hb⟩

set_option maxRecDepth 100000 in
theorem getTextVar_any (hi : Nat) (v : Value) (l : List Int) (a n : Int) (w : World) (p : Addr) (hg : 2 < w.heap.size) (hc : w.cell? ⟨2, 0, none⟩ = some (.iface 114 (.pointer (some p)))) (hn : l.length ≤ 1073741824) (ha : a ≤ 9223372036854775807) (hl : isBytes l) (h : rd .u8 hi w v l) (hhi : hi ≤ w.heap.size) :
    Calls Tryd.prog 47 #[v, .int .i64 a, .int .i64 n] w fun e w' => e = trip (lenGot l a 2 && inR l (lenEnd l a 2) (lenVal l a 2)) (tPart l (lenEnd l a 2) (lenVal l a 2)) (lenEnd l a 2 + lenVal l a 2) ∧ Below w.heap.size w w' := by
  have HH := Lib.hid (getBehindText_any hi v l a w p hg hc hn ha hl h hhi)
  clear h hc hl
  go_enter Tryd.func47, Tryd.ntmps47
  go_wp2_with fail
  refine HH.out.mono ?_
  rintro e w1 ⟨he, hb⟩
  obtain ⟨s0, x0, b0, hf⟩ := trip_form (lenGot l a 2 && inR l (lenEnd l a 2) (lenVal l a 2)) (tPart l (lenEnd l a 2) (lenVal l a 2)) (lenEnd l a 2 + lenVal l a 2)
  have HF := Lib.hid hf
  rw [hf] at he
  clear hf
  subst he
  go_wp2
  go_ret3
  rw [HF.out]
  exact ⟨rfl, hb⟩

set_option maxRecDepth 100000 in
theorem getTextLong_any (hi : Nat) (v : Value) (l : List Int) (a n : Int) (w : World) (p : Addr) (hg : 2 < w.heap.size) (hc : w.cell? ⟨2, 0, none⟩ = some (.iface 114 (.pointer (some p)))) (hn : l.length ≤ 1073741824) (ha : a ≤ 9223372036854775807) (hl : isBytes l) (h : rd .u8 hi w v l) (hhi : hi ≤ w.heap.size) :
    Calls Tryd.prog 49 #[v, .int .i64 a, .int .i64 n] w fun e w' => e = trip (lenGot l a 3 && inR l (lenEnd l a 3) (lenVal l a 3)) (tPart l (lenEnd l a 3) (lenVal l a 3)) (lenEnd l a 3 + lenVal l a 3) ∧ Below w.heap.size w w' := by
  have HH := Lib.hid (getBehindLong_any hi v l a w p hg hc hn ha hl h hhi)
  clear h hc hl
  go_enter Tryd.func49, Tryd.ntmps49
  go_wp2_with fail
  refine HH.out.mono ?_
  rintro e w1 ⟨he, hb⟩
  obtain ⟨s0, x0, b0, hf⟩ := trip_form (lenGot l a 3 && inR l (lenEnd l a 3) (lenVal l a 3)) (tPart l (lenEnd l a 3) (lenVal l a 3)) (lenEnd l a 3 + lenVal l a 3)
  have HF := Lib.hid hf
  rw [hf] at he
  clear hf
  subst he
  go_wp2
  go_ret3
  rw [HF.out]
  exact ⟨rfl, hb⟩

/-- what the decoder of a kind finds, before it is asked whether it fits -/
def rawOk (kd : Int) (l : List Int) (a sz : Int) : Bool := if kd = 1 then gOk l a sz else if kd = 2 then inR l a sz else if kd = 3 then (lenGot l a 2 && gOk l (lenEnd l a 2) (lenVal l a 2)) else if kd = 4 then (lenGot l a 2 && inR l (lenEnd l a 2) (lenVal l a 2)) else (lenGot l a 3 && inR l (lenEnd l a 3) (lenVal l a 3))
def rawTxt (kd : Int) (l : List Int) (a sz : Int) : List UInt8 := if kd = 1 then gTxt l a sz else if kd = 2 then tPart l a sz else if kd = 3 then gTxt l (lenEnd l a 2) (lenVal l a 2) else if kd = 4 then tPart l (lenEnd l a 2) (lenVal l a 2) else tPart l (lenEnd l a 3) (lenVal l a 3)
def rawEnd (kd : Int) (l : List Int) (a sz : Int) : Int := if kd = 1 then gEnd l a sz else if kd = 2 then (a + sz) else if kd = 3 then gEnd l (lenEnd l a 2) (lenVal l a 2) else if kd = 4 then (lenEnd l a 2 + lenVal l a 2) else (lenEnd l a 3 + lenVal l a 3)
def getOk (kd : Int) (l : List Int) (a sz : Int) : Bool := rawOk kd l a sz && okBy kd sz ⟨(rawTxt kd l a sz).toArray⟩
/-- what GetField finds -/
def getRes (l : List Int) (a no : Int) : Ending := if fKind no = 0 then trip false [] 0 else trip (getOk (fKind no) l a (fSize no)) (rawTxt (fKind no) l a (fSize no)) (rawEnd (fKind no) l a (fSize no))
set_option maxRecDepth 100000 in
theorem rawTxt_le (kd : Int) (l : List Int) (a sz : Int) (hn : l.length ≤ 1073741824) : (rawTxt kd l a sz).length ≤ 1073741824 := by
  unfold rawTxt
  repeat' split
  all_goals first | exact Nat.le_trans (gTxt_len _ _ _) (by decide) | exact Nat.le_trans (tPart_le _ _ _) hn
end Go.Proofs.YtdjlhijaadombaaDoor
/- What was put is got back: digits, lengths, fields; wherever it lies. Plain facts on lists; no conditions. -/
set_option linter.unusedVariables false
set_option linter.unusedSimpArgs false
namespace Go.Proofs.YtdjlhijaadombaaDoor
open Go.ChangeShapes Go.WideShapes Go.ChangeAt Go.RowKit

set_option maxRecDepth 100000 in
theorem mid_part (P M Q : List Int) : ((P ++ M ++ Q).drop P.length).take M.length = M := by
  rw [List.append_assoc, List.drop_left, List.take_left]
set_option maxRecDepth 100000 in
theorem pairs_get (L : List Int) (n k : Nat) (h : k < n) : (pairs L n).getD k 0 = 16 * L.getD (2 * k) 0 + L.getD (2 * k + 1) 0 := by
  unfold pairs
  simp [h]
set_option maxRecDepth 100000 in
theorem half_pairs (L : List Int) (hL : halvesOk L) (n i : Nat) (h : i < 2 * n) : halfAt (pairs L n) i = L.getD i 0 := by
  rcases Nat.mod_two_eq_zero_or_one i with e | e
  · obtain ⟨k, rfl⟩ : ∃ k, i = 2 * k := ⟨i / 2, by omega⟩
    rw [half_even, pairs_get _ _ _ (by omega)]
    have h1 := hL (2 * k); have h2 := hL (2 * k + 1)
    omega
  · obtain ⟨k, rfl⟩ : ∃ k, i = 2 * k + 1 := ⟨i / 2, by omega⟩
    rw [half_odd, pairs_get _ _ _ (by omega)]
    have h1 := hL (2 * k); have h2 := hL (2 * k + 1)
    omega
set_option maxRecDepth 100000 in
theorem hv_getD {s : ByteArray} (hd : digs s = true) (i : Nat) (h : i < s.size) : (hv s).getD i 0 = (s[i].toNat : Int) - 48 ∧ 48 ≤ s[i].toNat ∧ s[i].toNat ≤ 57 := by
  have := digs_get hd i h
  exact ⟨by rw [hv_get s i h, hexv_dig this], this.1, this.2⟩
set_option maxRecDepth 100000 in
theorem hv_halves {s : ByteArray} (hd : digs s = true) : halvesOk (hv s) := by
  intro i
  by_cases h : i < s.size
  · have := hv_getD hd i h
    omega
  · rw [List.getD_eq_getElem?_getD, List.getElem?_eq_none (by rw [hv_len]; omega)]
    simp
set_option maxRecDepth 100000 in
/-- the digits of a text of even length -/
theorem dec_back {t : ByteArray} (hd : digs t = true) (he : t.size % 2 = 0) : decN (pairs (hv t) (t.size / 2)) (2 * (pairs (hv t) (t.size / 2)).length) = t.data.toList := by
  rw [pairs_len]
  unfold decN
  refine List.ext_getElem (by simp; omega) fun i h1 h2 => ?_
  have hi : i < t.size := by simpa using h2
  rw [List.getElem_map, List.getElem_range, half_pairs _ (hv_halves hd) _ _ (by omega)]
  have hg := hv_getD hd i hi
  rw [hg.1]
  have : t.data.toList[i] = t[i] := rfl
  rw [this]
  unfold byteOf
  rw [show (48 + ((t[i].toNat : Int) - 48)).toNat = t[i].toNat by omega]
  exact UInt8.ofNat_toNat
set_option maxRecDepth 100000 in
theorem small_back {t : ByteArray} (hd : digs t = true) (n : Nat) (hn : 2 * n ≤ t.size) : small (pairs (hv t) n) = true := by
  unfold small
  rw [pairs_len, List.all_eq_true]
  intro i hi
  have hi' : i < 2 * n := by simpa using hi
  rw [half_pairs _ (hv_halves hd) _ _ hi', (hv_getD hd i (by omega)).1]
  have := hv_getD hd i (by omega)
  simp
  omega
set_option maxRecDepth 100000 in
theorem pad_digs {s : ByteArray} (hd : digs s = true) : digs (padS s) = true := by
  unfold padS
  split
  · exact digs_pad hd
  · exact hd
set_option maxRecDepth 100000 in
theorem pad_sz (s : ByteArray) : (padS s).size = 2 * ((s.size + 1) / 2) := by
  unfold padS
  split
  · rw [pad_size]; omega
  · omega
set_option maxRecDepth 100000 in
theorem bcd_size {s : ByteArray} (h : bcdOk s = true) : (bcd s).length = (s.size + 1) / 2 := by
  rw [bcd_yes h, pairs_len, pad_sz]; omega
set_option maxRecDepth 100000 in
theorem bcdOk_iff (s : ByteArray) : bcdOk s = true ↔ digs s = true ∧ s.size ≤ 38 := by simp [bcdOk]
set_option maxRecDepth 100000 in
theorem bcd_bytes (s : ByteArray) : isBytes (bcd s) := by
  by_cases h : bcdOk s = true
  · have hh := hv_halves (pad_digs ((bcdOk_iff s).1 h).1)
    rw [bcd_yes h]
    intro z hz
    unfold pairs at hz
    obtain ⟨i, _, rfl⟩ := List.mem_map.1 hz
    have h1 := hh (2 * i)
    have h2 := hh (2 * i + 1)
    omega
  · unfold bcd
    rw [if_neg h]
    intro z hz
    cases hz
set_option maxRecDepth 100000 in
/-- digits are found again -/
theorem bcd_back {s : ByteArray} (h : bcdOk s = true) (P Q : List Int) :
    gOk (P ++ bcd s ++ Q) P.length s.size = true ∧ gTxt (P ++ bcd s ++ Q) P.length s.size = s.data.toList ∧ gEnd (P ++ bcd s ++ Q) P.length s.size = P.length + (bcd s).length := by
  obtain ⟨hd, h38⟩ := (bcdOk_iff s).1 h
  have hp := digs_pos hd
  have hlen := bcd_size h
  have hn : (((s.size : Int) + 1) / 2).toNat = (bcd s).length := by rw [hlen]; omega
  have hpart : gPart (P ++ bcd s ++ Q) P.length s.size = bcd s := by
    unfold gPart
    rw [hn, show ((P.length : Int)).toNat = P.length by omega, mid_part]
  have hin : gIn (P ++ bcd s ++ Q) P.length s.size = true := by
    unfold gIn
    simp only [Bool.and_eq_true, decide_eq_true_eq, List.length_append]
    refine ⟨⟨⟨by omega, by omega⟩, by omega⟩, by omega⟩
  have hpd := pad_digs hd
  have hps := pad_sz s
  have hsm : small (bcd s) = true := by rw [bcd_yes h]; exact small_back hpd _ (by omega)
  have hdec : decN (bcd s) (2 * (bcd s).length) = (padS s).data.toList := by rw [bcd_yes h]; exact dec_back hpd (by omega)
  have hok : gOk (P ++ bcd s ++ Q) P.length s.size = true := by
    unfold gOk
    rw [hin, hpart, hsm]
    simp only [Bool.true_and, Bool.or_eq_true, decide_eq_true_eq]
    rcases Nat.mod_two_eq_zero_or_one s.size with e | e
    · left; omega
    · right
      have hb := bcd_yes h
      rw [hb, half_pairs _ (hv_halves hpd) _ _ (by omega), (hv_getD hpd 0 (by omega)).1]
      have : padS s = ⟨#[48]⟩ ++ s := by unfold padS; rw [if_pos e]
      have h0 : (padS s).data.toList = 48 :: s.data.toList := by rw [this]; simp
      have h1 : (padS s)[0]'(by omega) = 48 := by
        show (padS s).data.toList[0]'(by simp; omega) = 48
        simp only [h0, List.getElem_cons_zero]
      rw [h1]
      decide
  refine ⟨hok, ?_, ?_⟩
  · unfold gTxt
    rw [if_pos hok, hpart, hdec]
    rcases Nat.mod_two_eq_zero_or_one s.size with e | e
    · rw [if_neg (by omega)]; unfold padS; rw [if_neg (by omega)]
    · rw [if_pos (by omega)]; unfold padS; rw [if_pos e]; simp
  · unfold gEnd
    rw [if_pos hok, hlen]
    omega
set_option maxRecDepth 100000 in
theorem wide_61 : ∀ n, n < 61 → (digs ⟨(wideOf (n : Nat) 2).toArray⟩ = true ∧ (wideOf (n : Nat) 2).length = 2 ∧ narVal ⟨(wideOf (n : Nat) 2).toArray⟩ = n) ∧ (digs ⟨(wideOf (n : Nat) 3).toArray⟩ = true ∧ (wideOf (n : Nat) 3).length = 3 ∧ narVal ⟨(wideOf (n : Nat) 3).toArray⟩ = n) := by decide +kernel
set_option maxRecDepth 100000 in
theorem wide_both {n : Nat} (hn : n ≤ 60) {d : Int} (hd : d = 2 ∨ d = 3) : digs ⟨(wideOf (n : Nat) d).toArray⟩ = true ∧ ((wideOf (n : Nat) d).length : Int) = d ∧ narVal ⟨(wideOf (n : Nat) d).toArray⟩ = n := by
  obtain ⟨h2, h3⟩ := wide_61 n (by omega)
  rcases hd with rfl | rfl
  · exact ⟨h2.1, by omega, h2.2.2⟩
  · exact ⟨h3.1, by omega, h3.2.2⟩
set_option maxRecDepth 100000 in
/-- a length is found again -/
theorem len_back {n : Nat} (hn : n ≤ 60) {d : Int} (hd : d = 2 ∨ d = 3) (P Q : List Int) :
    lenGot (P ++ putLen n d ++ Q) P.length d = true ∧ lenVal (P ++ putLen n d ++ Q) P.length d = n ∧ lenEnd (P ++ putLen n d ++ Q) P.length d = P.length + (putLen n d).length := by
  have hl : lenDig d = true := by rcases hd with rfl | rfl <;> rfl
  obtain ⟨h1, h2, h3⟩ := wide_both hn hd
  have hs : ((⟨(wideOf (n : Nat) d).toArray⟩ : ByteArray).size : Int) = d := h2
  have hok : bcdOk ⟨(wideOf (n : Nat) d).toArray⟩ = true := (bcdOk_iff _).2 ⟨h1, by omega⟩
  obtain ⟨b1, b2, b3⟩ := bcd_back hok P Q
  rw [hs] at b1 b2 b3
  have hp : putLen n d = bcd ⟨(wideOf (n : Nat) d).toArray⟩ := by unfold putLen; rw [if_pos hl]
  rw [hp]
  refine ⟨by unfold lenGot; rw [hl, b1]; rfl, ?_, by unfold lenEnd; rw [if_pos hl, b3]⟩
  unfold lenVal
  rw [if_pos hl, b2]
  exact h3
set_option maxRecDepth 100000 in
theorem part_back (s : ByteArray) (P Q : List Int) : inR (P ++ bytesL s ++ Q) P.length s.size = true ∧ tPart (P ++ bytesL s ++ Q) P.length s.size = s.data.toList := by
  have hl := bytesL_len s
  constructor
  · unfold inR
    simp only [Bool.and_eq_true, decide_eq_true_eq, List.length_append, hl]
    refine ⟨⟨by omega, by omega⟩, by omega⟩
  · unfold tPart
    rw [show ((P.length : Int)).toNat = P.length by omega, show ((s.size : Int)).toNat = (bytesL s).length by rw [hl]; omega, mid_part, byteOf_back]
set_option maxRecDepth 100000 in
theorem raw3 (l : List Int) (a sz : Int) : rawOk 3 l a sz = (lenGot l a 2 && gOk l (lenEnd l a 2) (lenVal l a 2)) ∧ rawTxt 3 l a sz = gTxt l (lenEnd l a 2) (lenVal l a 2) ∧ rawEnd 3 l a sz = gEnd l (lenEnd l a 2) (lenVal l a 2) := ⟨rfl, rfl, rfl⟩
set_option maxRecDepth 100000 in
theorem raw4 (l : List Int) (a sz : Int) : rawOk 4 l a sz = (lenGot l a 2 && inR l (lenEnd l a 2) (lenVal l a 2)) ∧ rawTxt 4 l a sz = tPart l (lenEnd l a 2) (lenVal l a 2) ∧ rawEnd 4 l a sz = lenEnd l a 2 + lenVal l a 2 := ⟨rfl, rfl, rfl⟩
set_option maxRecDepth 100000 in
theorem raw5 (l : List Int) (a sz : Int) : rawOk 5 l a sz = (lenGot l a 3 && inR l (lenEnd l a 3) (lenVal l a 3)) ∧ rawTxt 5 l a sz = tPart l (lenEnd l a 3) (lenVal l a 3) ∧ rawEnd 5 l a sz = lenEnd l a 3 + lenVal l a 3 := ⟨rfl, rfl, rfl⟩
set_option maxRecDepth 100000 in
theorem back_str (s : ByteArray) : (⟨s.data.toList.toArray⟩ : ByteArray) = s := by simp
set_option maxRecDepth 100000 in
/-- a field is found again, wherever it lies -/
theorem field_back {no : Int} {s : ByteArray} (h : fOk no s = true) (P Q : List Int) :
    getRes (P ++ putFL no s ++ Q) P.length no = .returned (.tuple #[.string s, .int .i64 (P.length + (putFL no s).length), .bool true]) := by
  have hk : fKind no ≠ 0 := fun e => by rw [fOk_no e] at h; cases h
  have h60 := fOk_60 h
  have hokb : okBy (fKind no) (fSize no) s = true := h
  have hput : putFL no s = putBody (fKind no) s := by unfold putFL; rw [if_pos h]
  unfold getRes
  rw [if_neg hk, hput]
  have key : rawOk (fKind no) (P ++ putBody (fKind no) s ++ Q) P.length (fSize no) = true ∧ rawTxt (fKind no) (P ++ putBody (fKind no) s ++ Q) P.length (fSize no) = s.data.toList ∧ rawEnd (fKind no) (P ++ putBody (fKind no) s ++ Q) P.length (fSize no) = P.length + (putBody (fKind no) s).length := by
    have hsz := fOk_size h
    have hkc := kind_cases no
    generalize fKind no = kd at *
    generalize fSize no = sz at *
    rcases hkc with rfl | rfl | rfl | rfl | rfl | rfl
    · exact absurd rfl hk
    · simp [okBy] at hokb
      have hb : bcdOk s = true := (bcdOk_iff s).2 ⟨hokb.2, by omega⟩
      obtain ⟨b1, b2, b3⟩ := bcd_back hb P Q
      rw [hokb.1] at b1 b2 b3
      refine ⟨?_, ?_, ?_⟩
      · simp [rawOk, putBody, ← List.append_assoc, b1]
      · simp [rawTxt, putBody, ← List.append_assoc, b2]
      · simp [rawEnd, putBody, ← List.append_assoc, b3]
    · simp [okBy] at hokb
      obtain ⟨b1, b2⟩ := part_back s P Q
      have hl := bytesL_len s
      rw [hokb.1] at b1 b2
      refine ⟨?_, ?_, ?_⟩
      · simp [rawOk, putBody, ← List.append_assoc, b1]
      · simp [rawTxt, putBody, ← List.append_assoc, b2]
      · simp only [rawEnd, putBody]; simp [hl]; omega
    · simp [okBy] at hokb
      have hb : bcdOk s = true := (bcdOk_iff s).2 ⟨hokb.2, by omega⟩
      obtain ⟨l1, l2, l3⟩ := len_back (n := s.size) (by omega) (.inl rfl : (2 : Int) = 2 ∨ (2 : Int) = 3) P (bcd s ++ Q)
      obtain ⟨b1, b2, b3⟩ := bcd_back hb (P ++ putLen s.size 2) Q
      have e : P ++ putBody 3 s ++ Q = P ++ putLen s.size 2 ++ (bcd s ++ Q) := by simp [putBody]
      have e' : P ++ putLen s.size 2 ++ (bcd s ++ Q) = P ++ putLen s.size 2 ++ bcd s ++ Q := by simp
      have hc : ((P ++ putLen s.size 2).length : Int) = P.length + (putLen s.size 2).length := by simp
      rw [hc] at b1 b2 b3
      rw [e]
      refine ⟨?_, ?_, ?_⟩
      · rw [(raw3 _ _ _).1, l1, l2, l3, e', b1]; rfl
      · rw [(raw3 _ _ _).2.1, l2, l3, e', b2]
      · rw [(raw3 _ _ _).2.2, l2, l3, e', b3]; simp [putBody]; omega
    · simp [okBy] at hokb
      obtain ⟨l1, l2, l3⟩ := len_back (n := s.size) (by omega) (.inl rfl : (2 : Int) = 2 ∨ (2 : Int) = 3) P (bytesL s ++ Q)
      obtain ⟨b1, b2⟩ := part_back s (P ++ putLen s.size 2) Q
      have hl := bytesL_len s
      have e : P ++ putBody 4 s ++ Q = P ++ putLen s.size 2 ++ (bytesL s ++ Q) := by simp [putBody]
      have e' : P ++ putLen s.size 2 ++ (bytesL s ++ Q) = P ++ putLen s.size 2 ++ bytesL s ++ Q := by simp
      have hc : ((P ++ putLen s.size 2).length : Int) = P.length + (putLen s.size 2).length := by simp
      rw [hc] at b1 b2
      rw [e]
      refine ⟨?_, ?_, ?_⟩
      · rw [(raw4 _ _ _).1, l1, l2, l3, e', b1]; rfl
      · rw [(raw4 _ _ _).2.1, l2, l3, e', b2]
      · rw [(raw4 _ _ _).2.2, l2, l3]; simp [putBody, hl]; omega
    · simp [okBy] at hokb
      obtain ⟨l1, l2, l3⟩ := len_back (n := s.size) (by omega) (.inr rfl : (3 : Int) = 2 ∨ (3 : Int) = 3) P (bytesL s ++ Q)
      obtain ⟨b1, b2⟩ := part_back s (P ++ putLen s.size 3) Q
      have hl := bytesL_len s
      have e : P ++ putBody 5 s ++ Q = P ++ putLen s.size 3 ++ (bytesL s ++ Q) := by simp [putBody]
      have e' : P ++ putLen s.size 3 ++ (bytesL s ++ Q) = P ++ putLen s.size 3 ++ bytesL s ++ Q := by simp
      have hc : ((P ++ putLen s.size 3).length : Int) = P.length + (putLen s.size 3).length := by simp
      rw [hc] at b1 b2
      rw [e]
      refine ⟨?_, ?_, ?_⟩
      · rw [(raw5 _ _ _).1, l1, l2, l3, e', b1]; rfl
      · rw [(raw5 _ _ _).2.1, l2, l3, e', b2]
      · rw [(raw5 _ _ _).2.2, l2, l3]; simp [putBody, hl]; omega
  obtain ⟨k1, k2, k3⟩ := key
  have hg : getOk (fKind no) (P ++ putBody (fKind no) s ++ Q) P.length (fSize no) = true := by
    unfold getOk
    rw [k1, k2, back_str, hokb]
    rfl
  rw [trip_on hg, k2, k3, back_str]
end Go.Proofs.YtdjlhijaadombaaDoor
/- Small facts on fields for the laws that put and get one; no conditions. -/
set_option linter.unusedVariables false
namespace Go.Proofs.YtdjlhijaadombaaDoor
open Go.ChangeShapes Go.WideShapes Go.ChangeAt Go.RowKit

set_option maxRecDepth 100000 in
theorem ow_single (w : World) (c : Int) (T : TypeId) : ow T .u8 w.heap.size (w.alloc (.cells #[.int .u8 c] T)) (.slice (some ⟨w.heap.size, 0, none⟩) 1 1) [c] := by
  refine ⟨rfl, Or.inr ⟨w.heap.size, 1, #[.int .u8 c], rfl, Nat.le_refl _, ?_, Nat.le_refl _, by decide, rfl, rfl⟩⟩
  show (w.heap.push _)[w.heap.size]? = _
  simp
set_option maxRecDepth 100000 in
theorem ow.rdOne {T : TypeId} {K : IntKind} {B : Nat} {w : World} {o : Obj} {v : Value} {L : List Int} (h : ow T K B (w.alloc o) v L) : rd K (w.heap.size + 1) (w.alloc o) v L := by
  have := h.nums.rd
  simpa using this
set_option maxRecDepth 100000 in
theorem cell_lt {w : World} {b o : Nat} {v : Value} (h : w.cell? ⟨b, o, none⟩ = some v) : b < w.heap.size := by
  rcases Nat.lt_or_ge b w.heap.size with h' | h'
  · exact h'
  · simp [World.cell?, Array.getElem?_eq_none h'] at h
set_option maxRecDepth 100000 in
theorem putLen_bytes {n : Nat} (hn : n ≤ 60) {d : Int} (hd : d = 2 ∨ d = 3) : isBytes (putLen n d) ∧ (putLen n d).length ≤ 2 := by
  have hl : lenDig d = true := by rcases hd with rfl | rfl <;> rfl
  obtain ⟨h1, h2, h3⟩ := wide_both hn hd
  have hs : ((⟨(wideOf (n : Nat) d).toArray⟩ : ByteArray).size : Int) = d := h2
  have hok : bcdOk ⟨(wideOf (n : Nat) d).toArray⟩ = true := (bcdOk_iff _).2 ⟨h1, by omega⟩
  unfold putLen
  rw [if_pos hl]
  exact ⟨bcd_bytes _, by rw [bcd_size hok]; omega⟩
set_option maxRecDepth 100000 in
theorem putFL_bytes {no : Int} {s : ByteArray} (h : fOk no s = true) : isBytes (putFL no s) := by
  have h60 := fOk_60 h
  have h1 := bcd_bytes s
  have h2 := bytesL_ok s
  have h3 := (putLen_bytes h60 (.inl rfl : (2 : Int) = 2 ∨ (2 : Int) = 3)).1
  have h4 := (putLen_bytes h60 (.inr rfl : (3 : Int) = 2 ∨ (3 : Int) = 3)).1
  unfold putFL putBody
  rw [if_pos h]
  repeat' split
  all_goals intro z hz
  all_goals try simp only [List.mem_append] at hz
  · exact h1 z hz
  · exact h2 z hz
  · exact hz.elim (h3 z) (h1 z)
  · exact hz.elim (h3 z) (h2 z)
  · exact hz.elim (h4 z) (h2 z)
set_option maxRecDepth 100000 in
theorem fit_back {no : Int} {s : ByteArray} (h : fOk no s = true) : fitRes no s = s := by
  have hb : okBy (fKind no) (fSize no) s = true := h
  have e : fitS (fKind no) (fSize no).toNat s = s := by
    unfold fitS
    split
    · next hk => rw [hk] at hb; simp [okBy] at hb; rw [show (fSize no).toNat - s.size = 0 by omega]; rfl
    · split
      · next hk => rw [hk] at hb; simp [okBy] at hb; rw [show (fSize no).toNat - s.size = 0 by omega, padR_zero]
      · rfl
  unfold fitRes
  rw [e, if_pos h]
end Go.Proofs.YtdjlhijaadombaaDoor
/- What the law package's helpers do with slices of ints; no conditions. -/
set_option linter.unusedVariables false
namespace Go.Proofs.YtdjlhijaadombaaDoor
open Go.ChangeShapes Go.WideShapes Go.ChangeAt Go.RowKit

set_option maxRecDepth 100000 in
theorem infoI64 : (Tryd.prog.info? 3).map (fun i => (i.zero, i.size, i.bytes)) = some (some (.int .i64 0), 1, 8) := by kernel_rfl
end Go.Proofs.YtdjlhijaadombaaDoor
/- Bitmaps of eight bytes: PutBits and GetBits of both; no conditions. -/
set_option linter.unusedVariables false
namespace Go.Proofs.YtdjlhijaadombaaDoor
open Go.ChangeShapes Go.WideShapes Go.ChangeAt Go.RowKit

/-- the weight of bit k in its byte -/
def wt (k : Int) : Int := 128 / 2 ^ ((k - 1) % 8).toNat
def setB (b : List Int) (k : Int) : List Int := if 1 ≤ k ∧ k ≤ 64 then b.set ((k - 1) / 8).toNat (bits BinOp.or IntKind.u8 (b.getD ((k - 1) / 8).toNat 0) (wt k)) else b
def putB (l : List Int) : List Int := l.foldl setB (List.replicate 8 0)
set_option maxRecDepth 100000 in
theorem setB_len (b : List Int) (k : Int) : (setB b k).length = b.length := by unfold setB; split <;> simp
set_option maxRecDepth 100000 in
theorem fold_len (l b : List Int) : (l.foldl setB b).length = b.length := by
  induction l generalizing b with
  | nil => rfl
  | cons x l ih => rw [List.foldl_cons, ih, setB_len]
set_option maxRecDepth 100000 in
theorem putB_len (l : List Int) : (putB l).length = 8 := by unfold putB; rw [fold_len]; rfl
set_option maxRecDepth 100000 in
theorem take_foldl (l : List Int) (k : Nat) (h : k < l.length) : putB (l.take (k + 1)) = setB (putB (l.take k)) (l.getD k 0) := by
  unfold putB
  rw [List.take_succ_eq_append_getElem h, List.foldl_append, List.getD_eq_getElem?_getD, List.getElem?_eq_getElem h]
  rfl

set_option maxRecDepth 100000 in
theorem in_any (k a b : Int) (w : World) :
    Calls Tryd.prog 16 #[.int .i64 k, .int .i64 a, .int .i64 b] w fun e w' => e = .returned (.bool (decide (a ≤ k) && decide (k ≤ b))) ∧ w = w' := by
  by_cases h : a ≤ k
  · go_enter Tryd.func16, Tryd.ntmps16
    go_wp2
    go_ret
    exact ⟨ret_bool (by simp [h]), rfl⟩
  · have hd : decide (a ≤ k) = false := decide_eq_false h
    go_enter Tryd.func16, Tryd.ntmps16
    go_wp2
    go_ret
    exact ⟨ret_bool (by simp), rfl⟩

/-- the row of the bitmap -/
def bmap (b : Nat) (w : World) (l : List Int) : Prop := w.rowIs b 5 8 (fun j => .int .u8 (l.getD j 0))
set_option maxRecDepth 100000 in
theorem bmap.start (w : World) : bmap w.heap.size (w.alloc (.cells (madeCells #[.int .u8 0] 8) 5)) (putB []) := (World.rowIs_made w (.int .u8 0) 8 5).congr fun j hj => by
  have : j = 0 ∨ j = 1 ∨ j = 2 ∨ j = 3 ∨ j = 4 ∨ j = 5 ∨ j = 6 ∨ j = 7 := by omega
  rcases this with rfl | rfl | rfl | rfl | rfl | rfl | rfl | rfl <;> rfl
set_option maxRecDepth 100000 in
theorem bmap.set {b : Nat} {w : World} {l : List Int} {k y : Int} {i : Nat} (h : bmap b w l) (h1 : 1 ≤ k) (h2 : k ≤ 64) (hl : l.length = 8) (hi : (k - 1) / 8 = (i : Int)) (hy : y = bits BinOp.or IntKind.u8 (l.getD i 0) (wt k)) : bmap b (w.setCell ⟨b, i, none⟩ (.int .u8 y)) (setB l k) := by
  have hs : setB l k = l.set i (bits BinOp.or IntKind.u8 (l.getD i 0) (wt k)) := by unfold setB; rw [if_pos ⟨h1, h2⟩, hi, Int.toNat_natCast]
  rw [hs]
  refine (World.rowIs.set h i _).congr fun j hj => ?_
  by_cases e : j = i
  · subst e
    rw [if_pos rfl, List.getD_eq_getElem?_getD, List.getElem?_set_self (by omega), hy]
    rfl
  · rw [if_neg e]
    congr 1
    rw [List.getD_eq_getElem?_getD, List.getD_eq_getElem?_getD, List.getElem?_set_ne (Ne.symm e)]
set_option maxRecDepth 100000 in
theorem bmap.done {b lo : Nat} {w : World} {l : List Int} (h : bmap b w l) (hl : l.length = 8) (hlo : lo ≤ b) : nums .u8 lo w.heap.size w (.slice (some ⟨b, 0, none⟩) 8 8) l :=
  ⟨some ⟨b, 0, none⟩, 8, by rw [hl], by omega, fun j hj => ⟨b, 0, rfl, hlo, World.rowIs.lt h, by rw [Nat.zero_add]; exact World.rowIs.cell h (by omega), World.rowIs.frozen h _⟩⟩
set_option maxRecDepth 100000 in
theorem makeEight (w : World) : (Instr.makeSlice 46 (.int .i64 8) (.int .i64 8)).run Tryd.prog w = .ok (.slice (some ⟨w.heap.size, 0, none⟩) 8 8) (w.alloc (.cells (madeCells #[.int .u8 0] 8) 5)) :=
  run_make_row' (P := Tryd.prog) 46 5 (.int .u8 0) 1 Tryd.underlying46 infoU8 rfl .i64 .i64 8 (by omega) (by omega) w
def resN (L : List Int) (w : World) (e : Ending) (w' : World) : Prop := ∃ v, e = .returned v ∧ nums .u8 w.heap.size w'.heap.size w' v L ∧ Below w.heap.size w w'

set_option maxRecDepth 100000 in
theorem bmap.owned {b lo : Nat} {w : World} {l : List Int} (h : bmap b w l) (hl : l.length = 8) (hlo : lo ≤ b) : ow 5 .u8 lo w (.slice (some ⟨b, 0, none⟩) 8 8) l := by
  obtain ⟨c, hb, hc, hi⟩ := h
  refine ⟨by rw [List.length_map, Nat.mul_one], Or.inr ⟨b, 8, c, by rw [hl], hlo, hb, by omega, by decide, by omega, ?_⟩⟩
  rw [Nat.mul_one, hl]
  apply List.ext_getElem?
  intro j
  by_cases hj : j < 8
  · have hg : l[j]? = some l[j] := List.getElem?_eq_getElem (by omega)
    have hd : l.getD j 0 = l[j] := by rw [List.getD_eq_getElem?_getD, hg]; rfl
    rw [List.getElem?_take_of_lt hj, Array.getElem?_toList, hi j hj, List.getElem?_map, hg]
    show some (Value.int IntKind.u8 (l.getD j 0)) = _
    rw [hd]; rfl
  · rw [List.getElem?_eq_none (by rw [List.length_take]; omega), List.getElem?_eq_none (by rw [List.length_map]; omega)]
/-- as resN; the bytes lie in a row of the call's own -/
def resNo (L : List Int) (w : World) (e : Ending) (w' : World) : Prop := ∃ v, e = .returned v ∧ ow 5 .u8 w.heap.size w' v L ∧ Below w.heap.size w w'

/-- is bit k (from 1 on) of these bytes set? -/
def bitAt (p : List Int) (i : Nat) : Bool := decide (p.getD (i / 8) 0 / 2 ^ (7 - i % 8) % 2 = 1)
def getB (p : List Int) (n : Nat) : List Int := ((List.range n).filter (bitAt p)).map fun (i : Nat) => (i : Int) + 1
set_option maxRecDepth 100000 in
theorem getB_step (p : List Int) (n : Nat) : getB p (n + 1) = getB p n ++ (if bitAt p n = true then [(n : Int) + 1] else []) := by
  unfold getB
  rw [List.range_succ, List.filter_append, List.map_append]
  congr 1
  cases h : bitAt p n <;> simp [h]
set_option maxRecDepth 100000 in
theorem getB_len (p : List Int) (n : Nat) : (getB p n).length ≤ n := by
  unfold getB
  rw [List.length_map]
  exact Nat.le_trans (List.length_filter_le _ _) (by simp)
set_option maxRecDepth 100000 in
theorem bit_and : ∀ x < 256, ∀ j < 8, (bits BinOp.and IntKind.u8 ((x : Nat) : Int) (128 / 2 ^ (((j : Nat) : Int)).toNat) != 0) = decide (((x : Nat) : Int) / 2 ^ (7 - j) % 2 = 1) := by decide +kernel
set_option maxRecDepth 100000 in
theorem bit_wt {x : Int} (i : Nat) (h0 : 0 ≤ x) (h1 : x ≤ 255) : (bits BinOp.and IntKind.u8 x (wt ((i : Int) + 1)) != 0) = decide (x / 2 ^ (7 - i % 8) % 2 = 1) := by
  have := bit_and x.toNat (by omega) (i % 8) (by omega)
  rw [Int.toNat_of_nonneg h0] at this
  rw [← this]
  unfold wt
  have e : (((i : Int) + 1 - 1) % 8) = ((i % 8 : Nat) : Int) := by omega
  rw [e]
def bIn (l : List Int) (a : Int) : Bool := decide (0 ≤ a) && decide (a + 8 ≤ l.length)
def bPart (l : List Int) (a : Int) : List Int := (l.drop a.toNat).take 8
def bGet (l : List Int) (a : Int) : List Int := if bIn l a = true then getB (bPart l a) 64 else []
def bEnd (l : List Int) (a : Int) : Int := if bIn l a = true then a + 8 else 0
/-- what GetBits comes to -/
def resG (l : List Int) (a : Int) (w : World) (e : Ending) (w' : World) : Prop := ∃ v, e = .returned (.tuple #[v, .int .i64 (bEnd l a), .bool (bIn l a)]) ∧ nums .i64 w.heap.size w'.heap.size w' v (bGet l a) ∧ Below w.heap.size w w'
set_option maxRecDepth 100000 in
theorem resG_no {l : List Int} {a : Int} {w w' : World} (h : bIn l a = false) (hb : Below w.heap.size w w') : resG l a w (.returned (.tuple #[.slice none 0 0, .int .i64 0, .bool false])) w' := by
  refine ⟨.slice none 0 0, ?_, ?_, hb⟩
  · simp [bEnd, h]
  · have : bGet l a = [] := by simp [bGet, h]
    rw [this]
    exact nums_none _ _ _ _
set_option maxRecDepth 100000 in
theorem resG_yes {l : List Int} {a : Int} {w w' : World} {v : Value} (h : bIn l a = true) (hn : nums .i64 w.heap.size w'.heap.size w' v (getB (bPart l a) 64)) (hb : Below w.heap.size w w') : resG l a w (.returned (.tuple #[v, .int .i64 (a + 8), .bool true])) w' := by
  refine ⟨v, ?_, ?_, hb⟩
  · simp [bEnd, h]
  · have : bGet l a = getB (bPart l a) 64 := by simp [bGet, h]
    rw [this]
    exact hn
set_option maxRecDepth 100000 in
theorem bGet_len (l : List Int) (a : Int) : (bGet l a).length ≤ 64 := by
  unfold bGet; split
  · exact getB_len _ _
  · simp
set_option maxRecDepth 100000 in
theorem bIn_no {l : List Int} {a : Int} (h : a < 0 ∨ (l.length : Int) - 8 < a) : bIn l a = false := by
  cases hg : bIn l a
  · rfl
  · simp only [bIn, Bool.and_eq_true, decide_eq_true_eq] at hg; omega
set_option maxRecDepth 100000 in
theorem bPart_get {l : List Int} {b0 : Nat} (j : Nat) (hj : j < 8) : (bPart l (b0 : Int)).getD j 0 = l.getD (b0 + j) 0 := by
  unfold bPart
  rw [List.getD_eq_getElem?_getD, List.getD_eq_getElem?_getD, List.getElem?_take_of_lt hj, List.getElem?_drop]
  rfl

/-- as resG; the numbers lie in a row of the call's own -/
def resGo (l : List Int) (a : Int) (w : World) (e : Ending) (w' : World) : Prop := ∃ v, e = .returned (.tuple #[v, .int .i64 (bEnd l a), .bool (bIn l a)]) ∧ ow 3 .i64 w.heap.size w' v (bGet l a) ∧ Below w.heap.size w w'
set_option maxRecDepth 100000 in
theorem resGo_no {l : List Int} {a : Int} {w w' : World} (h : bIn l a = false) (hb : Below w.heap.size w w') : resGo l a w (.returned (.tuple #[.slice none 0 0, .int .i64 0, .bool false])) w' := by
  refine ⟨.slice none 0 0, ?_, ?_, hb⟩
  · simp [bEnd, h]
  · have : bGet l a = [] := by simp [bGet, h]
    rw [this]
    exact ow_none _ _ _ _
set_option maxRecDepth 100000 in
theorem resGo_yes {l : List Int} {a : Int} {w w' : World} {v : Value} (h : bIn l a = true) (hn : w'.ownsRow w.heap.size 3 1 v (getB (bPart l a) 64).length ((getB (bPart l a) 64).map (Value.int .i64))) (hb : Below w.heap.size w w') : resGo l a w (.returned (.tuple #[v, .int .i64 (a + 8), .bool true])) w' := by
  refine ⟨v, ?_, ?_, hb⟩
  · simp [bEnd, h]
  · have : bGet l a = getB (bPart l a) 64 := by simp [bGet, h]
    rw [this]
    exact hn
end Go.Proofs.YtdjlhijaadombaaDoor
/- Encode of the reference; no conditions. -/
set_option linter.unusedVariables false
namespace Go.Proofs.YtdjlhijaadombaaDoor
open Go.ChangeShapes Go.WideShapes Go.ChangeAt Go.RowKit

set_option maxRecDepth 100000 in
theorem infoInt : (Tryd.prog.info? 3).map (fun i => (i.zero.map (·.cells), i.size, i.bytes)) = some (some #[.int .i64 0], 1, 8) := by kernel_rfl
set_option maxRecDepth 100000 in
theorem fOk_range {no : Int} {s : ByteArray} (h : fOk no s = true) : 2 ≤ no ∧ no ≤ 103 := by
  have hk : fKind no ≠ 0 := fun e => by rw [fOk_no e] at h; cases h
  unfold fKind at hk
  repeat' (split at hk <;> try omega)
def lows (l : List FieldD) : List Int := (l.filter fun x => decide (x.1 ≤ 64)).map (·.1)
def highs (l : List FieldD) : List Int := (l.filter fun x => decide (64 < x.1)).map (·.1 - 64)
set_option maxRecDepth 100000 in
theorem take_snocF {l : List FieldD} {i : Nat} {x : FieldD} (h : l[i]? = some x) : l.take (i + 1) = l.take i ++ [x] := by
  obtain ⟨hi, rfl⟩ := List.getElem?_eq_some_iff.1 h
  rw [List.take_succ_eq_append_getElem hi]
set_option maxRecDepth 100000 in
theorem lows_snoc (l : List FieldD) (x : FieldD) : lows (l ++ [x]) = if x.1 ≤ 64 then lows l ++ [x.1] else lows l := by
  unfold lows
  rw [List.filter_append, List.map_append]
  by_cases h : x.1 ≤ 64 <;> simp [h]
set_option maxRecDepth 100000 in
theorem highs_snoc (l : List FieldD) (x : FieldD) : highs (l ++ [x]) = if 64 < x.1 then highs l ++ [x.1 - 64] else highs l := by
  unfold highs
  rw [List.filter_append, List.map_append]
  by_cases h : 64 < x.1 <;> simp [h]
set_option maxRecDepth 100000 in
theorem lows_len (l : List FieldD) : (lows l).length ≤ l.length := by unfold lows; rw [List.length_map]; exact List.length_filter_le _ _
set_option maxRecDepth 100000 in
theorem highs_len (l : List FieldD) : (highs l).length ≤ l.length := by unfold highs; rw [List.length_map]; exact List.length_filter_le _ _
/-- the bits of a message -/
def bitsL (l : List FieldD) : List Int := if highs l = [] then putB (lows l) else putB (lows l ++ [1]) ++ putB (highs l)
/-- the fields of a message -/
def bodyL (l : List FieldD) : List Int := l.flatMap fun x => putFL x.1 x.2
def encL (m : MsgD) : List Int := if msgOk m = true then bcd m.1 ++ bitsL m.2 ++ bodyL m.2 else []
set_option maxRecDepth 100000 in
theorem bodyL_snoc (l : List FieldD) (x : FieldD) : bodyL (l ++ [x]) = bodyL l ++ putFL x.1 x.2 := by unfold bodyL; rw [List.flatMap_append]; simp
set_option maxRecDepth 100000 in
theorem bodyL_len (l : List FieldD) (h : ∀ x ∈ l, x.2.size ≤ 60) : (bodyL l).length ≤ 1048700 * l.length := by
  induction l with
  | nil => simp [bodyL]
  | cons x l ih =>
    have h1 := ih fun y hy => h y (List.mem_cons_of_mem _ hy)
    have h2 := putFL_len x.1 x.2 (by have := h x (List.mem_cons_self ..); omega)
    unfold bodyL at h1 ⊢
    rw [List.flatMap_cons, List.length_append, List.length_cons]
    omega
set_option maxRecDepth 100000 in
theorem putB_len8 (l : List Int) : (putB l).length = 8 := by unfold putB; rw [fold_len]; simp
set_option maxRecDepth 100000 in
theorem apart_new {v v' : Value} {u : Value} {n : Nat} (h : v'.ownBlock = v.ownBlock ∨ v'.ownBlock = some n) (ha : ∀ g, u.ownBlock = some g → v.ownBlock ≠ some g) (hn : ∀ g, u.ownBlock = some g → g < n) : ∀ g, u.ownBlock = some g → v'.ownBlock ≠ some g := by
  intro g hg e
  rcases h with h | h
  · exact ha g hg (h ▸ e)
  · have hng : n = g := by rw [h] at e; exact Option.some.inj e
    have := hn g hg
    omega
set_option maxRecDepth 100000 in
theorem apart_comm {v u : Value} (h : ∀ g, u.ownBlock = some g → v.ownBlock ≠ some g) : ∀ g, v.ownBlock = some g → u.ownBlock ≠ some g := fun g hg e => h g e hg

end Go.Proofs.YtdjlhijaadombaaDoor
/- The numbers of a message's fields as the reference reads them; no conditions. -/
set_option linter.unusedVariables false
namespace Go.Proofs.YtdjlhijaadombaaDoor
open Go.ChangeShapes Go.WideShapes Go.ChangeAt Go.RowKit

set_option maxRecDepth 100000 in
theorem getB_bd (p : List Int) (n : Nat) : ∀ z ∈ getB p n, 1 ≤ z ∧ z ≤ n := by
  intro z hz
  unfold getB at hz
  obtain ⟨i, hi, rfl⟩ := List.mem_map.1 hz
  have := (List.mem_filter.1 hi).1
  simp at this
  omega
set_option maxRecDepth 100000 in
theorem bGet_bd (l : List Int) (a : Int) : ∀ z ∈ bGet l a, 1 ≤ z ∧ z ≤ 64 := by
  intro z hz
  unfold bGet at hz
  split at hz
  · exact getB_bd _ _ z hz
  · cases hz
set_option maxRecDepth 100000 in
theorem bGet_len64 (l : List Int) (a : Int) : (bGet l a).length ≤ 64 := by
  unfold bGet
  split
  · unfold getB
    rw [List.length_map]
    exact Nat.le_trans (List.length_filter_le _ _) (by simp)
  · simp
def lowOnes (l : List Int) : List Int := l.filter fun z => decide (z ≠ 1)
def moreB (l : List Int) : Bool := decide (1 ∈ l)
def nosRaw (l : List Int) : List Int := if moreB (bGet l 2) = true then lowOnes (bGet l 2) ++ (bGet l (bEnd l 2)).map (· + 64) else lowOnes (bGet l 2)
def nosEnd (l : List Int) : Int := if moreB (bGet l 2) = true then bEnd l (bEnd l 2) else bEnd l 2
def knownB (l : List Int) : Bool := l.all fun k => decide (fKind k ≠ 0)
def nosOk (l : List Int) : Bool := bIn l 2 && (!moreB (bGet l 2) || (bIn l (bEnd l 2) && decide (0 < (bGet l (bEnd l 2)).length))) && knownB (nosRaw l)
def nosL (l : List Int) : List Int := if nosOk l = true then nosRaw l else []
def nosE (l : List Int) : Int := if nosOk l = true then nosEnd l else 0
def nosRes (l : List Int) (w : World) (e : Ending) (w' : World) : Prop := ∃ v, e = .returned (.tuple #[v, .int .i64 (nosE l), .bool (nosOk l)]) ∧ nums .i64 w.heap.size w'.heap.size w' v (nosL l) ∧ Below w.heap.size w w'
set_option maxRecDepth 100000 in
theorem nosRes_no {l : List Int} {w w' : World} (h : nosOk l = false) (hb : Below w.heap.size w w') : nosRes l w (.returned (.tuple #[.slice none 0 0, .int .i64 0, .bool false])) w' := by
  refine ⟨.slice none 0 0, by simp [nosE, h], ?_, hb⟩
  have : nosL l = [] := by simp [nosL, h]
  rw [this]
  exact nums_none _ _ _ _
set_option maxRecDepth 100000 in
theorem take_snocI {l : List Int} {i : Nat} {x : Int} (h : l[i]? = some x) : l.take (i + 1) = l.take i ++ [x] := by
  obtain ⟨hi, rfl⟩ := List.getElem?_eq_some_iff.1 h
  rw [List.take_succ_eq_append_getElem hi]
set_option maxRecDepth 100000 in
theorem low_snoc (l : List Int) (x : Int) : lowOnes (l ++ [x]) = if x = 1 then lowOnes l else lowOnes l ++ [x] := by
  unfold lowOnes
  rw [List.filter_append]
  by_cases h : x = 1 <;> simp [h]
set_option maxRecDepth 100000 in
theorem more_snoc (l : List Int) (x : Int) : moreB (l ++ [x]) = if x = 1 then true else moreB l := by
  unfold moreB
  by_cases h : x = 1
  · simp [h]
  · have h' : ¬ (1 : Int) = x := fun e => h e.symm
    simp [h, h']
set_option maxRecDepth 100000 in
theorem known_no {l : List Int} {j : Nat} {x : Int} (hx : l[j]? = some x) (h : fKind x = 0) : knownB l = false := by
  unfold knownB; rw [List.all_eq_false]; exact ⟨x, List.mem_of_getElem? hx, by simp [h]⟩
set_option maxRecDepth 100000 in
theorem known_yes {l : List Int} (h : ∀ j x, j < l.length → l[j]? = some x → fKind x ≠ 0) : knownB l = true := by
  unfold knownB; rw [List.all_eq_true]; intro x hx
  obtain ⟨j, hj⟩ := List.mem_iff_getElem?.1 hx
  simpa using h j x (List.getElem?_eq_some_iff.1 hj).1 hj
end Go.Proofs.YtdjlhijaadombaaDoor
/- GetField of the reference; no conditions. -/
set_option linter.unusedVariables false
namespace Go.Proofs.YtdjlhijaadombaaDoor
open Go.ChangeShapes Go.WideShapes Go.ChangeAt Go.RowKit

set_option maxRecDepth 100000 in
theorem rawOk_neg {kd : Int} {l : List Int} {a sz : Int} (h : a < 0) : rawOk kd l a sz = false := by
  unfold rawOk
  repeat' split
  · exact gOk_out (gIn_no (.inr (.inr (.inl h))))
  · exact inR_no (.inl h)
  all_goals rw [lenGot_neg h, Bool.false_and]
set_option maxRecDepth 100000 in
theorem getOk_neg {kd : Int} {l : List Int} {a sz : Int} (h : a < 0) : getOk kd l a sz = false := by unfold getOk; rw [rawOk_neg h, Bool.false_and]
set_option maxRecDepth 100000 in
theorem str_size (t : List UInt8) : (⟨t.toArray⟩ : ByteArray).size = t.length := rfl
set_option maxRecDepth 100000 in
theorem getOk1 {l : List Int} {a sz : Int} (hl : isBytes l) : getOk 1 l a sz = gOk l a sz := by
  unfold getOk rawOk rawTxt okBy
  simp only [if_true]
  cases h : gOk l a sz
  · rfl
  · have := gTxt_ok hl h
    rw [this.2, str_size, this.1]
    simp
set_option maxRecDepth 100000 in
theorem getOk2 {l : List Int} {a sz : Int} : getOk 2 l a sz = (inR l a sz && prnS ⟨(tPart l a sz).toArray⟩) := by
  unfold getOk rawOk rawTxt okBy
  simp only [show ((2 : Int) = 1) = False by simp, if_false, if_true]
  cases h : inR l a sz
  · rfl
  · have h1 := tPart_len h
    have h2 := inR_yes h
    rw [str_size, h1]
    have : decide (((sz.toNat : Nat) : Int) = sz) = true := by simp; omega
    rw [this, Bool.true_and]
set_option maxRecDepth 100000 in
theorem getOk3 {l : List Int} {a sz : Int} (hl : isBytes l) : getOk 3 l a sz = (lenGot l a 2 && (decide (1 ≤ lenVal l a 2) && decide (lenVal l a 2 ≤ sz)) && gOk l (lenEnd l a 2) (lenVal l a 2)) := by
  unfold getOk rawOk rawTxt okBy
  simp only [show ((3 : Int) = 1) = False by simp, show ((3 : Int) = 2) = False by simp, if_false, if_true]
  cases hg : lenGot l a 2
  · rfl
  cases h : gOk l (lenEnd l a 2) (lenVal l a 2)
  · simp
  · have h1 := gTxt_ok hl h
    have h2 := gIn_bd (gOk_in h).1
    rw [h1.2, str_size, h1.1]
    simp
    omega
set_option maxRecDepth 100000 in
theorem getOk45 {l : List Int} {a sz : Int} {kd d : Int} (hk : kd = 4 ∧ d = 2 ∨ kd = 5 ∧ d = 3) : getOk kd l a sz = (lenGot l a d && (decide (1 ≤ lenVal l a d) && decide (lenVal l a d ≤ sz)) && (inR l (lenEnd l a d) (lenVal l a d) && prnS ⟨(tPart l (lenEnd l a d) (lenVal l a d)).toArray⟩)) := by
  have key : ∀ (G I p : Bool) (V : Int) (n : Nat), 0 ≤ V → (I = true → n = V.toNat) → (G && I && ((decide (0 < n) && decide ((n : Int) ≤ sz)) && p)) = (G && (decide (1 ≤ V) && decide (V ≤ sz)) && (I && p)) := by
    intro G I p V n hV hI
    cases G
    · rfl
    cases I
    · simp
    · have := hI rfl
      subst this
      have e1 : decide (0 < V.toNat) = decide (1 ≤ V) := by apply decide_eq_decide.2; omega
      have e2 : decide (((V.toNat : Nat) : Int) ≤ sz) = decide (V ≤ sz) := by apply decide_eq_decide.2; omega
      rw [e1, e2]
      cases decide (1 ≤ V) <;> cases decide (V ≤ sz) <;> simp
  rcases hk with ⟨rfl, rfl⟩ | ⟨rfl, rfl⟩
  · unfold getOk rawOk rawTxt okBy
    simp only [show ((4 : Int) = 1) = False by simp, show ((4 : Int) = 2) = False by simp, show ((4 : Int) = 3) = False by simp, if_false, if_true, true_or]
    rw [str_size]
    exact key _ _ _ _ _ (lenVal_bd l a 2).1 (fun h => tPart_len h)
  · unfold getOk rawOk rawTxt okBy
    simp only [show ((5 : Int) = 1) = False by simp, show ((5 : Int) = 2) = False by simp, show ((5 : Int) = 3) = False by simp, show ((5 : Int) = 4) = False by simp, if_false, if_true, or_true]
    rw [str_size]
    exact key _ _ _ _ _ (lenVal_bd l a 3).1 (fun h => tPart_len h)
set_option maxRecDepth 100000 in
/-- the text at x, m bytes long: what string(b[x:x+m]) gives -/
theorem part_str {hi : Nat} {w : World} {b off c x m : Nat} {l : List Int} (h : rd .u8 hi w (.slice (some ⟨b, off, none⟩) l.length c) l) (h0 : 0 < l.length) (hm : x + m ≤ l.length) :
    (convert 46 9 (.slice (some ⟨b, off + x, none⟩) (x + m - x) (c - x))).run Tryd.prog w = .ok (.string ⟨(tPart l (x : Int) (m : Int)).toArray⟩) w := by
  obtain ⟨A, c', he, hc, hj⟩ := h
  injection he with e1 e2 e3
  subst e1
  subst e3
  have hj' : ∀ j, j < l.length → w.cell? ⟨b, off + j, none⟩ = some (.int .u8 (l.getD j 0)) := fun j hjl => by
    obtain ⟨b', off', e, _, hx⟩ := hj j hjl
    simp only [Option.some.injEq, Addr.mk.injEq, and_true] at e
    obtain ⟨rfl, rfl⟩ := e
    exact hx
  obtain ⟨b', off', e, hb, -⟩ := hj 0 h0
  simp only [Option.some.injEq, Addr.mk.injEq, and_true] at e
  obtain ⟨rfl, rfl⟩ := e
  rw [Nat.add_sub_cancel_left]
  exact str_of_rd (rd_part hj' hb hc hm)

end Go.Proofs.YtdjlhijaadombaaDoor
/- What Parse comes to, as plain data; no conditions. -/
set_option linter.unusedVariables false
namespace Go.Proofs.YtdjlhijaadombaaDoor
open Go.ChangeShapes Go.WideShapes Go.ChangeAt Go.RowKit

def gfOk (l : List Int) (a no : Int) : Bool := decide (fKind no ≠ 0) && getOk (fKind no) l a (fSize no)
def gfTxt (l : List Int) (a no : Int) : ByteArray := ⟨(rawTxt (fKind no) l a (fSize no)).toArray⟩
def gfEnd (l : List Int) (a no : Int) : Int := rawEnd (fKind no) l a (fSize no)
set_option maxRecDepth 100000 in
theorem get_yes {l : List Int} {a no : Int} (h : gfOk l a no = true) : getRes l a no = .returned (.tuple #[.string (gfTxt l a no), .int .i64 (gfEnd l a no), .bool true]) := by
  unfold gfOk at h
  simp only [Bool.and_eq_true, decide_eq_true_eq] at h
  unfold getRes
  rw [if_neg h.1, trip_on h.2]
  rfl
set_option maxRecDepth 100000 in
theorem get_no {l : List Int} {a no : Int} (h : gfOk l a no = false) : getRes l a no = .returned (.tuple #[.string ⟨#[]⟩, .int .i64 0, .bool false]) := by
  unfold gfOk at h
  unfold getRes
  by_cases hk : fKind no = 0
  · rw [if_pos hk, trip_of rfl]
  · rw [if_neg hk]
    simp only [hk, ne_eq, not_false_eq_true, decide_true, Bool.true_and] at h
    rw [trip_of h]
set_option maxRecDepth 100000 in
theorem gEnd_le {l : List Int} {a n : Int} (h : gOk l a n = true) : gEnd l a n ≤ l.length := by
  unfold gEnd
  rw [if_pos h]
  exact (gIn_bd (gOk_in h).1).2.2.2
set_option maxRecDepth 100000 in
theorem gfEnd_le {l : List Int} {a no : Int} (h : gfOk l a no = true) : gfEnd l a no ≤ l.length := by
  unfold gfOk getOk at h
  simp only [Bool.and_eq_true, decide_eq_true_eq] at h
  obtain ⟨-, h, -⟩ := h
  unfold gfEnd rawEnd
  unfold rawOk at h
  split at h
  · next h1 => rw [if_pos h1]; exact gEnd_le h
  · next h1 =>
    rw [if_neg h1]
    split at h
    · next h2 => rw [if_pos h2]; exact (inR_yes h).2.2
    · next h2 =>
      rw [if_neg h2]
      split at h
      · next h3 =>
        rw [if_pos h3]
        simp only [Bool.and_eq_true] at h
        exact gEnd_le h.2
      · next h3 =>
        rw [if_neg h3]
        split at h
        · next h4 => rw [if_pos h4]; simp only [Bool.and_eq_true] at h; exact (inR_yes h.2).2.2
        · next h4 => rw [if_neg h4]; simp only [Bool.and_eq_true] at h; exact (inR_yes h.2).2.2
abbrev PSt := Option (Int × List FieldD)
def pstep (l : List Int) (st : PSt) (no : Int) : PSt := st.bind fun p => if gfOk l p.1 no = true then some (gfEnd l p.1 no, p.2 ++ [(no, gfTxt l p.1 no)]) else none
def pst (l nos : List Int) (a : Int) (i : Nat) : PSt := (nos.take i).foldl (pstep l) (some (a, []))
set_option maxRecDepth 100000 in
theorem pst_next (l nos : List Int) (a : Int) (i : Nat) (x : Int) (h : nos[i]? = some x) : pst l nos a (i + 1) = pstep l (pst l nos a i) x := by
  unfold pst
  rw [take_snocI h, List.foldl_append]
  rfl
set_option maxRecDepth 100000 in
theorem fold_none (l : List Int) : ∀ nos : List Int, nos.foldl (pstep l) none = none := by
  intro nos
  induction nos with
  | nil => rfl
  | cons x nos ih => exact ih
set_option maxRecDepth 100000 in
theorem pst_none {l nos : List Int} {a : Int} {i : Nat} (hi : i ≤ nos.length) (h : pst l nos a i = none) : pst l nos a nos.length = none := by
  unfold pst at h ⊢
  rw [List.take_length]
  rw [← List.take_append_drop i nos, List.foldl_append, h]
  exact fold_none l _
set_option maxRecDepth 100000 in
theorem pst_len {l nos : List Int} {a : Int} : ∀ (i : Nat) (e : Int) (L : List FieldD), pst l nos a i = some (e, L) → L.length ≤ i := by
  intro i
  induction i with
  | zero => intro e L h; simp [pst] at h; simp [← h.2]
  | succ i ih =>
    intro e L h
    by_cases hi : i < nos.length
    · rw [pst_next l nos a i _ (List.getElem?_eq_getElem hi)] at h
      unfold pstep at h
      obtain ⟨⟨e', L'⟩, h1, h2⟩ := Option.bind_eq_some_iff.1 h
      have := ih e' L' h1
      split at h2
      · simp only [Option.some.injEq, Prod.mk.injEq] at h2
        rw [← h2.2]; simp; omega
      · cases h2
    · have : pst l nos a (i + 1) = pst l nos a i := by
        unfold pst; rw [List.take_of_length_le (by omega), List.take_of_length_le (by omega)]
      rw [this] at h
      have := ih e L h
      omega
/-- the message and the code -/
def parseRes (l : List Int) : MsgD × Int :=
  if gOk l 0 4 = false then ((⟨#[]⟩, []), 1) else if nosOk l = false then ((⟨#[]⟩, []), 2) else
  match pst l (nosL l) (nosE l) (nosL l).length with
  | none => ((⟨#[]⟩, []), 3)
  | some (e, L) => if e = l.length then ((⟨(gTxt l 0 4).toArray⟩, L), 0) else ((⟨#[]⟩, []), 4)
/-- a message and a code -/
def codeRes (r : MsgD × Int) (w : World) (e : Ending) (w' : World) : Prop := ∃ u, e = .returned (.tuple #[.agg #[.string r.1.1, u], .int .i64 r.2]) ∧ FieldsR.mine w.heap.size w'.heap.size w' [u] r.1.2 ∧ Below w.heap.size w w'
set_option maxRecDepth 100000 in
theorem nosE_le (l : List Int) : nosE l ≤ l.length := by
  have hb : ∀ a, bEnd l a ≤ l.length := fun a => by
    unfold bEnd bIn
    split
    · next h => simp only [Bool.and_eq_true, decide_eq_true_eq] at h; omega
    · omega
  unfold nosE nosEnd
  split
  · split <;> exact hb _
  · omega
set_option maxRecDepth 100000 in
theorem nosL_len (l : List Int) : (nosL l).length ≤ 128 := by
  unfold nosL nosRaw
  split
  · split
    · have h1 : (lowOnes (bGet l 2)).length ≤ 64 := Nat.le_trans (List.length_filter_le _ _) (bGet_len64 l 2)
      have h2 := bGet_len64 l (bEnd l 2)
      rw [List.length_append, List.length_map]; omega
    · have h1 : (lowOnes (bGet l 2)).length ≤ 64 := Nat.le_trans (List.length_filter_le _ _) (bGet_len64 l 2)
      omega
  · simp
end Go.Proofs.YtdjlhijaadombaaDoor
/- The bits that PutBits sets are those that GetBits reads. Plain facts; no conditions. -/
set_option linter.unusedVariables false
namespace Go.Proofs.YtdjlhijaadombaaDoor
open Go.ChangeShapes Go.WideShapes Go.ChangeAt Go.RowKit

set_option maxRecDepth 100000 in
theorem or_byte : ∀ x < 256, ∀ a < 8, (∀ c < 8, (decide (bits BinOp.or IntKind.u8 ((x : Nat) : Int) (128 / 2 ^ (a : Nat)) / 2 ^ (7 - c) % 2 = 1) = (decide (((x : Nat) : Int) / 2 ^ (7 - c) % 2 = 1) || decide (c = a)))) ∧ 0 ≤ bits BinOp.or IntKind.u8 ((x : Nat) : Int) (128 / 2 ^ (a : Nat)) ∧ bits BinOp.or IntKind.u8 ((x : Nat) : Int) (128 / 2 ^ (a : Nat)) ≤ 255 := by decide +kernel
def okB (p : List Int) : Prop := p.length = 8 ∧ ∀ i, 0 ≤ p.getD i 0 ∧ p.getD i 0 ≤ 255
set_option maxRecDepth 100000 in
theorem getD_set (p : List Int) (i j : Nat) (x : Int) (h : i < p.length) : (p.set i x).getD j 0 = if j = i then x else p.getD j 0 := by
  rw [List.getD_eq_getElem?_getD, List.getD_eq_getElem?_getD, List.getElem?_set]
  by_cases e : i = j
  · subst e; simp [h]
  · rw [if_neg e, if_neg (fun h => e h.symm)]
set_option maxRecDepth 100000 in
theorem setB_bit {p : List Int} (hp : okB p) {k : Int} (h1 : 1 ≤ k) (h2 : k ≤ 64) : okB (setB p k) ∧ ∀ i, i < 64 → bitAt (setB p k) i = (bitAt p i || decide ((i : Int) = k - 1)) := by
  obtain ⟨n, rfl⟩ : ∃ n : Nat, k = n + 1 := ⟨(k - 1).toNat, by omega⟩
  have e1 : ((n : Int) + 1 - 1) / 8 = (n / 8 : Nat) := by omega
  have e2 : ((n : Int) + 1 - 1) % 8 = (n % 8 : Nat) := by omega
  have hn : n < 64 := by omega
  have hset : setB p (n + 1) = p.set (n / 8) (bits BinOp.or IntKind.u8 (p.getD (n / 8) 0) (128 / 2 ^ (n % 8))) := by
    unfold setB wt
    rw [if_pos ⟨h1, h2⟩, e1, e2]
    rfl
  have hb := hp.2 (n / 8)
  obtain ⟨x, hx⟩ : ∃ x : Nat, p.getD (n / 8) 0 = x := ⟨(p.getD (n / 8) 0).toNat, by omega⟩
  obtain ⟨hc, hl, hu⟩ := or_byte x (by omega) (n % 8) (by omega)
  have hlen : n / 8 < p.length := by rw [hp.1]; omega
  refine ⟨⟨by rw [hset, List.length_set]; exact hp.1, fun i => ?_⟩, fun i hi => ?_⟩
  · rw [hset, getD_set _ _ _ _ hlen, hx]
    split
    · exact ⟨hl, hu⟩
    · exact hp.2 i
  · unfold bitAt
    rw [hset, getD_set _ _ _ _ hlen, hx]
    by_cases e : i / 8 = n / 8
    · rw [if_pos e, hc (i % 8) (by omega), e, hx]
      congr 1
      rw [decide_eq_decide]
      omega
    · rw [if_neg e]
      have : decide ((i : Int) = (n : Int) + 1 - 1) = false := by rw [decide_eq_false_iff_not]; omega
      rw [this, Bool.or_false]
set_option maxRecDepth 100000 in
theorem fold_bit (L : List Int) : ∀ p : List Int, okB p → (∀ k ∈ L, 1 ≤ k ∧ k ≤ 64) → okB (L.foldl setB p) ∧ ∀ i, i < 64 → bitAt (L.foldl setB p) i = (bitAt p i || decide ((i : Int) + 1 ∈ L)) := by
  induction L with
  | nil => intro p hp _; exact ⟨hp, fun i _ => by simp⟩
  | cons k L ih =>
    intro p hp hk
    have h1 := hk k (List.mem_cons_self ..)
    obtain ⟨g1, g2⟩ := setB_bit hp h1.1 h1.2
    obtain ⟨g3, g4⟩ := ih (setB p k) g1 (fun z hz => hk z (List.mem_cons_of_mem _ hz))
    refine ⟨g3, fun i hi => ?_⟩
    rw [List.foldl_cons, g4 i hi, g2 i hi, Bool.or_assoc]
    congr 1
    rw [← Bool.decide_or, decide_eq_decide, List.mem_cons]
    constructor
    · rintro (h | h)
      · exact .inl (by omega)
      · exact .inr h
    · rintro (h | h)
      · exact .inl (by omega)
      · exact .inr h
set_option maxRecDepth 100000 in
theorem zero_bit : okB (List.replicate 8 0) ∧ ∀ i, i < 64 → bitAt (List.replicate 8 0) i = false := by
  constructor
  · refine ⟨rfl, fun i => ?_⟩
    rw [List.getD_eq_getElem?_getD, List.getElem?_replicate]
    split <;> simp
  · decide +kernel
set_option maxRecDepth 100000 in
theorem putB_bit {L : List Int} (h : ∀ k ∈ L, 1 ≤ k ∧ k ≤ 64) : okB (putB L) ∧ ∀ i, i < 64 → bitAt (putB L) i = decide ((i : Int) + 1 ∈ L) := by
  obtain ⟨g1, g2⟩ := fold_bit L _ zero_bit.1 h
  exact ⟨g1, fun i hi => by show bitAt (L.foldl setB _) i = _; rw [g2 i hi, zero_bit.2 i hi, Bool.false_or]⟩
set_option maxRecDepth 100000 in
/-- ascending numbers are their own bitmap's -/
theorem up_filter : ∀ (n : Nat) (L : List Int), L.Pairwise (· < ·) → (∀ k ∈ L, 1 ≤ k ∧ k ≤ n) → ((List.range n).filter fun i : Nat => decide ((i : Int) + 1 ∈ L)).map (fun i : Nat => (i : Int) + 1) = L := by
  intro n
  induction n with
  | zero =>
    intro L _ hk
    cases L with
    | nil => rfl
    | cons k L => have := hk k (List.mem_cons_self ..); omega
  | succ n ih =>
    intro L hp hk
    rw [List.range_succ, List.filter_append, List.map_append]
    by_cases hm : (n : Int) + 1 ∈ L
    · obtain ⟨L', hL⟩ : ∃ L', L = L' ++ [(n : Int) + 1] := by
        have hne : L ≠ [] := fun e => by subst e; cases hm
        refine ⟨L.dropLast, ?_⟩
        have hlast := List.dropLast_concat_getLast hne
        have hle := hk _ (List.getLast_mem hne)
        by_cases e : L.getLast hne = (n : Int) + 1
        · rw [← e]; exact hlast.symm
        · exfalso
          rw [← hlast] at hm hp
          rw [List.pairwise_append] at hp
          rcases List.mem_append.1 hm with h | h
          · have := hp.2.2 _ h _ (List.mem_singleton.2 rfl)
            omega
          · exact e (List.mem_singleton.1 h).symm
      subst hL
      rw [List.pairwise_append] at hp
      have hlt : ∀ k ∈ L', k < (n : Int) + 1 := fun k hk' => hp.2.2 k hk' _ (List.mem_singleton.2 rfl)
      have e1 : (List.range n).filter (fun i : Nat => decide ((i : Int) + 1 ∈ L' ++ [(n : Int) + 1])) = (List.range n).filter (fun i : Nat => decide ((i : Int) + 1 ∈ L')) := by
        refine List.filter_congr fun i hi => ?_
        have hi' : i < n := by simpa using hi
        rw [decide_eq_decide, List.mem_append, List.mem_singleton]
        constructor
        · rintro (h | h)
          · exact h
          · omega
        · exact .inl
      rw [e1, ih L' hp.1 (fun k hk' => by have := hk k (List.mem_append_left _ hk'); have := hlt k hk'; omega)]
      simp
    · have e1 : [n].filter (fun i : Nat => decide ((i : Int) + 1 ∈ L)) = [] := by simp [hm]
      rw [e1, ih L hp (fun k hk' => by
        have h1 := hk k hk'
        have h2 : k ≠ (n : Int) + 1 := fun e => hm (e ▸ hk')
        omega)]
      simp
set_option maxRecDepth 100000 in
theorem getB_putB {L : List Int} (h : ∀ k ∈ L, 1 ≤ k ∧ k ≤ 64) (U : List Int) (hU : U.Pairwise (· < ·)) (hm : ∀ z, z ∈ L ↔ z ∈ U) : getB (putB L) 64 = U := by
  have hb := putB_bit h
  unfold getB
  have e : (List.range 64).filter (bitAt (putB L)) = (List.range 64).filter (fun i : Nat => decide ((i : Int) + 1 ∈ U)) := by
    refine List.filter_congr fun i hi => ?_
    rw [hb.2 i (by simpa using hi), decide_eq_decide]
    exact hm _
  rw [e]
  exact up_filter 64 U hU (fun k hk => h k ((hm k).2 hk))
end Go.Proofs.YtdjlhijaadombaaDoor
/- A message is got back from its encoding. Plain facts; no conditions. -/
set_option linter.unusedVariables false
namespace Go.Proofs.YtdjlhijaadombaaDoor
open Go.ChangeShapes Go.WideShapes Go.ChangeAt Go.RowKit

set_option maxRecDepth 100000 in
theorem listOk_all {L : List FieldD} (h : listOk L = true) : (∀ x ∈ L, fOk x.1 x.2 = true) ∧ L.Pairwise (fun a b => a.1 < b.1) := by
  have hs : ∀ j (hj : j < L.length), fOk (L[j]).1 (L[j]).2 = true ∧ (∀ hj' : j + 1 < L.length, (L[j]).1 < (L[j + 1]).1) := by
    intro j hj
    have h1 := listOk_at h j hj
    unfold stepOk at h1
    rw [getD_of (List.getElem?_eq_getElem hj)] at h1
    simp only [Bool.and_eq_true] at h1
    refine ⟨h1.1, fun hj' => ?_⟩
    have h2 := listOk_at h (j + 1) hj'
    unfold stepOk at h2
    rw [getD_of (List.getElem?_eq_getElem hj'), show j + 1 - 1 = j by omega, getD_of (List.getElem?_eq_getElem hj)] at h2
    simp only [Bool.and_eq_true] at h2
    simpa using h2.2
  constructor
  · intro x hx
    obtain ⟨j, hj, rfl⟩ := List.mem_iff_getElem.1 hx
    exact (hs j hj).1
  · rw [List.pairwise_iff_getElem]
    intro i j hi hj hij
    obtain ⟨d, rfl⟩ : ∃ d, j = i + d + 1 := ⟨j - i - 1, by omega⟩
    clear hij
    induction d with
    | zero => exact (hs i hi).2 hj
    | succ d ih =>
      have h1 := ih (by omega)
      have h2 := (hs (i + d + 1) (by omega)).2 hj
      exact Int.lt_trans h1 h2
set_option maxRecDepth 100000 in
theorem split_64 : ∀ (L : List FieldD), L.Pairwise (fun a b => a.1 < b.1) → L.map (·.1) = lows L ++ (highs L).map (· + 64) := by
  intro L
  induction L with
  | nil => intro _; rfl
  | cons x L ih =>
    intro hp
    rw [List.pairwise_cons] at hp
    by_cases h : x.1 ≤ 64
    · have e1 : lows (x :: L) = x.1 :: lows L := by unfold lows; simp [h]
      have e2 : highs (x :: L) = highs L := by unfold highs; rw [List.filter_cons_of_neg (by simpa using h)]
      rw [e1, e2, List.map_cons, ih hp.2]; rfl
    · have hall : ∀ y ∈ L, 64 < y.1 := fun y hy => by have := hp.1 y hy; omega
      have e1 : lows (x :: L) = [] := by
        unfold lows
        rw [List.map_eq_nil_iff, List.filter_eq_nil_iff]
        intro y hy
        rcases List.mem_cons.1 hy with rfl | hy
        · simpa using h
        · have := hall y hy; simp; omega
      have e2 : highs (x :: L) = (x :: L).map (·.1 - 64) := by
        unfold highs
        rw [List.filter_eq_self.2 fun y hy => by
          rcases List.mem_cons.1 hy with rfl | hy
          · simp; omega
          · have := hall y hy; simpa using this]
      rw [e1, e2, List.map_map, List.nil_append]
      refine List.map_congr_left fun y _ => ?_
      simp
set_option maxRecDepth 100000 in
theorem lows_up {L : List FieldD} (hp : L.Pairwise (fun a b => a.1 < b.1)) : (lows L).Pairwise (· < ·) := by
  unfold lows
  rw [List.pairwise_map]
  exact hp.filter _
set_option maxRecDepth 100000 in
theorem highs_up {L : List FieldD} (hp : L.Pairwise (fun a b => a.1 < b.1)) : (highs L).Pairwise (· < ·) := by
  unfold highs
  rw [List.pairwise_map]
  exact (hp.filter _).imp fun h => by omega
set_option maxRecDepth 100000 in
theorem lows_bd {L : List FieldD} (h : ∀ x ∈ L, fOk x.1 x.2 = true) : ∀ k ∈ lows L, 2 ≤ k ∧ k ≤ 64 := by
  intro k hk
  unfold lows at hk
  obtain ⟨x, hx, rfl⟩ := List.mem_map.1 hk
  obtain ⟨h1, h2⟩ := List.mem_filter.1 hx
  have := fOk_range (h x h1)
  have h3 : x.1 ≤ 64 := by simpa using h2
  omega
set_option maxRecDepth 100000 in
theorem highs_bd {L : List FieldD} (h : ∀ x ∈ L, fOk x.1 x.2 = true) : ∀ k ∈ highs L, 1 ≤ k ∧ k ≤ 64 := by
  intro k hk
  unfold highs at hk
  obtain ⟨x, hx, rfl⟩ := List.mem_map.1 hk
  obtain ⟨h1, h2⟩ := List.mem_filter.1 hx
  have := fOk_range (h x h1)
  have h3 : 64 < x.1 := by simpa using h2
  omega
set_option maxRecDepth 100000 in
theorem bits_at (P B Q : List Int) (hB : B.length = 8) (a : Int) (ha : a = P.length) : bIn (P ++ B ++ Q) a = true ∧ bPart (P ++ B ++ Q) a = B ∧ bGet (P ++ B ++ Q) a = getB B 64 ∧ bEnd (P ++ B ++ Q) a = P.length + 8 := by
  subst ha
  have h1 : bIn (P ++ B ++ Q) P.length = true := by
    unfold bIn
    simp only [Bool.and_eq_true, decide_eq_true_eq, List.length_append]
    omega
  have h2 : bPart (P ++ B ++ Q) P.length = B := by
    unfold bPart
    rw [show ((P.length : Int)).toNat = P.length by omega]
    have := mid_part P B Q
    rwa [hB] at this
  exact ⟨h1, h2, by unfold bGet; rw [if_pos h1, h2], by unfold bEnd; rw [if_pos h1]⟩
set_option maxRecDepth 100000 in
theorem nos_back {L : List FieldD} (h : listOk L = true) (P Q : List Int) (hP : P.length = 2) :
    nosOk (P ++ bitsL L ++ Q) = true ∧ nosL (P ++ bitsL L ++ Q) = L.map (·.1) ∧ nosE (P ++ bitsL L ++ Q) = P.length + (bitsL L).length := by
  obtain ⟨hf, hp⟩ := listOk_all h
  have hlb := lows_bd hf
  have hlu := lows_up hp
  have hhb := highs_bd hf
  have hhu := highs_up hp
  have hsp := split_64 L hp
  have hk : knownB (L.map (·.1)) = true := by
    unfold knownB
    rw [List.all_eq_true]
    intro k hk
    obtain ⟨x, hx, rfl⟩ := List.mem_map.1 hk
    have : fKind x.1 ≠ 0 := fun e => by have := hf x hx; rw [fOk_no e] at this; cases this
    simpa using this
  have key : nosRaw (P ++ bitsL L ++ Q) = L.map (·.1) ∧ nosEnd (P ++ bitsL L ++ Q) = P.length + (bitsL L).length ∧ (bIn (P ++ bitsL L ++ Q) 2 && (!moreB (bGet (P ++ bitsL L ++ Q) 2) || (bIn (P ++ bitsL L ++ Q) (bEnd (P ++ bitsL L ++ Q) 2) && decide (0 < (bGet (P ++ bitsL L ++ Q) (bEnd (P ++ bitsL L ++ Q) 2)).length)))) = true := by
    by_cases hh : highs L = []
    · have hb : bitsL L = putB (lows L) := by unfold bitsL; rw [if_pos hh]
      have hg : getB (putB (lows L)) 64 = lows L := getB_putB (fun k hk => by have := hlb k hk; omega) _ hlu (fun z => Iff.rfl)
      obtain ⟨b1, b2, b3, b4⟩ := bits_at P (putB (lows L)) Q (putB_len8 _) 2 (by omega)
      rw [hg] at b3
      rw [hb]
      have hm : moreB (lows L) = false := by
        unfold moreB
        rw [decide_eq_false_iff_not]
        intro h1
        have := hlb 1 h1
        omega
      have ho : lowOnes (lows L) = lows L := by
        unfold lowOnes
        rw [List.filter_eq_self]
        intro z hz
        have := hlb z hz
        simp; omega
      refine ⟨?_, ?_, ?_⟩
      · unfold nosRaw
        rw [b3, hm, if_neg (by simp), ho, hsp, hh]
        simp
      · unfold nosEnd
        rw [b3, hm, if_neg (by simp), b4, putB_len8]
        rfl
      · rw [b3, hm, b1]; rfl
    · have hb : bitsL L = putB (lows L ++ [1]) ++ putB (highs L) := by unfold bitsL; rw [if_neg hh]
      have hbd1 : ∀ k ∈ lows L ++ [1], 1 ≤ k ∧ k ≤ 64 := fun k hk => by
        rcases List.mem_append.1 hk with hk | hk
        · have := hlb k hk; omega
        · rw [List.mem_singleton.1 hk]; omega
      have hg1 : getB (putB (lows L ++ [1])) 64 = 1 :: lows L := getB_putB hbd1 _ (List.pairwise_cons.2 ⟨fun z hz => by have := hlb z hz; omega, hlu⟩) (fun z => by simp [or_comm])
      have hg2 : getB (putB (highs L)) 64 = highs L := getB_putB hhb _ hhu (fun z => Iff.rfl)
      obtain ⟨b1, b2, b3, b4⟩ := bits_at P (putB (lows L ++ [1])) (putB (highs L) ++ Q) (putB_len8 _) 2 (by omega)
      obtain ⟨c1, c2, c3, c4⟩ := bits_at (P ++ putB (lows L ++ [1])) (putB (highs L)) Q (putB_len8 _) 10 (by rw [List.length_append, putB_len8]; omega)
      have e : P ++ (putB (lows L ++ [1]) ++ putB (highs L)) ++ Q = P ++ putB (lows L ++ [1]) ++ (putB (highs L) ++ Q) := by simp
      have e' : P ++ putB (lows L ++ [1]) ++ putB (highs L) ++ Q = P ++ putB (lows L ++ [1]) ++ (putB (highs L) ++ Q) := by simp
      rw [e'] at c1 c2 c3 c4
      rw [hg1] at b3
      rw [hg2] at c3
      rw [hb, e]
      have b4' : bEnd (P ++ putB (lows L ++ [1]) ++ (putB (highs L) ++ Q)) 2 = 10 := by rw [b4]; omega
      have hm : moreB (1 :: lows L) = true := by unfold moreB; simp
      have ho : lowOnes (1 :: lows L) = lows L := by
        unfold lowOnes
        rw [List.filter_cons_of_neg (by simp), List.filter_eq_self]
        intro z hz
        have := hlb z hz
        simp; omega
      have hpos : 0 < (highs L).length := List.length_pos_iff.2 hh
      refine ⟨?_, ?_, ?_⟩
      · unfold nosRaw
        rw [b3, hm, if_pos rfl, ho, b4', c3, hsp]
      · unfold nosEnd
        rw [b3, hm, if_pos rfl, b4', c4, List.length_append, List.length_append, putB_len8, putB_len8]
        omega
      · rw [b3, hm, b1, b4', c1, c3]
        simp [hpos]
  have hok : nosOk (P ++ bitsL L ++ Q) = true := by
    unfold nosOk
    rw [key.2.2, key.1, hk]
    rfl
  exact ⟨hok, by unfold nosL; rw [if_pos hok, key.1], by unfold nosE; rw [if_pos hok, key.2.1]⟩
set_option maxRecDepth 100000 in
theorem gf_back {no : Int} {s : ByteArray} (h : fOk no s = true) (P Q : List Int) (a : Int) (ha : a = P.length) : gfOk (P ++ putFL no s ++ Q) a no = true ∧ gfTxt (P ++ putFL no s ++ Q) a no = s ∧ gfEnd (P ++ putFL no s ++ Q) a no = P.length + (putFL no s).length := by
  subst ha
  have hb := field_back h P Q
  cases hg : gfOk (P ++ putFL no s ++ Q) P.length no
  · rw [get_no hg] at hb
    simp at hb
  · rw [get_yes hg] at hb
    simp only [Ending.returned.injEq, Value.tuple.injEq] at hb
    injection hb with hb
    simp only [List.cons.injEq, Value.string.injEq, Value.int.injEq, true_and, and_true] at hb
    exact ⟨rfl, hb.1, hb.2⟩
set_option maxRecDepth 100000 in
theorem pst_back {L : List FieldD} (h : ∀ x ∈ L, fOk x.1 x.2 = true) (H R : List Int) : ∀ i, i ≤ L.length → pst (H ++ bodyL L ++ R) (L.map (·.1)) H.length i = some ((H.length : Int) + ((bodyL (L.take i)).length : Int), L.take i) := by
  intro i
  induction i with
  | zero => intro _; simp [pst, bodyL]
  | succ i ih =>
    intro hi
    have hx := List.getElem?_eq_getElem (l := L) (i := i) (by omega)
    generalize L[i] = x at hx
    rw [pst_next _ _ _ i x.1 (by rw [List.getElem?_map, hx]; rfl), ih (by omega)]
    have hsplit : L = L.take i ++ x :: L.drop (i + 1) := by
      obtain ⟨hi', rfl⟩ := List.getElem?_eq_some_iff.1 hx
      rw [List.getElem_cons_drop, List.take_append_drop]
    have hbody : H ++ bodyL L ++ R = (H ++ bodyL (L.take i)) ++ putFL x.1 x.2 ++ (bodyL (L.drop (i + 1)) ++ R) := by
      conv => lhs; rw [hsplit]
      unfold bodyL
      rw [List.flatMap_append, List.flatMap_cons]
      simp
    obtain ⟨g1, g2, g3⟩ := gf_back (h x (List.mem_of_getElem? hx)) (H ++ bodyL (L.take i)) (bodyL (L.drop (i + 1)) ++ R) (H.length + (bodyL (L.take i)).length) (by simp)
    rw [← hbody] at g1 g2 g3
    unfold pstep
    simp only [Option.bind_some]
    rw [g1, if_pos rfl, g2, g3, take_snocF hx, bodyL_snoc]
    simp
    omega
set_option maxRecDepth 100000 in
/-- Parse of Encode, with bytes behind it -/
theorem parse_with {m : MsgD} (h : msgOk m = true) (R : List Int) : parseRes (encL m ++ R) = if R = [] then (m, 0) else ((⟨#[]⟩, []), 4) := by
  have hm : mtiOk m.1 = true ∧ listOk m.2 = true := by simpa [msgOk] using h
  have h4 : digs m.1 = true ∧ m.1.size = 4 := by simpa [mtiOk] using hm.1
  have hbo : bcdOk m.1 = true := by simp [bcdOk, h4]
  have hlen : (bcd m.1).length = 2 := by rw [bcd_size hbo, h4.2]
  have he : encL m ++ R = bcd m.1 ++ bitsL m.2 ++ (bodyL m.2 ++ R) := by unfold encL; rw [if_pos h]; simp
  obtain ⟨n1, n2, n3⟩ := nos_back hm.2 (bcd m.1) (bodyL m.2 ++ R) hlen
  obtain ⟨g1, g2, -⟩ := bcd_back hbo [] (bitsL m.2 ++ (bodyL m.2 ++ R))
  rw [h4.2] at g1 g2
  simp only [List.nil_append, List.length_nil] at g1 g2
  rw [← List.append_assoc (bcd m.1)] at g1 g2
  have hp := pst_back (listOk_all hm.2).1 (bcd m.1 ++ bitsL m.2) R m.2.length (Nat.le_refl _)
  rw [List.take_length, List.append_assoc _ (bodyL m.2) R] at hp
  unfold parseRes
  rw [he]
  rw [if_neg (by rw [show ((0 : Nat) : Int) = 0 from rfl, show ((4 : Nat) : Int) = 4 from rfl] at g1; rw [g1]; simp), if_neg (by rw [n1]; simp), n2, n3]
  rw [List.length_map]
  have hc : ((bcd m.1).length : Int) + (bitsL m.2).length = ((bcd m.1 ++ bitsL m.2).length : Int) := by simp
  rw [hc, hp]
  simp only []
  by_cases hR : R = []
  · rw [if_pos hR, if_pos (by rw [hR]; simp only [List.length_append, List.length_nil]; omega)]
    rw [show ((0 : Nat) : Int) = 0 from rfl, show ((4 : Nat) : Int) = 4 from rfl] at g2
    rw [g2, back_str]
  · have := List.length_pos_iff.2 hR
    rw [if_neg hR, if_neg (by simp only [List.length_append]; omega)]
set_option maxRecDepth 100000 in
theorem parse_back {m : MsgD} (h : msgOk m = true) : parseRes (encL m) = (m, 0) := by
  have := parse_with h []
  rwa [List.append_nil, if_pos rfl] at this
end Go.Proofs.YtdjlhijaadombaaDoor
/- WithField's list, of an ascending list: what is below, the new one, what is above. Plain facts; no conditions. -/
set_option linter.unusedVariables false
namespace Go.Proofs.YtdjlhijaadombaaDoor
open Go.ChangeShapes Go.WideShapes Go.ChangeAt Go.RowKit

def asc (l : List FieldD) : Prop := l.Pairwise (fun a b => a.1 < b.1)
def below (no : Int) (l : List FieldD) : List FieldD := l.filter fun x => decide (x.1 < no)
def above (no : Int) (l : List FieldD) : List FieldD := l.filter fun x => decide (no < x.1)
set_option maxRecDepth 100000 in
theorem wfold_true (no : Int) (s : ByteArray) : ∀ (l : List FieldD) (a : List FieldD), l.foldl (wstep no s) (a, true) = (a ++ l.filter (fun x => decide (x.1 ≠ no)), true) := by
  intro l
  induction l with
  | nil => intro a; simp
  | cons x l ih =>
    intro a
    rw [List.foldl_cons]
    have h : wstep no s (a, true) x = if x.1 = no then (a, true) else (a ++ [x], true) := by
      unfold wstep; simp
    rw [h]
    by_cases hx : x.1 = no
    · rw [if_pos hx, ih, List.filter_cons_of_neg (by simp [hx])]
    · rw [if_neg hx, ih, List.filter_cons_of_pos (by simp [hx])]; simp
set_option maxRecDepth 100000 in
theorem all_above {no : Int} {l : List FieldD} (h : ∀ x ∈ l, no < x.1) : below no l = [] ∧ above no l = l ∧ l.filter (fun x => decide (x.1 ≠ no)) = l := by
  refine ⟨List.filter_eq_nil_iff.2 fun x hx => ?_, List.filter_eq_self.2 fun x hx => ?_, List.filter_eq_self.2 fun x hx => ?_⟩
  all_goals have h1 := h x hx
  · simp only [decide_eq_true_eq]; omega
  · simp only [decide_eq_true_eq]; omega
  · simp only [decide_eq_true_eq]; omega
set_option maxRecDepth 100000 in
theorem wfold_false (no : Int) (s : ByteArray) : ∀ (l : List FieldD), asc l → ∀ (a : List FieldD),
    (if (l.foldl (wstep no s) (a, false)).2 = true then (l.foldl (wstep no s) (a, false)).1 else (l.foldl (wstep no s) (a, false)).1 ++ [(no, s)]) = a ++ (below no l ++ (no, s) :: above no l) := by
  intro l
  induction l with
  | nil => intro _ a; simp [below, above]
  | cons x l ih =>
    intro hp a
    obtain ⟨hx, hl⟩ := List.pairwise_cons.1 hp
    rw [List.foldl_cons]
    rcases Int.lt_trichotomy x.1 no with h | h | h
    · have hw : wstep no s (a, false) x = (a ++ [x], false) := by
        unfold wstep
        rw [show decide (no ≤ x.1) = false by simp only [decide_eq_false_iff_not]; omega]
        simp only [Bool.not_false, Bool.and_false, Bool.false_eq_true, if_false]
        rw [if_neg (by omega)]
      rw [hw, ih hl]
      have hb : below no (x :: l) = x :: below no l := List.filter_cons_of_pos (by simpa using h)
      have ha : above no (x :: l) = above no l := List.filter_cons_of_neg (by simp only [decide_eq_true_eq]; omega)
      rw [hb, ha]; simp
    · have hw : wstep no s (a, false) x = (a ++ [(no, s)], true) := by
        unfold wstep
        rw [show decide (no ≤ x.1) = true by simp only [decide_eq_true_eq]; omega]
        simp only [Bool.not_false, Bool.and_true, if_true]
        rw [if_pos h]
      have hg := all_above (no := no) (l := l) (fun y hy => by have := hx y hy; omega)
      rw [hw, wfold_true, hg.2.2]
      have hb : below no (x :: l) = [] := by
        show List.filter _ (x :: l) = []
        rw [List.filter_cons_of_neg (by simp only [decide_eq_true_eq]; omega)]; exact hg.1
      have ha : above no (x :: l) = l := by
        show List.filter _ (x :: l) = l
        rw [List.filter_cons_of_neg (by simp only [decide_eq_true_eq]; omega)]; exact hg.2.1
      rw [hb, ha]; simp
    · have hw : wstep no s (a, false) x = (a ++ [(no, s)] ++ [x], true) := by
        unfold wstep
        rw [show decide (no ≤ x.1) = true by simp only [decide_eq_true_eq]; omega]
        simp only [Bool.not_false, Bool.and_true, if_true]
        rw [if_neg (by omega)]
      have hg := all_above (no := no) (l := l) (fun y hy => by have := hx y hy; omega)
      rw [hw, wfold_true, hg.2.2]
      have hb : below no (x :: l) = [] := by
        show List.filter _ (x :: l) = []
        rw [List.filter_cons_of_neg (by simp only [decide_eq_true_eq]; omega)]; exact hg.1
      have ha : above no (x :: l) = x :: l := by
        show List.filter _ (x :: l) = x :: l
        rw [List.filter_cons_of_pos (by simpa using h)]; exact congrArg _ hg.2.1
      rw [hb, ha]; simp
set_option maxRecDepth 100000 in
theorem withF_asc {l : List FieldD} (h : asc l) (no : Int) (s : ByteArray) : withF no s l = below no l ++ (no, s) :: above no l := by
  have h1 := wfold_false no s l h []
  unfold withF wst
  rw [List.take_length]
  simpa using h1
set_option maxRecDepth 100000 in
theorem mem_below {no : Int} {l : List FieldD} {x : FieldD} : x ∈ below no l ↔ x ∈ l ∧ x.1 < no := by simp [below]
set_option maxRecDepth 100000 in
theorem mem_above {no : Int} {l : List FieldD} {x : FieldD} : x ∈ above no l ↔ x ∈ l ∧ no < x.1 := by simp [above]
set_option maxRecDepth 100000 in
theorem withF_up {l : List FieldD} (h : asc l) (no : Int) (s : ByteArray) : asc (withF no s l) := by
  rw [withF_asc h]
  unfold asc
  rw [List.pairwise_append]
  refine ⟨h.filter _, List.pairwise_cons.2 ⟨fun x hx => (mem_above.1 hx).2, h.filter _⟩, fun x hx y hy => ?_⟩
  have h1 := (mem_below.1 hx).2
  rcases List.mem_cons.1 hy with rfl | hy
  · exact h1
  · exact Int.lt_trans h1 (mem_above.1 hy).2
set_option maxRecDepth 100000 in
theorem withF_mem {l : List FieldD} (h : asc l) (no : Int) (s : ByteArray) (x : FieldD) : x ∈ withF no s l ↔ x = (no, s) ∨ (x ∈ l ∧ x.1 ≠ no) := by
  rw [withF_asc h, List.mem_append, List.mem_cons, mem_below, mem_above]
  constructor
  · rintro (h | h | h)
    · exact Or.inr ⟨h.1, by omega⟩
    · exact Or.inl h
    · exact Or.inr ⟨h.1, by omega⟩
  · rintro (h | h)
    · exact Or.inr (Or.inl h)
    · rcases Int.lt_trichotomy x.1 no with g | g | g
      · exact Or.inl ⟨h.1, g⟩
      · exact absurd g h.2
      · exact Or.inr (Or.inr ⟨h.1, g⟩)
set_option maxRecDepth 100000 in
theorem listOk_of {L : List FieldD} (hf : ∀ x ∈ L, fOk x.1 x.2 = true) (hp : asc L) : listOk L = true := by
  apply listOk_yes
  intro j hj
  unfold stepOk
  rw [getD_of (List.getElem?_eq_getElem hj)]
  rw [hf _ (List.getElem_mem hj)]
  cases j with
  | zero => simp
  | succ j =>
    rw [show j + 1 - 1 = j by omega, getD_of (List.getElem?_eq_getElem (by omega : j < L.length))]
    have := List.pairwise_iff_getElem.1 hp j (j + 1) (by omega) hj (by omega)
    simpa using this
set_option maxRecDepth 100000 in
theorem withMsg_ok {m : MsgD} {no : Int} {s : ByteArray} (h : withOk m no s = true) : msgOk (withMsg m no s) = true := by
  have h0 := h
  unfold withOk at h
  rw [Bool.and_eq_true] at h
  have hm := h.1
  unfold msgOk at hm
  rw [Bool.and_eq_true] at hm
  obtain ⟨hf, hp⟩ := listOk_all hm.2
  unfold withMsg
  rw [if_pos h0]
  unfold msgOk
  rw [Bool.and_eq_true]
  refine ⟨hm.1, listOk_of (fun x hx => ?_) (withF_up hp no s)⟩
  rcases (withF_mem hp no s x).1 hx with rfl | hx
  · exact h.2
  · exact hf x hx.1
end Go.Proofs.YtdjlhijaadombaaDoor
/- A reply's list of fields: it ascends; what lies in it; when the reply is valid. Plain facts; no conditions. -/
set_option linter.unusedVariables false
namespace Go.Proofs.YtdjlhijaadombaaDoor
open Go.ChangeShapes Go.WideShapes Go.ChangeAt Go.RowKit

set_option maxRecDepth 100000 in
/-- two ascending lists with the same fields are one -/
theorem asc_ext : ∀ {l l' : List FieldD}, asc l → asc l' → (∀ x, x ∈ l ↔ x ∈ l') → l = l' := by
  intro l
  induction l with
  | nil =>
    intro l' _ _ h
    cases l' with
    | nil => rfl
    | cons y l' => exact absurd ((h y).2 (List.mem_cons_self ..)) (by simp)
  | cons x l ih =>
    intro l' h1 h2 h
    cases l' with
    | nil => exact absurd ((h x).1 (List.mem_cons_self ..)) (by simp)
    | cons y l' =>
      obtain ⟨hx, hl⟩ := List.pairwise_cons.1 h1
      obtain ⟨hy, hl'⟩ := List.pairwise_cons.1 h2
      have hxy : x = y := by
        rcases List.mem_cons.1 ((h x).1 (List.mem_cons_self ..)) with e | hm
        · exact e
        · rcases List.mem_cons.1 ((h y).2 (List.mem_cons_self ..)) with e | hm'
          · exact e.symm
          · have a := hy x hm
            have b := hx y hm'
            omega
      subst hxy
      rw [ih hl hl' fun z => ?_]
      constructor
      · intro hz
        rcases List.mem_cons.1 ((h z).1 (List.mem_cons_of_mem _ hz)) with rfl | hm
        · exact absurd (hx z hz) (by omega)
        · exact hm
      · intro hz
        rcases List.mem_cons.1 ((h z).2 (List.mem_cons_of_mem _ hz)) with rfl | hm
        · exact absurd (hy z hz) (by omega)
        · exact hm
set_option maxRecDepth 100000 in
theorem rpL_mem {F : Int → ByteArray × Bool} {l : List Int} {x : FieldD} : x ∈ rpL F l ↔ x.1 ∈ l ∧ F x.1 = (x.2, true) := by
  unfold rpL
  rw [List.mem_filterMap]
  constructor
  · rintro ⟨no, hno, h⟩
    by_cases hf : (F no).2 = true
    · rw [if_pos hf, Option.some.injEq] at h
      subst h
      exact ⟨hno, Prod.ext rfl hf⟩
    · rw [if_neg hf] at h; cases h
  · rintro ⟨hno, h⟩
    refine ⟨x.1, hno, ?_⟩
    rw [h]
    simp
set_option maxRecDepth 100000 in
theorem rpL_asc {F : Int → ByteArray × Bool} : ∀ {l : List Int}, l.Pairwise (· < ·) → asc (rpL F l) := by
  intro l
  induction l with
  | nil => intro _; exact List.Pairwise.nil
  | cons no l ih =>
    intro h
    obtain ⟨hx, hl⟩ := List.pairwise_cons.1 h
    have hr : rpL F (no :: l) = if (F no).2 = true then (no, (F no).1) :: rpL F l else rpL F l := by
      unfold rpL
      rw [List.filterMap_cons]
      by_cases hf : (F no).2 = true
      · rw [if_pos hf, if_pos hf]
      · rw [if_neg hf, if_neg hf]
    rw [hr]
    split
    · exact List.pairwise_cons.2 ⟨fun y hy => hx _ (rpL_mem.1 hy).1, ih hl⟩
    · exact ih hl
set_option maxRecDepth 100000 in
theorem rpNos_up : rpNos.Pairwise (· < ·) := by decide
set_option maxRecDepth 100000 in
theorem rp_asc (F : Int → ByteArray × Bool) : asc (rpL F rpNos) := rpL_asc rpNos_up
set_option maxRecDepth 100000 in
theorem rpGood_iff {F : Int → ByteArray × Bool} {l : List Int} : rpGood F l = true ↔ ∀ x ∈ rpL F l, fOk x.1 x.2 = true := by
  unfold rpGood
  rw [List.all_eq_true]
  constructor
  · intro h x hx
    obtain ⟨h1, h2⟩ := rpL_mem.1 hx
    have := h _ h1
    rw [h2] at this
    simpa using this
  · intro h no hno
    cases hf : (F no).2
    · rfl
    · have := h (no, (F no).1) (rpL_mem.2 ⟨hno, Prod.ext rfl hf⟩)
      simpa using this
set_option maxRecDepth 100000 in
/-- the type of a reply is a type -/
theorem replyMti_ok {s : ByteArray} (h : replyMti s ≠ ⟨#[]⟩) : mtiOk (replyMti s) = true := by
  unfold replyMti at h
  split at h
  · next hd =>
    obtain ⟨a, b, c, d, rfl⟩ := four hd.2
    by_cases ho : c.toNat % 2 = 1
    · exact absurd (if_pos ho) h
    · have hr : replyMti ⟨#[a, b, c, d]⟩ = ⟨#[a, b, c + 1, d]⟩ := by
        unfold replyMti
        rw [if_pos hd]
        exact if_neg ho
      have g0 := digs_get hd.1 0 (by rw [hd.2]; decide)
      have g1 := digs_get hd.1 1 (by rw [hd.2]; decide)
      have g2 := digs_get hd.1 2 (by rw [hd.2]; decide)
      have g3 := digs_get hd.1 3 (by rw [hd.2]; decide)
      rw [hr]
      have e0 : (48 ≤ a.toNat ∧ a.toNat ≤ 57) := g0
      have e1 : (48 ≤ b.toNat ∧ b.toNat ≤ 57) := g1
      have e2 : (48 ≤ c.toNat ∧ c.toNat ≤ 57) := g2
      have e3 : (48 ≤ d.toNat ∧ d.toNat ≤ 57) := g3
      have ec : (c + 1).toNat = c.toNat + 1 := by
        rw [UInt8.toNat_add]
        have : (1 : UInt8).toNat = 1 := rfl
        omega
      have hall : digs ⟨#[a, b, c + 1, d]⟩ = true := by
        unfold digs
        simp only [Bool.and_eq_true, decide_eq_true_eq, List.all_eq_true]
        refine ⟨show 0 < 4 by decide, ?_⟩
        intro z hz
        have hz' : z = a ∨ z = b ∨ z = c + 1 ∨ z = d := by simpa using hz
        rw [isDig_iff]
        rcases hz' with rfl | rfl | rfl | rfl <;> omega
      unfold mtiOk
      rw [hall]
      rfl
  · exact absurd rfl h
set_option maxRecDepth 100000 in
/-- a reply is valid just if its fields are -/
theorem reply_valid {s : ByteArray} (F : Int → ByteArray × Bool) (h : replyMti s ≠ ⟨#[]⟩) : msgOk (replyMti s, rpL F rpNos) = rpGood F rpNos := by
  have hm := replyMti_ok h
  rw [Bool.eq_iff_iff]
  unfold msgOk
  rw [Bool.and_eq_true, rpGood_iff]
  constructor
  · rintro ⟨-, h2⟩
    exact (listOk_all h2).1
  · intro h2
    exact ⟨hm, listOk_of h2 (rp_asc F)⟩
end Go.Proofs.YtdjlhijaadombaaDoor
/- What is found in a message's list after WithField and WithoutField. Plain facts; no conditions. -/
set_option linter.unusedVariables false
namespace Go.Proofs.YtdjlhijaadombaaDoor
open Go.ChangeShapes Go.WideShapes Go.ChangeAt Go.RowKit

set_option maxRecDepth 100000 in
theorem asc_one {l : List FieldD} (h : asc l) {x y : FieldD} (hx : x ∈ l) (hy : y ∈ l) (he : x.1 = y.1) : x = y := by
  obtain ⟨i, hi, rfl⟩ := List.mem_iff_getElem.1 hx
  obtain ⟨j, hj, rfl⟩ := List.mem_iff_getElem.1 hy
  have hp := List.pairwise_iff_getElem.1 h
  rcases Nat.lt_trichotomy i j with g | g | g
  · have := hp i j hi hj g; omega
  · subst g; rfl
  · have := hp j i hj hi g; omega
set_option maxRecDepth 100000 in
theorem fld_of {l : List FieldD} (h : asc l) {x : FieldD} (hx : x ∈ l) : fldHas l x.1 = true ∧ fldTxt l x.1 = x.2 := by
  constructor
  · unfold fldHas; rw [List.any_eq_true]; exact ⟨x, hx, by simp⟩
  · unfold fldTxt
    cases hf : l.find? (fun y => decide (y.1 = x.1)) with
    | none => exact absurd (List.find?_eq_none.1 hf x hx) (by simp)
    | some y =>
      have h1 := List.mem_of_find?_eq_some hf
      have h2 := List.find?_some hf
      rw [asc_one h h1 hx (by simpa using h2)]; rfl
set_option maxRecDepth 100000 in
theorem fld_no {l : List FieldD} {n : Int} (h : ∀ x ∈ l, x.1 ≠ n) : fldHas l n = false ∧ fldTxt l n = ⟨#[]⟩ :=
  find_none fun j y hj hy => h y (List.mem_of_getElem? hy)
set_option maxRecDepth 100000 in
theorem fld_same {l l' : List FieldD} (h : asc l) (h' : asc l') {n : Int} (he : ∀ x, x.1 = n → (x ∈ l ↔ x ∈ l')) : fldHas l n = fldHas l' n ∧ fldTxt l n = fldTxt l' n := by
  by_cases hx : ∃ x ∈ l, x.1 = n
  · obtain ⟨x, hx, rfl⟩ := hx
    have h1 := fld_of h hx
    have h2 := fld_of h' ((he x rfl).1 hx)
    rw [h1.1, h1.2, h2.1, h2.2]; exact ⟨rfl, rfl⟩
  · have h0 : ∀ x ∈ l, x.1 ≠ n := fun x g e => hx ⟨x, g, e⟩
    have h1 := fld_no h0
    have h2 := fld_no (l := l') (n := n) (fun x g e => h0 x ((he x e).2 g) e)
    rw [h1.1, h1.2, h2.1, h2.2]; exact ⟨rfl, rfl⟩
set_option maxRecDepth 100000 in
theorem with_found {l : List FieldD} (h : asc l) (no : Int) (s : ByteArray) : fldHas (withF no s l) no = true ∧ fldTxt (withF no s l) no = s :=
  fld_of (x := (no, s)) (withF_up h no s) ((withF_mem h no s _).2 (Or.inl rfl))
set_option maxRecDepth 100000 in
theorem with_other {l : List FieldD} (h : asc l) (no : Int) (s : ByteArray) {n : Int} (hn : n ≠ no) : fldHas (withF no s l) n = fldHas l n ∧ fldTxt (withF no s l) n = fldTxt l n :=
  fld_same (withF_up h no s) h fun x hx => by
    rw [withF_mem h no s x]
    constructor
    · rintro (e | e)
      · rw [e] at hx; exact absurd hx.symm hn
      · exact e.1
    · intro e; exact Or.inr ⟨e, fun g => hn (by rw [← hx, g])⟩
set_option maxRecDepth 100000 in
theorem without_up {l : List FieldD} (h : asc l) (no : Int) : asc (withoutL l no) := List.Pairwise.filter _ h
set_option maxRecDepth 100000 in
theorem without_mem {l : List FieldD} {no : Int} {x : FieldD} : x ∈ withoutL l no ↔ x ∈ l ∧ x.1 ≠ no := by simp [withoutL]
set_option maxRecDepth 100000 in
theorem without_gone (l : List FieldD) (no : Int) : fldHas (withoutL l no) no = false ∧ fldTxt (withoutL l no) no = ⟨#[]⟩ :=
  fld_no fun x hx => (without_mem.1 hx).2
set_option maxRecDepth 100000 in
theorem without_other {l : List FieldD} (h : asc l) {no n : Int} (hn : n ≠ no) : fldHas (withoutL l no) n = fldHas l n ∧ fldTxt (withoutL l no) n = fldTxt l n :=
  fld_same (without_up h no) h fun x hx => by
    rw [without_mem]
    exact ⟨fun e => e.1, fun e => ⟨e, fun g => hn (by rw [← hx, g])⟩⟩
set_option maxRecDepth 100000 in
theorem without_ok {m : MsgD} (no : Int) (h : msgOk m = true) : msgOk (m.1, withoutL m.2 no) = true := by
  unfold msgOk at h ⊢
  rw [Bool.and_eq_true] at h ⊢
  obtain ⟨hf, hp⟩ := listOk_all h.2
  exact ⟨h.1, listOk_of (fun x hx => hf x (without_mem.1 hx).1) (without_up hp no)⟩
set_option maxRecDepth 100000 in
theorem split_no {l : List FieldD} (h : asc l) (no : Int) : withoutL l no = below no l ++ above no l := by
  induction l with
  | nil => rfl
  | cons x l ih =>
    obtain ⟨hx, hl⟩ := List.pairwise_cons.1 h
    rcases Int.lt_trichotomy x.1 no with g | g | g
    · have h1 : withoutL (x :: l) no = x :: withoutL l no := List.filter_cons_of_pos (by simp only [decide_eq_true_eq]; omega)
      have h2 : below no (x :: l) = x :: below no l := List.filter_cons_of_pos (by simpa using g)
      have h3 : above no (x :: l) = above no l := List.filter_cons_of_neg (by simp only [decide_eq_true_eq]; omega)
      rw [h1, h2, h3, ih hl]; rfl
    · have hg := all_above (no := no) (l := l) (fun y hy => by have := hx y hy; omega)
      have h1 : withoutL (x :: l) no = withoutL l no := List.filter_cons_of_neg (by simp only [decide_eq_true_eq]; omega)
      have h2 : below no (x :: l) = below no l := List.filter_cons_of_neg (by simp only [decide_eq_true_eq]; omega)
      have h3 : above no (x :: l) = above no l := List.filter_cons_of_neg (by simp only [decide_eq_true_eq]; omega)
      rw [h1, h2, h3, ih hl]
    · have hg := all_above (no := no) (l := x :: l) (fun y hy => by
        rcases List.mem_cons.1 hy with rfl | hy
        · exact g
        · have := hx y hy; omega)
      rw [hg.1, hg.2.1]; exact hg.2.2
set_option maxRecDepth 100000 in
theorem without_with {l : List FieldD} (h : asc l) (no : Int) (s : ByteArray) : withoutL (withF no s l) no = withoutL l no := by
  rw [split_no h, withF_asc h]
  unfold withoutL
  rw [List.filter_append, List.filter_cons_of_neg (by simp)]
  congr 1
  · exact List.filter_eq_self.2 fun x hx => by have := (mem_below.1 hx).2; simp only [decide_eq_true_eq]; omega
  · exact List.filter_eq_self.2 fun x hx => by have := (mem_above.1 hx).2; simp only [decide_eq_true_eq]; omega
end Go.Proofs.YtdjlhijaadombaaDoor
/- Maps from numbers to texts: what one holds, its keys collected and sorted, a look-up. No conditions. -/
set_option linter.unusedVariables false
namespace Go.Proofs.YtdjlhijaadombaaDoor
open Go.ChangeShapes Go.WideShapes Go.ChangeAt Go.RowKit
open Go.Maps (Keyed IsMap)

/-- the map as read holds just the pairs of the list -/
structure mapIs (D : DataW Unit) (L : List FieldD) : Prop where
  isMap : IsMap D
  has_ : ∀ k : Int, Maps.has D (.int .i64 k) = fldHas L k
  at_ : ∀ x ∈ L, ∀ z, D.atKey (.int .i64 x.1) z = .lit (.string x.2.data.toList)
set_option maxRecDepth 100000 in
theorem mapIs.start : mapIs (.map [] : DataW Unit) [] := ⟨Maps.isMap_empty, fun k => rfl, fun x hx => absurd hx (by simp)⟩
set_option maxRecDepth 100000 in
theorem keyLit (k : Int) : WideAt.IsKeyLit (.int .i64 k) := by simp [WideAt.IsKeyLit]
set_option maxRecDepth 100000 in
theorem lit_ne {a b : Int} (h : a ≠ b) : (Lit.int .i64 a) ≠ .int .i64 b := fun e => h (by cases e; rfl)
set_option maxRecDepth 100000 in
/-- a pair with a new key comes behind -/
theorem mapIs.snoc {D : DataW Unit} {L : List FieldD} (h : mapIs D L) {x : FieldD} (hx : ∀ y ∈ L, y.1 ≠ x.1) : mapIs (D.put (.int .i64 x.1) (.lit (.string x.2.data.toList))) (L ++ [x]) := by
  refine ⟨h.isMap.put _ _, fun k => ?_, fun y hy z => ?_⟩
  · unfold fldHas
    rw [List.any_append]
    by_cases e : k = x.1
    · subst e
      rw [Maps.has_put_same h.isMap (keyLit _)]
      simp
    · rw [Maps.has_put_other (lit_ne e), h.has_ k]
      have : ¬ x.1 = k := fun g => e g.symm
      simp [fldHas, this]
  · rcases List.mem_append.1 hy with hy | hy
    · rw [Maps.atKey_put_other (lit_ne (hx y hy))]
      exact h.at_ y hy z
    · obtain rfl : y = x := by simpa using hy
      exact Maps.atKey_put_same h.isMap (keyLit _) _ _
set_option maxRecDepth 100000 in
/-- a pair is put; the list is any that holds the same -/
theorem mapIs.put {D : DataW Unit} {L L' : List FieldD} (h : mapIs D L) (no : Int) (s : ByteArray) (hm : ∀ x, x ∈ L' ↔ x = (no, s) ∨ (x ∈ L ∧ x.1 ≠ no)) : mapIs (D.put (.int .i64 no) (.lit (.string s.data.toList))) L' := by
  refine ⟨h.isMap.put _ _, fun k => ?_, fun y hy z => ?_⟩
  · rw [Bool.eq_iff_iff]
    by_cases e : k = no
    · subst e
      rw [Maps.has_put_same h.isMap (keyLit _)]
      unfold fldHas
      rw [List.any_eq_true]
      exact ⟨fun _ => ⟨(k, s), (hm _).2 (Or.inl rfl), by simp⟩, fun _ => rfl⟩
    · rw [Maps.has_put_other (lit_ne e), h.has_ k]
      unfold fldHas
      rw [List.any_eq_true, List.any_eq_true]
      constructor
      · rintro ⟨x, hx, hk⟩
        have hk' : x.1 = k := by simpa using hk
        exact ⟨x, (hm x).2 (Or.inr ⟨hx, fun g => e (by rw [← hk', g])⟩), hk⟩
      · rintro ⟨x, hx, hk⟩
        have hk' : x.1 = k := by simpa using hk
        rcases (hm x).1 hx with rfl | hx
        · exact absurd hk'.symm e
        · exact ⟨x, hx.1, hk⟩
  · rcases (hm y).1 hy with rfl | hy
    · exact Maps.atKey_put_same h.isMap (keyLit _) _ _
    · rw [Maps.atKey_put_other (lit_ne hy.2)]
      exact h.at_ y hy.1 z
/-- the keys met so far -/
def metI (D : DataW Unit) (left : Lit → Bool) (zs : List Int) : Prop := zs.Nodup ∧ ∀ x, x ∈ zs ↔ (Maps.has D (.int .i64 x) = true ∧ left (.int .i64 x) = false)
set_option maxRecDepth 100000 in
theorem metI.start (D : DataW Unit) : metI D (Maps.has D) [] := ⟨List.nodup_nil, fun x => ⟨fun h => absurd h (by simp), fun h => by rw [h.1] at h; exact absurd h.2 (by simp)⟩⟩
set_option maxRecDepth 100000 in
theorem metI.step {D d : DataW Unit} {left : Lit → Bool} {zs : List Int} {x : Int} (h : metI D left zs) (hl : left (.int .i64 x) = true) (hat : ∀ zd, D.atKey (.int .i64 x) zd = d) :
    metI D (fun z => left z && !z.sameKey (.int .i64 x)) (zs ++ [x]) := by
  have hn : x ∉ zs := fun hx => by rw [((h.2 x).1 hx).2] at hl; cases hl
  refine ⟨?_, fun y => ?_⟩
  · rw [List.nodup_append]
    exact ⟨h.1, by simp, fun a ha b hb e => hn (by rw [List.mem_singleton.1 hb] at e; rw [← e]; exact ha)⟩
  · rw [List.mem_append, List.mem_singleton, h.2 y]
    by_cases e : y = x
    · subst e
      show _ ↔ _ ∧ (left (.int .i64 y) && !(Lit.int .i64 y).sameKey (.int .i64 y)) = false
      rw [WideAt.sameKey_self (keyLit _)]
      exact ⟨fun _ => ⟨Maps.has_true_of_atKey hat, by simp⟩, fun _ => Or.inr rfl⟩
    · show _ ↔ _ ∧ (left (.int .i64 y) && !(Lit.int .i64 y).sameKey (.int .i64 x)) = false
      rw [Maps.sameKey_ne (lit_ne e)]
      simp [e]
set_option maxRecDepth 100000 in
theorem asc_keys {L : List FieldD} (h : asc L) : (L.map (·.1)).Pairwise (fun a b => a < b) := by
  rw [List.pairwise_map]; exact h
set_option maxRecDepth 100000 in
theorem mem_has {L : List FieldD} {k : Int} : k ∈ L.map (·.1) ↔ fldHas L k = true := by
  unfold fldHas
  rw [List.any_eq_true, List.mem_map]
  exact ⟨fun ⟨x, hx, he⟩ => ⟨x, hx, by simpa using he⟩, fun ⟨x, hx, he⟩ => ⟨x, hx, by simpa using he⟩⟩
set_option maxRecDepth 100000 in
/-- sorted, the keys are the list's own -/
theorem sorted_keys {L : List FieldD} (h : asc L) {zs : List Int} (hn : zs.Nodup) (hm : ∀ x, x ∈ zs ↔ fldHas L x = true) : zs.mergeSort (fun x y => decide (x ≤ y)) = L.map (·.1) := by
  have hk := asc_keys h
  have hnd : (L.map (·.1)).Nodup := hk.imp (fun {a b} hab e => by omega)
  have hp : zs.Perm (L.map (·.1)) := (List.perm_ext_iff_of_nodup hn hnd).2 fun x => by rw [hm x, mem_has]
  have tr : ∀ a b c : Int, decide (a ≤ b) = true → decide (b ≤ c) = true → decide (a ≤ c) = true := fun a b c h1 h2 => by simp only [decide_eq_true_eq] at *; omega
  have tl : ∀ a b : Int, (decide (a ≤ b) || decide (b ≤ a)) = true := fun a b => by simp only [Bool.or_eq_true, decide_eq_true_eq]; omega
  refine List.Perm.eq_of_pairwise (le := fun a b => decide (a ≤ b) = true) (fun a b _ _ h1 h2 => ?_) (List.pairwise_mergeSort tr tl zs) (hk.imp fun {a b} hab => by simp only [decide_eq_true_eq]; omega) ((List.mergeSort_perm zs _).trans hp)
  simp only [decide_eq_true_eq] at h1 h2
  omega
set_option maxRecDepth 100000 in
/-- the look-up of a text, at the operation -/
theorem look_text {H : Type} {P : Program} (w : World) {ops : Array Oper} {rest : List Oper} {o : Oper} {a : Act} {Q : Exit → Act → World → Prop}
    (hg : o.guard = none) (m x : Operand) (t : TypeId) (hop : o.op = Op.lookup t m x false)
    (k e : TypeId) (K : Keyed P k) (ht : P.underlying t = some (.map k e)) (he : P.underlying e = some .string) (hz : (zeroValue e).run P w = .ok (.string ⟨#[]⟩) w) (b n : Nat) (D : DataW H)
    (hm : a.eval m = .map (some b)) (hown : w.ownsMap P k (plainElem P e) b n D) (key : Value) (kl : Lit) (hx : a.eval x = key) (hkey : keyOf P k key = some kl) (s : ByteArray) (hat : ∀ z, D.atKey kl z = .lit (.string s.data.toList))
    (hK : wpList P ops Q rest (a.put o.dst (.string s)) w) :
    wpList P ops Q (o :: rest) a w := by
  refine wpList_plain hg fun K' hK' => ?_
  obtain ⟨v, ps, hrun, hv⟩ := hown.lookup K ht hz (plainElem_string he (s := ⟨#[]⟩) (Nat.zero_le _)) hkey
  obtain ⟨c, rfl, hc, hwc⟩ := plainElem_string_inv he hv
  rw [hat] at hc
  simp only [Prod.mk.injEq] at hc
  obtain rfl : c = s := by
    have := hc.1
    simp only [DataW.lit.injEq, Lit.string.injEq] at this
    exact ByteArray.ext (Array.toList_inj.1 this.symm)
  unfold Oper.wp
  simp [execOp, hop, hm, hx, hrun, Result.andThen]
  exact hK' _ _ hK
set_option maxRecDepth 100000 in
/-- .. as an equation -/
theorem look_run {H : Type} {P : Program} {w : World} {t k e : TypeId} (K : Keyed P k) (ht : P.underlying t = some (.map k e)) (he : P.underlying e = some .string) (hz : (zeroValue e).run P w = .ok (.string ⟨#[]⟩) w) {b n : Nat} {D : DataW H}
    (hown : w.ownsMap P k (plainElem P e) b n D) {key : Value} {kl : Lit} (hkey : keyOf P k key = some kl) {s : ByteArray} (hat : ∀ z, D.atKey kl z = .lit (.string s.data.toList)) :
    (Instr.lookup t (.map (some b)) key false).run P w = .ok (.string s) w := by
  obtain ⟨v, ps, hrun, hv⟩ := hown.lookup K ht hz (plainElem_string he (s := ⟨#[]⟩) (Nat.zero_le _)) hkey
  obtain ⟨c, rfl, hc, hwc⟩ := plainElem_string_inv he hv
  rw [hat] at hc
  simp only [Prod.mk.injEq] at hc
  obtain rfl : c = s := by
    have := hc.1
    simp only [DataW.lit.injEq, Lit.string.injEq] at this
    exact ByteArray.ext (Array.toList_inj.1 this.symm)
  exact hrun
/-- a key of Go's int -/
def isI64 (k : Int) : Prop := (Lit.int .i64 k).wf = true
set_option maxRecDepth 100000 in
theorem ownsMap_below {H : Type} {P : Program} {k : TypeId} {R : Value → Option (DataW H × List MemPlace)} {w w' : World} {b n C : Nat} {D : DataW H} (h : w.ownsMap P k R b n D) (hb : Below C w w') (hC : b < C) : w'.ownsMap P k R b n D := by
  obtain ⟨es, clock, h1, rest⟩ := h
  exact ⟨es, clock, (hb.block b hC).trans h1, rest⟩
end Go.Proofs.YtdjlhijaadombaaDoor
/- A reply's fields as the program gathers them: the same as the reference's list. Plain facts; no conditions. -/
set_option linter.unusedVariables false
namespace Go.Proofs.YtdjlhijaadombaaDoor
open Go.ChangeShapes Go.WideShapes Go.ChangeAt Go.RowKit

/-- the fields that a reply takes over -/
def isRep (no : Int) : Bool := decide (no = 2) || decide (no = 102) || decide (no = 103) || decide (no = 3) || decide (no = 4) || decide (no = 49) || decide (no = 7) || decide (no = 11) || decide (no = 37) || decide (no = 41)
set_option maxRecDepth 100000 in
theorem isRep_iff {no : Int} : isRep no = true ↔ (no ∈ rpNos ∧ no ≠ 38 ∧ no ≠ 39 ∧ no ≠ 54) := by
  unfold isRep rpNos
  simp only [Bool.or_eq_true, decide_eq_true_eq, List.mem_cons, List.not_mem_nil, or_false]
  omega
def repL (l : List FieldD) : List FieldD := l.filter fun x => isRep x.1
set_option maxRecDepth 100000 in
theorem repL_yes {l : List FieldD} {x : FieldD} (h : isRep x.1 = true) : repL (l ++ [x]) = repL l ++ [x] := by
  unfold repL; rw [List.filter_append]; simp [h]
set_option maxRecDepth 100000 in
theorem repL_no {l : List FieldD} {x : FieldD} (h : isRep x.1 = false) : repL (l ++ [x]) = repL l := by
  unfold repL; rw [List.filter_append]; simp [h]
set_option maxRecDepth 100000 in
theorem repL_len (l : List FieldD) : (repL l).length ≤ l.length := List.length_filter_le _ _
set_option maxRecDepth 100000 in
theorem repL_mem {l : List FieldD} {x : FieldD} : x ∈ repL l ↔ x ∈ l ∧ isRep x.1 = true := by unfold repL; exact List.mem_filter
set_option maxRecDepth 100000 in
theorem repL_no39 {l : List FieldD} {n : Int} (hn : isRep n = false) : ∀ x ∈ repL l, x.1 ≠ n := by
  intro x hx e
  have := (repL_mem.1 hx).2
  rw [e, hn] at this
  cases this
set_option maxRecDepth 100000 in
theorem fld_iff {l : List FieldD} (h : asc l) {x : FieldD} : (fldHas l x.1 = true ∧ fldTxt l x.1 = x.2) ↔ x ∈ l := by
  constructor
  · rintro ⟨h1, h2⟩
    by_cases hm : ∃ y ∈ l, y.1 = x.1
    · obtain ⟨y, hy, he⟩ := hm
      have := (fld_of h hy).2
      rw [he, h2] at this
      obtain ⟨a, b⟩ := x
      obtain ⟨c, d⟩ := y
      simp only at he this
      subst he this
      exact hy
    · have := (fld_no (l := l) (n := x.1) fun y hy he => hm ⟨y, hy, he⟩).1
      rw [this] at h1; cases h1
  · intro hx
    exact fld_of h hx
def holdL (code : Int) (hold : ByteArray) : List FieldD := if code = 0 ∧ hold ≠ ⟨#[]⟩ then [(38, fitRes 38 hold)] else []
def toldL (told : ByteArray) : List FieldD := if told ≠ ⟨#[]⟩ then [(54, told)] else []
/-- what the program puts into its map -/
def putL (m : MsgD) (code : Int) (hold told : ByteArray) : List FieldD := ([(39, rsText code)] ++ repL m.2 ++ holdL code hold) ++ toldL told
set_option maxRecDepth 100000 in
theorem putL_mem {m : MsgD} (h : asc m.2) (code : Int) (hold told : ByteArray) (x : FieldD) : x ∈ rpL (rpF m code hold told) rpNos ↔ x ∈ putL m code hold told := by
  rw [rpL_mem]
  unfold putL
  rw [List.mem_append, List.mem_append, List.mem_append, List.mem_singleton, repL_mem, isRep_iff]
  have h38 : (38 : Int) ∈ rpNos := by decide
  have h39 : (39 : Int) ∈ rpNos := by decide
  have h54 : (54 : Int) ∈ rpNos := by decide
  have hH : x ∈ holdL code hold ↔ x = (38, fitRes 38 hold) ∧ code = 0 ∧ hold ≠ ⟨#[]⟩ := by
    unfold holdL
    split
    · next c => rw [List.mem_singleton]; exact ⟨fun e => ⟨e, c⟩, fun e => e.1⟩
    · next c => exact ⟨fun e => absurd e (by simp), fun e => absurd e.2 c⟩
  have hT : x ∈ toldL told ↔ x = (54, told) ∧ told ≠ ⟨#[]⟩ := by
    unfold toldL
    split
    · next c => rw [List.mem_singleton]; exact ⟨fun e => ⟨e, c⟩, fun e => e.1⟩
    · next c => exact ⟨fun e => absurd e (by simp), fun e => absurd e.2 c⟩
  rw [hH, hT]
  obtain ⟨no, s⟩ := x
  by_cases e1 : no = 38
  · subst e1
    have : rpF m code hold told 38 = (fitRes 38 hold, decide (code = 0) && decide (hold ≠ ⟨#[]⟩)) := by unfold rpF; rw [if_pos rfl]
    rw [this]
    simp [h38]
    exact fun _ _ => eq_comm
  by_cases e2 : no = 39
  · subst e2
    have : rpF m code hold told 39 = (rsText code, true) := by unfold rpF; rw [if_neg (by decide), if_pos rfl]
    rw [this]
    simp [h39]
    exact ⟨fun a => a.symm, fun a => a.symm⟩
  by_cases e3 : no = 54
  · subst e3
    have : rpF m code hold told 54 = (told, decide (told ≠ ⟨#[]⟩)) := by unfold rpF; rw [if_neg (by decide), if_neg (by decide), if_pos rfl]
    rw [this]
    simp [h54]
    exact fun _ => eq_comm
  · have : rpF m code hold told no = (fldTxt m.2 no, fldHas m.2 no) := by unfold rpF; rw [if_neg e1, if_neg e2, if_neg e3]
    have hf := fld_iff h (x := (no, s))
    simp only at hf
    simp only [this, Prod.mk.injEq]
    constructor
    · rintro ⟨a, b, c⟩; exact Or.inl (Or.inl (Or.inr ⟨hf.1 ⟨c, b⟩, a, e1, e2, e3⟩))
    · rintro (((⟨a, b⟩ | ⟨a, b, c⟩) | ⟨⟨a, b⟩, c⟩) | ⟨⟨a, b⟩, c⟩)
      · exact absurd a e2
      · exact ⟨b, (hf.2 a).2, (hf.2 a).1⟩
      · exact absurd a e1
      · exact absurd a e3
set_option maxRecDepth 100000 in
/-- a map holds what any list with the same pairs says -/
theorem mapIs.same {D : DataW Unit} {L L' : List FieldD} (h : mapIs D L) (hm : ∀ x, x ∈ L' ↔ x ∈ L) : mapIs D L' := by
  refine ⟨h.isMap, fun k => ?_, fun x hx z => h.at_ x ((hm x).1 hx) z⟩
  rw [h.has_ k, Bool.eq_iff_iff, ← mem_has, ← mem_has]
  simp only [List.mem_map]
  exact ⟨fun ⟨x, hx, he⟩ => ⟨x, (hm x).2 hx, he⟩, fun ⟨x, hx, he⟩ => ⟨x, (hm x).1 hx, he⟩⟩
set_option maxRecDepth 100000 in
theorem putL_new38 {m : MsgD} {code : Int} : ∀ y ∈ [(39, rsText code)] ++ repL m.2, y.1 ≠ 38 := by
  intro y hy
  rcases List.mem_append.1 hy with h | h
  · rw [List.mem_singleton.1 h]; first | exact (by decide : (39 : Int) ≠ 38) | exact (by decide : (39 : Int) ≠ 54) | exact (by decide : (38 : Int) ≠ 54)
  · exact repL_no39 (by decide) y h
set_option maxRecDepth 100000 in
theorem putL_new54 {m : MsgD} {code : Int} {hold : ByteArray} : ∀ y ∈ [(39, rsText code)] ++ repL m.2 ++ holdL code hold, y.1 ≠ 54 := by
  intro y hy
  rcases List.mem_append.1 hy with h | h
  · rcases List.mem_append.1 h with h | h
    · rw [List.mem_singleton.1 h]; first | exact (by decide : (39 : Int) ≠ 38) | exact (by decide : (39 : Int) ≠ 54) | exact (by decide : (38 : Int) ≠ 54)
    · exact repL_no39 (by decide) y h
  · unfold holdL at h
    split at h
    · rw [List.mem_singleton.1 h]; first | exact (by decide : (39 : Int) ≠ 38) | exact (by decide : (39 : Int) ≠ 54) | exact (by decide : (38 : Int) ≠ 54)
    · exact absurd h (by simp)
set_option maxRecDepth 100000 in
theorem putL_newx {l : List FieldD} {code : Int} {i : Nat} {x : FieldD} (h : asc l) (hx : l[i]? = some x) (hr : isRep x.1 = true) : ∀ y ∈ [(39, rsText code)] ++ repL (l.take i), y.1 ≠ x.1 := by
  intro y hy
  rcases List.mem_append.1 hy with h' | h'
  · rw [List.mem_singleton.1 h']
    have := (isRep_iff.1 hr).2.2.1
    exact fun e => this e.symm
  · have hy' := (repL_mem.1 h').1
    obtain ⟨hi, rfl⟩ := List.getElem?_eq_some_iff.1 hx
    obtain ⟨j, hj, rfl⟩ := List.mem_iff_getElem.1 hy'
    rw [List.length_take] at hj
    rw [List.getElem_take]
    have := List.pairwise_iff_getElem.1 h j i (by omega) hi (by omega)
    omega
set_option maxRecDepth 100000 in
/-- the answer: the reply if it is valid -/
theorem mtiOk_empty : mtiOk ⟨#[]⟩ = false := by decide
set_option maxRecDepth 100000 in
theorem fOk39 : fOk 39 ⟨#[]⟩ = false := by decide +kernel
set_option maxRecDepth 100000 in
theorem reply_res {m : MsgD} (hm : msgOk m = true) (code : Int) (hold told : ByteArray) :
    replyRes m code hold told = if msgOk (replyMti m.1, rpL (rpF m code hold told) rpNos) = true then ((replyMti m.1, rpL (rpF m code hold told) rpNos), true) else ((⟨#[]⟩, []), false) := by
  unfold replyRes
  by_cases h1 : replyMti m.1 = ⟨#[]⟩
  · rw [if_neg (by rintro ⟨⟨-, h, -⟩, -⟩; exact h h1), if_neg]
    rw [h1]
    unfold msgOk
    rw [mtiOk_empty]
    simp
  · rw [reply_valid _ h1]
    by_cases h2 : rsText code = ⟨#[]⟩
    · rw [if_neg (by rintro ⟨⟨-, -, h⟩, -⟩; exact h h2), if_neg]
      rw [rpGood_iff]
      intro h
      have := h (39, rsText code) (rpL_mem.2 ⟨by show (39 : Int) ∈ rpNos; decide, by show rpF m code hold told 39 = _; unfold rpF; rw [if_neg (by decide), if_pos rfl]⟩)
      rw [h2] at this
      have h3 := fOk39
      rw [show fOk 39 ⟨#[]⟩ = true from this] at h3
      cases h3
    · by_cases h3 : rpGood (rpF m code hold told) rpNos = true
      · rw [if_pos ⟨⟨hm, h1, h2⟩, h3⟩, if_pos h3]
      · rw [if_neg (fun h => h3 h.2), if_neg h3]
end Go.Proofs.YtdjlhijaadombaaDoor
