/- PutField of both; the table of powers of ten lies as Go's text lays it. -/
import Derived.Test.YtkkbhlaakhkjnaaDoorFieldOk
import Derived.Test.YtkkbhlaakhkjnaaDoorLen
import Derived.Test.YtkkbhlaakhkjnaaDoorAppAll
import Derived.Test.YtkkbhlaakhkjnaaDoorConvB
import Derived.Test.YtkkbhlaakhkjnaaDoorTxt
set_option linter.unusedVariables false
namespace Go.Proofs.YtkkbhlaakhkjnaaDoor
open Go.ChangeShapes Go.WideShapes Go.ChangeAt Go.RowKit

def fWidth (kd : Int) : Int := if kd = 3 ∨ kd = 4 then 2 else if kd = 5 then 3 else 0
/-- what PutField encodes of a content that fits -/
def putBody (kd : Int) (s : ByteArray) : List Int :=
  if kd = 1 then bcd s else if kd = 2 then bytesL s else if kd = 3 then putLen s.size 2 ++ bcd s else if kd = 4 then putLen s.size 2 ++ bytesL s else putLen s.size 3 ++ bytesL s
def putFL (no : Int) (s : ByteArray) : List Int := if fOk no s = true then putBody (fKind no) s else []
def resF (L : List Int) (ok : Bool) (w : World) (e : Ending) (w' : World) : Prop := ∃ v, e = .returned (.tuple #[v, .bool ok]) ∧ nums .u8 w.heap.size w'.heap.size w' v L ∧ Below w.heap.size w w'
set_option maxRecDepth 100000 in
theorem resF_no {w w' : World} (hb : Below w.heap.size w w') : resF [] false w (.returned (.tuple #[.slice none 0 0, .bool false])) w' := ⟨_, rfl, nums_none _ _ _ _, hb⟩
set_option maxRecDepth 100000 in
theorem resF_to {L L' : List Int} {ok ok' : Bool} {w w' : World} {e : Ending} (h : resF L ok w e w') (hL : L = L') (ho : ok = ok') : resF L' ok' w e w' := by subst hL; subst ho; exact h
set_option maxRecDepth 100000 in
theorem kind_size (no : Int) : (fKind no = 1 → fSize no ≤ 12) ∧ (fKind no = 2 → fSize no ≤ 12) ∧ (fKind no = 3 → fSize no ≤ 19) ∧ (fKind no = 4 → fSize no ≤ 20) ∧ fSize no ≤ 60 := by
  unfold fKind fSize
  repeat' (split <;> try omega)
set_option maxRecDepth 100000 in
theorem fOk_size {no : Int} {s : ByteArray} (h : fOk no s = true) : s.size ≤ 60 ∧ (fKind no = 1 → digs s = true ∧ s.size ≤ 12) ∧ (fKind no = 3 → digs s = true ∧ s.size ≤ 19) ∧ fKind no ≠ 0 ∧ 0 < s.size ∨ fKind no = 2 ∧ s.size ≤ 60 := by
  obtain ⟨z1, z2, z3, z4, z5⟩ := kind_size no
  unfold fOk okBy at h
  rcases kind_cases no with e | e | e | e | e | e
  · simp [e] at h
  · rw [if_pos e] at h
    simp only [Bool.and_eq_true, decide_eq_true_eq] at h
    have := z1 e
    have hp := digs_pos h.2
    exact Or.inl ⟨by omega, fun _ => ⟨h.2, by omega⟩, fun h' => by omega, by omega, hp⟩
  · rw [if_neg (by omega), if_pos e] at h
    simp only [Bool.and_eq_true, decide_eq_true_eq] at h
    exact Or.inr ⟨e, by omega⟩
  · rw [if_neg (by omega), if_neg (by omega), if_pos e] at h
    simp only [Bool.and_eq_true, decide_eq_true_eq] at h
    have := z3 e
    have hp := digs_pos h.2
    exact Or.inl ⟨by omega, fun h' => by omega, fun _ => ⟨h.2, by omega⟩, by omega, hp⟩
  · rw [if_neg (by omega), if_neg (by omega), if_neg (by omega), if_pos (by omega)] at h
    simp only [Bool.and_eq_true, decide_eq_true_eq] at h
    exact Or.inl ⟨by omega, fun h' => by omega, fun h' => by omega, by omega, by omega⟩
  · rw [if_neg (by omega), if_neg (by omega), if_neg (by omega), if_pos (by omega)] at h
    simp only [Bool.and_eq_true, decide_eq_true_eq] at h
    exact Or.inl ⟨by omega, fun h' => by omega, fun h' => by omega, by omega, by omega⟩
set_option maxRecDepth 100000 in
theorem fOk_60 {no : Int} {s : ByteArray} (h : fOk no s = true) : s.size ≤ 60 := by
  rcases fOk_size h with h | h
  · exact h.1
  · exact h.2
set_option maxRecDepth 100000 in
theorem ow_empty (T : TypeId) (K : IntKind) (w : World) : ow T K w.heap.size (w.alloc (.cells #[] T)) (.slice (some ⟨w.heap.size, 0, none⟩) 0 0) [] := by
  refine ⟨rfl, Or.inr ⟨w.heap.size, 0, #[], rfl, Nat.le_refl _, ?_, Nat.le_refl _, Nat.zero_le _, rfl, rfl⟩⟩
  show (w.heap.push _)[w.heap.size]? = _
  simp
set_option maxRecDepth 100000 in
theorem infoU8c : (Tryd.prog.info? 5).map (fun i => (i.zero, i.size, i.bytes)) = some (some (.int .u8 0), 1, 1) := by kernel_rfl
set_option maxRecDepth 100000 in
theorem bcdOk_60 {no : Int} {s : ByteArray} (h : fOk no s = true) (hk : fKind no = 1 ∨ fKind no = 3) : bcdOk s = true := by
  unfold bcdOk
  rcases fOk_size h with h | h
  · rcases hk with e | e
    · have := h.2.1 e; rw [this.1]; simp; omega
    · have := h.2.2.1 e; rw [this.1]; simp; omega
  · omega
def twoDig (n : Nat) : List UInt8 := if n < 10 then [UInt8.ofNat (48 + n)] else [UInt8.ofNat (48 + n / 10), UInt8.ofNat (48 + n % 10)]
set_option maxRecDepth 100000 in
theorem twoDig_ok : ∀ n, n < 61 → twoDig n ≠ [] ∧ (twoDig n).all isDig = true ∧ lead (twoDig n) = false ∧ (decOf (twoDig n)).toNat = n ∧ (twoDig n).length ≤ 2 := by decide +kernel
set_option maxRecDepth 100000 in
theorem dec_two (n : Nat) (h : n < 61) : Lib.decDigits n = twoDig n := by
  obtain ⟨h1, h2, h3, h4, -⟩ := twoDig_ok n h
  have := lead_yes _ (twoDig n) rfl h1 h2 h3
  rwa [h4] at this
set_option maxRecDepth 100000 in
theorem wide_60 (n : Nat) (h : n < 61) (d : Int) (hd : d = 2 ∨ d = 3) : bcdOk ⟨(wideOf (n : Int) d).toArray⟩ = true := by
  obtain ⟨h1, h2, -, -, h5⟩ := twoDig_ok n h
  have hw : wideOk (n : Int) d = true := by
    unfold wideOk
    rw [Int.toNat_natCast, dec_two n h]
    simp
    omega
  have hl : 1 ≤ (twoDig n).length := by
    rcases Nat.eq_zero_or_pos (twoDig n).length with e | e
    · exact absurd (List.eq_nil_of_length_eq_zero e) h1
    · exact e
  unfold wideOf
  rw [if_pos hw, Int.toNat_natCast, dec_two n h]
  unfold bcdOk
  rw [digs_list _ (by simp; omega)]
  have hs : ∀ l : List UInt8, (⟨l.toArray⟩ : ByteArray).size = l.length := fun l => rfl
  rw [hs]
  simp only [List.all_append, h2, Bool.and_true, Bool.and_eq_true, decide_eq_true_eq, List.length_append, List.length_replicate]
  refine ⟨?_, by omega⟩
  rw [List.all_eq_true]
  intro x hx
  rw [(List.mem_replicate.1 hx).2]
  rfl
set_option maxRecDepth 100000 in
theorem putLenOk_60 (n : Nat) (hn : n < 61) : putLenOk (n : Int) 2 = true ∧ putLenOk (n : Int) 3 = true := by
  constructor
  · unfold putLenOk; rw [wide_60 n hn 2 (Or.inl rfl)]; rfl
  · unfold putLenOk; rw [wide_60 n hn 3 (Or.inr rfl)]; rfl

end Go.Proofs.YtkkbhlaakhkjnaaDoor
