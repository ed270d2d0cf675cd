/- ReqOk of the program answers as the reference's; the table of operations lies as Go's text lays it. -/
import Derived.Test.YtiolebpoofkpmaaGreatDoorMrp11
import Derived.Test.YtiolebpoofkpmaaGreatDoorMrp8
import Derived.Test.YtiolebpoofkpmaaGreatDoorMrp9
import Derived.Test.YtiolebpoofkpmaaGreatDoorMrp10
import Derived.Test.YtiolebpoofkpmaaGreatDoorMrp1
import Derived.Deep.RegionHeld3
import Derived.Deep.DeepCutAuto
import Derived.Test.YtiolebpoofkpmaaGreatDoorMrp7
import Derived.Deep.RegionLaw
import Derived.Deep.DrawnRows
import Derived.IntWalk
import Derived.Test.YtiolebpoofkpmaaGreatDoorShelf
import Derived.Lib.Bytealg
import Derived.Laws.BytesArg
import Derived.Maps.AppendAt
import Derived.RegionTactic
import Derived.StillTailTactics
set_option linter.unusedVariables false
namespace Go.Proofs.YtiolebpoofkpmaaGreatDoor
open Go.ChangeShapes Go.WideShapes Go.ChangeAt Go.RowKit

end Go.Proofs.YtiolebpoofkpmaaGreatDoor
set_option linter.unusedVariables false
namespace Go.Proofs.YtiolebpoofkpmaaGreatDoor
open Go.ChangeShapes Go.WideShapes Go.ChangeAt Go.RowKit

set_option maxRecDepth 100000 in
theorem head_raw {m : MsgD} (h : rawOp m ≠ 0) : headB (qM m) = plainB (rawOp m) (fldTxt m.2 2) (fldTxt m.2 11) := by
  obtain ⟨h3, h1, hi, he⟩ := raw_hit h
  have : (qM m).mti = opTxt 0 (qM m).op := he.trans (by rw [← h1]; rfl)
  show (isOp (opM m) && (decide ((qM m).mti = opTxt 0 (qM m).op) && (acctIdB (fldTxt m.2 2) && trB (fldTxt m.2 11)))) = _
  rw [decide_eq_true this, h1]
  rfl
section
variable {m : MsgD} (hm : msgOk m = true) (hk : mtiKn m.1 = true)
include hm hk
set_option maxRecDepth 100000 in
theorem read_plain (h : rawOp m < 1 ∨ 6 < rawOp m) :
    (plainB (rawOp m) (fldTxt m.2 2) (fldTxt m.2 11) = true → reqL m = (⟨rawOp m, fldTxt m.2 2, ⟨#[]⟩, ⟨#[]⟩, fldTxt m.2 11, opTxt 0 (rawOp m), 0, 0⟩, 0)) ∧ (plainB (rawOp m) (fldTxt m.2 2) (fldTxt m.2 11) = false → reqL m = (noQ, 1)) := by
  by_cases h0 : rawOp m = 0
  · have hp : plainB (rawOp m) (fldTxt m.2 2) (fldTxt m.2 11) = false := by rw [h0]; rfl
    rw [hp]
    refine ⟨fun e => (by cases e), fun _ => reqL_no hk fun h3 => ?_⟩
    have : opM m = 0 := by unfold rawOp at h0; rwa [if_pos h3] at h0
    have : headB (qM m) = false := by
      show (isOp (opM m) && _) = false
      rw [this]; rfl
    simp [reqOk, this]
  · obtain ⟨h3, h1, hi, he⟩ := raw_hit h0
    have hh := head_raw h0
    have h8 : 1 ≤ rawOp m ∧ rawOp m ≤ 8 := of_decide_eq_true hi
    have e1 : holdU (opM m) = false := by rw [h1]; simp [holdU, isOp]; omega
    have e2 : amtU (opM m) = false := by rw [h1]; simp [amtU]; omega
    have e3 : decide (opM m = 1) = false := decide_eq_false (by omega)
    have e4 : decide (opM m = 6) = false := decide_eq_false (by omega)
    have hq : qM m = ⟨rawOp m, fldTxt m.2 2, ⟨#[]⟩, ⟨#[]⟩, fldTxt m.2 11, opTxt 0 (rawOp m), 0, 0⟩ := by
      unfold qM; rw [e1, e2, e3, e4, h1, ← he]; rfl
    have hs : seenM m = true := by unfold seenM; rw [e2, e3]; rfl
    have hr : restB (qM m) = true := by
      show (holdP (holdU (opM m)) (qM m).hold && (amtP (amtU (opM m)) (qM m).amount && (ttlP (decide (opM m = 1)) (qM m).ttl && othP (decide (opM m = 6)) (qM m).other))) = true
      rw [e1, e2, e3, e4, hq]; rfl
    rw [← hh]
    constructor
    · intro hp; rw [reqL_yes hm hk h3 (by rw [hs, reqOk, hp, hr]; rfl), hq]
    · intro hp; exact reqL_no hk fun _ => by rw [reqOk, hp]; simp
set_option maxRecDepth 100000 in
theorem read_free (h : rawOp m = 5) :
    ((plainB (rawOp m) (fldTxt m.2 2) (fldTxt m.2 11) && idOk (bareS (fldTxt m.2 38))) = true → reqL m = (⟨rawOp m, fldTxt m.2 2, ⟨#[]⟩, bareS (fldTxt m.2 38), fldTxt m.2 11, opTxt 0 (rawOp m), 0, 0⟩, 0)) ∧ ((plainB (rawOp m) (fldTxt m.2 2) (fldTxt m.2 11) && idOk (bareS (fldTxt m.2 38))) = false → reqL m = (noQ, 1)) := by
  have h0 : rawOp m ≠ 0 := by omega
  obtain ⟨h3, h1, hi, he⟩ := raw_hit h0
  have hh := head_raw h0
  have e1 : holdU (opM m) = true := by rw [h1, h]; decide
  have e2 : amtU (opM m) = false := by rw [h1, h]; decide
  have e3 : decide (opM m = 1) = false := decide_eq_false (by omega)
  have e4 : decide (opM m = 6) = false := decide_eq_false (by omega)
  have hq : qM m = ⟨rawOp m, fldTxt m.2 2, ⟨#[]⟩, bareS (fldTxt m.2 38), fldTxt m.2 11, opTxt 0 (rawOp m), 0, 0⟩ := by
    unfold qM; rw [e1, e2, e3, e4, h1, ← he]; rfl
  have hs : seenM m = true := by unfold seenM; rw [e2, e3]; rfl
  have hr : restB (qM m) = idOk (bareS (fldTxt m.2 38)) := by
    show (holdP (holdU (opM m)) (qM m).hold && (amtP (amtU (opM m)) (qM m).amount && (ttlP (decide (opM m = 1)) (qM m).ttl && othP (decide (opM m = 6)) (qM m).other))) = _
    rw [e1, e2, e3, e4, hq]
    exact Bool.and_true _
  rw [← hh]
  constructor
  · intro hp; rw [reqL_yes hm hk h3 (by rw [hs, reqOk, hr, hp]; rfl), hq]
  · intro hp; exact reqL_no hk fun _ => by rw [reqOk, hr, hp]; simp
set_option maxRecDepth 100000 in
theorem read_move (h : rawOp m = 6) :
    (((plainB (rawOp m) (fldTxt m.2 2) (fldTxt m.2 11) && idOk (bareS (fldTxt m.2 38))) && acctIdB (fldTxt m.2 103)) = true → reqL m = (⟨rawOp m, fldTxt m.2 2, fldTxt m.2 103, bareS (fldTxt m.2 38), fldTxt m.2 11, opTxt 0 (rawOp m), 0, 0⟩, 0)) ∧ (((plainB (rawOp m) (fldTxt m.2 2) (fldTxt m.2 11) && idOk (bareS (fldTxt m.2 38))) && acctIdB (fldTxt m.2 103)) = false → reqL m = (noQ, 1)) := by
  have h0 : rawOp m ≠ 0 := by omega
  obtain ⟨h3, h1, hi, he⟩ := raw_hit h0
  have hh := head_raw h0
  have e1 : holdU (opM m) = true := by rw [h1, h]; decide
  have e2 : amtU (opM m) = false := by rw [h1, h]; decide
  have e3 : decide (opM m = 1) = false := decide_eq_false (by omega)
  have e4 : decide (opM m = 6) = true := decide_eq_true (by omega)
  have hq : qM m = ⟨rawOp m, fldTxt m.2 2, fldTxt m.2 103, bareS (fldTxt m.2 38), fldTxt m.2 11, opTxt 0 (rawOp m), 0, 0⟩ := by
    unfold qM; rw [e1, e2, e3, e4, h1, ← he]; rfl
  have hs : seenM m = true := by unfold seenM; rw [e2, e3]; rfl
  have hr : restB (qM m) = (idOk (bareS (fldTxt m.2 38)) && acctIdB (fldTxt m.2 103)) := by
    show (holdP (holdU (opM m)) (qM m).hold && (amtP (amtU (opM m)) (qM m).amount && (ttlP (decide (opM m = 1)) (qM m).ttl && othP (decide (opM m = 6)) (qM m).other))) = _
    rw [e1, e2, e3, e4, hq]
    rfl
  rw [← hh, Bool.and_assoc]
  constructor
  · intro hp; rw [reqL_yes hm hk h3 (by rw [hs, reqOk, hr, hp]; rfl), hq]
  · intro hp; exact reqL_no hk fun _ => by rw [reqOk, hr, hp]; simp
set_option maxRecDepth 100000 in
theorem read_amt (h : rawOp m = 2 ∨ rawOp m = 3 ∨ rawOp m = 4) :
    (((plainB (rawOp m) (fldTxt m.2 2) (fldTxt m.2 11) && idOk (bareS (fldTxt m.2 38))) && decide (0 ≤ numIn (fldTxt m.2 4) ∧ numIn (fldTxt m.2 4) ≤ 999999999999)) = true → reqL m = (⟨rawOp m, fldTxt m.2 2, ⟨#[]⟩, bareS (fldTxt m.2 38), fldTxt m.2 11, opTxt 0 (rawOp m), numIn (fldTxt m.2 4), 0⟩, 0)) ∧ (((plainB (rawOp m) (fldTxt m.2 2) (fldTxt m.2 11) && idOk (bareS (fldTxt m.2 38))) && decide (0 ≤ numIn (fldTxt m.2 4) ∧ numIn (fldTxt m.2 4) ≤ 999999999999)) = false → reqL m = (noQ, 1)) := by
  have h0 : rawOp m ≠ 0 := by omega
  obtain ⟨h3, h1, hi, he⟩ := raw_hit h0
  have hh := head_raw h0
  have e1 : holdU (opM m) = true := by rw [h1]; simp [holdU, isOp]; omega
  have e2 : amtU (opM m) = true := by rw [h1]; simp [amtU]; omega
  have e3 : decide (opM m = 1) = false := decide_eq_false (by omega)
  have e4 : decide (opM m = 6) = false := decide_eq_false (by omega)
  obtain ⟨n1, n2⟩ := numIn_has hm (no := 4) (sz := 12) (by decide) (by decide) (by omega)
  have hq : qM m = ⟨rawOp m, fldTxt m.2 2, ⟨#[]⟩, bareS (fldTxt m.2 38), fldTxt m.2 11, opTxt 0 (rawOp m), narVal (fldTxt m.2 4), 0⟩ := by
    unfold qM; rw [e1, e2, e3, e4, h1, ← he]; rfl
  have hs : seenM m = fldHas m.2 4 := by unfold seenM; rw [e2, e3]; exact Bool.and_true _
  have hr : restB (qM m) = (idOk (bareS (fldTxt m.2 38)) && decide (0 ≤ narVal (fldTxt m.2 4) ∧ narVal (fldTxt m.2 4) ≤ 999999999999)) := by
    show (holdP (holdU (opM m)) (qM m).hold && (amtP (amtU (opM m)) (qM m).amount && (ttlP (decide (opM m = 1)) (qM m).ttl && othP (decide (opM m = 6)) (qM m).other))) = _
    rw [e1, e2, e3, e4, hq]
    show (idOk (bareS (fldTxt m.2 38)) && (decide (0 ≤ narVal (fldTxt m.2 4) ∧ narVal (fldTxt m.2 4) ≤ 999999999999) && true)) = _
    rw [Bool.and_true]
  rw [← hh, Bool.and_assoc]
  cases hf : fldHas m.2 4
  · rw [n2 hf]
    refine ⟨fun e => ?_, fun _ => reqL_no hk fun _ => by rw [hs, hf]; rfl⟩
    simp at e
  · rw [n1 hf]
    constructor
    · intro hp; rw [reqL_yes hm hk h3 (by rw [hs, hf, reqOk, hr, hp]; rfl), hq]
    · intro hp; exact reqL_no hk fun _ => by rw [reqOk, hr, hp]; simp
set_option maxRecDepth 100000 in
theorem read_auth (h : rawOp m = 1) :
    ((((plainB (rawOp m) (fldTxt m.2 2) (fldTxt m.2 11) && idOk (bareS (fldTxt m.2 38))) && decide (0 ≤ numIn (fldTxt m.2 4) ∧ numIn (fldTxt m.2 4) ≤ 999999999999)) && decide (0 ≤ numIn (fldTxt m.2 14) ∧ numIn (fldTxt m.2 14) ≤ 9999)) = true → reqL m = (⟨rawOp m, fldTxt m.2 2, ⟨#[]⟩, bareS (fldTxt m.2 38), fldTxt m.2 11, opTxt 0 (rawOp m), numIn (fldTxt m.2 4), numIn (fldTxt m.2 14)⟩, 0)) ∧ ((((plainB (rawOp m) (fldTxt m.2 2) (fldTxt m.2 11) && idOk (bareS (fldTxt m.2 38))) && decide (0 ≤ numIn (fldTxt m.2 4) ∧ numIn (fldTxt m.2 4) ≤ 999999999999)) && decide (0 ≤ numIn (fldTxt m.2 14) ∧ numIn (fldTxt m.2 14) ≤ 9999)) = false → reqL m = (noQ, 1)) := by
  have h0 : rawOp m ≠ 0 := by omega
  obtain ⟨h3, h1, hi, he⟩ := raw_hit h0
  have hh := head_raw h0
  have e1 : holdU (opM m) = true := by rw [h1, h]; decide
  have e2 : amtU (opM m) = true := by rw [h1, h]; decide
  have e3 : decide (opM m = 1) = true := decide_eq_true (by omega)
  have e4 : decide (opM m = 6) = false := decide_eq_false (by omega)
  obtain ⟨n1, n2⟩ := numIn_has hm (no := 4) (sz := 12) (by decide) (by decide) (by omega)
  obtain ⟨k1, k2⟩ := numIn_has hm (no := 14) (sz := 4) (by decide) (by decide) (by omega)
  have hq : qM m = ⟨rawOp m, fldTxt m.2 2, ⟨#[]⟩, bareS (fldTxt m.2 38), fldTxt m.2 11, opTxt 0 (rawOp m), narVal (fldTxt m.2 4), narVal (fldTxt m.2 14)⟩ := by
    unfold qM; rw [e1, e2, e3, e4, h1, ← he]; rfl
  have hs : seenM m = (fldHas m.2 4 && fldHas m.2 14) := by unfold seenM; rw [e2, e3]; rfl
  have hr : restB (qM m) = (idOk (bareS (fldTxt m.2 38)) && (decide (0 ≤ narVal (fldTxt m.2 4) ∧ narVal (fldTxt m.2 4) ≤ 999999999999) && decide (0 ≤ narVal (fldTxt m.2 14) ∧ narVal (fldTxt m.2 14) ≤ 9999))) := by
    show (holdP (holdU (opM m)) (qM m).hold && (amtP (amtU (opM m)) (qM m).amount && (ttlP (decide (opM m = 1)) (qM m).ttl && othP (decide (opM m = 6)) (qM m).other))) = _
    rw [e1, e2, e3, e4, hq]
    show (idOk (bareS (fldTxt m.2 38)) && (decide (0 ≤ narVal (fldTxt m.2 4) ∧ narVal (fldTxt m.2 4) ≤ 999999999999) && (decide (0 ≤ narVal (fldTxt m.2 14) ∧ narVal (fldTxt m.2 14) ≤ 9999) && true))) = _
    rw [Bool.and_true]
  rw [← hh, Bool.and_assoc, Bool.and_assoc]
  cases hf : fldHas m.2 4
  · rw [n2 hf]
    refine ⟨fun e => ?_, fun _ => reqL_no hk fun _ => by rw [hs, hf]; rfl⟩
    simp at e
  · cases hg : fldHas m.2 14
    · rw [k2 hg]
      refine ⟨fun e => ?_, fun _ => reqL_no hk fun _ => by rw [hs, hg]; simp⟩
      simp at e
    · rw [n1 hf, k1 hg]
      constructor
      · intro hp; rw [reqL_yes hm hk h3 (by rw [hs, hf, hg, reqOk, hr, hp]; rfl), hq]
      · intro hp; exact reqL_no hk fun _ => by rw [reqOk, hr, hp]; simp
end
end Go.Proofs.YtiolebpoofkpmaaGreatDoor
set_option linter.unusedVariables false
namespace Go.Proofs.YtiolebpoofkpmaaGreatDoor
open Go.ChangeShapes Go.WideShapes Go.ChangeAt Go.RowKit

def qRes (r : ReqD × Int) : Value := .tuple #[qV r.1, .int .i64 r.2]
set_option maxRecDepth 100000 in
theorem below_drew2 (w : World) (o : Obj) : Below w.heap.size w (w.alloc o).drew := ((Below.refl _ _).alloc (Nat.le_refl _) o).drew
set_option maxRecDepth 100000 in
theorem below_alq {W V : World} (h : Below W.heap.size W V) (o : Obj) : Below W.heap.size W (V.alloc o) := h.alloc h.size o
/-- a request in a block of its own, behind W -/
def newQ (W : World) (cs : List Value) (tv : Value) (wx : World) : Prop := ∃ b : Nat, tv = .pointer (some ⟨b, 0, none⟩) ∧ W.heap.size ≤ b ∧ bk wx b 37 cs ∧ Below W.heap.size W wx
set_option maxRecDepth 100000 in
theorem below_set8 {W V : World} (h : Below W.heap.size W V) (a0 a1 a2 a3 a4 a5 a6 a7 : Value) : Below W.heap.size W ((((((((V.setCell ⟨W.heap.size, 0, none⟩ a0).setCell ⟨W.heap.size, 1, none⟩ a1).setCell ⟨W.heap.size, 2, none⟩ a2).setCell ⟨W.heap.size, 3, none⟩ a3).setCell ⟨W.heap.size, 4, none⟩ a4).setCell ⟨W.heap.size, 5, none⟩ a5).setCell ⟨W.heap.size, 6, none⟩ a6).setCell ⟨W.heap.size, 7, none⟩ a7) :=
  h.trans ((set8_turned V W.heap.size a0 a1 a2 a3 a4 a5 a6 a7).below (B := W.heap.size) (Nat.le_refl _) h.size)
set_option maxRecDepth 100000 in
theorem newQ.mkA {W wC : World} (eC : Below W.heap.size W wC) (cs : List Value) : newQ W cs (.pointer (some ⟨wC.heap.size, 0, none⟩)) (wC.alloc (.cells cs.toArray 37)) :=
  ⟨wC.heap.size, rfl, eC.size, bk.new wC _ cs, eC.alloc eC.size _⟩
set_option maxRecDepth 100000 in
theorem newQ.mkB {W wC : World} {o0 o1 o2 o3 o4 o5 o6 o7 : Value} (h : bk wC W.heap.size 37 [o0, o1, o2, o3, o4, o5, o6, o7]) (eC : Below W.heap.size W wC) (a0 a1 a2 a3 a4 a5 a6 a7 : Value) :
    newQ W [a0, a1, a2, a3, a4, a5, a6, a7] (.pointer (some ⟨W.heap.size, 0, none⟩)) ((((((((wC.setCell ⟨W.heap.size, 0, none⟩ a0).setCell ⟨W.heap.size, 1, none⟩ a1).setCell ⟨W.heap.size, 2, none⟩ a2).setCell ⟨W.heap.size, 3, none⟩ a3).setCell ⟨W.heap.size, 4, none⟩ a4).setCell ⟨W.heap.size, 5, none⟩ a5).setCell ⟨W.heap.size, 6, none⟩ a6).setCell ⟨W.heap.size, 7, none⟩ a7) :=
  ⟨W.heap.size, rfl, Nat.le_refl _, set8_bk h a0 a1 a2 a3 a4 a5 a6 a7, eC.trans ((set8_turned wC W.heap.size a0 a1 a2 a3 a4 a5 a6 a7).below (B := W.heap.size) (Nat.le_refl _) eC.size)⟩
set_option maxRecDepth 100000 in
theorem bare_le (s : ByteArray) : (bareS s).size ≤ s.size := by
  unfold bareS
  rw [ByteArray.size_extract]
  omega

set_option maxRecDepth 100000 in
set_option maxHeartbeats 16000000 in
theorem specReqOf_early (hi : Nat) (v : Value) (m : MsgD) (w : World) (hn : m.2.length ≤ 1048576) (h : FieldsR.rd hi w [v] m.2) (hh : hi ≤ w.heap.size) (hsm : m.1.size ≤ maxLen) (hs : ∀ x ∈ m.2, x.2.size ≤ 1048576) (hno : ¬ (msgOk m = true ∧ mtiKn m.1 = true ∧ fldHas m.2 3 = true)) :
    Calls Tryz.prog 13 #[.agg #[.string m.1, v]] w fun e w' => e = .returned (qRes (reqL m)) ∧ Below w.heap.size w w' := by
  obtain ⟨A, c, rfl, hc, h'⟩ := fields_rd h
  have hs' : ∀ x ∈ m.2, x.2.size ≤ maxLen := fun x hx => Nat.le_trans (hs x hx) (by unfold maxLen; omega)
  have HMO := Lib.hid (fun V (hV : Below w.heap.size w V) => specMsgOk_any hi (.slice A m.2.length c) m V hsm hn hs' (Rep.below (R := FieldsR) h hV hh) (Nat.le_trans hh hV.size))
  have HMK := Lib.hid (specMtiKnown_any m.1)
  have HF3 := Lib.hid (fun V (hV : Below w.heap.size w V) => specFieldOf_any hi (.slice A m.2.length c) m 3 V hn (Rep.below (R := FieldsR) h hV hh) (Nat.le_trans hh hV.size))
  have HR : Hid (reqL m = (noQ, if msgOk m = true ∧ mtiKn m.1 = false then 2 else 1)) := Lib.hid (by
    unfold reqL
    cases h1 : msgOk m
    · simp
    cases h2 : mtiKn m.1
    · simp
    cases h3 : fldHas m.2 3
    · simp
    exact absurd ⟨h1, h2, h3⟩ hno)
  clear h h' hn hh hsm hs hs' hc
  generalize reqL m = r at HR ⊢
  generalize fldTxt m.2 3 = f3 at HF3
  generalize fldHas m.2 3 = t3 at HF3 hno
  generalize msgOk m = t1 at HMO HR hno
  generalize m.2.length = n at HMO HF3
  generalize m.1 = a at HMO HMK HF3 HR hno
  generalize mtiKn a = t2 at HMK HR hno
  go_enter Tryz.func13, Tryz.ntmps13
  go_upto_region 1 with fail
  obtain ⟨w0, hW⟩ : ∃ W, W = (w.alloc (.cells #[.string a, .slice A n c] 33)).alloc (.cells #[.int .i64 0, .string ⟨#[]⟩, .string ⟨#[]⟩, .string ⟨#[]⟩, .string ⟨#[]⟩, .string ⟨#[]⟩, .int .i64 0, .int .i64 0] 37) := ⟨_, rfl⟩
  have b0 : bk w0 w.heap.size 33 [.string a, .slice A n c] := by rw [hW]; exact (bk.new w _ _).alloc _
  have b1 : bk w0 (w.heap.size + 1) 37 [.int .i64 0, .string ⟨#[]⟩, .string ⟨#[]⟩, .string ⟨#[]⟩, .string ⟨#[]⟩, .string ⟨#[]⟩, .int .i64 0, .int .i64 0] := by rw [hW]; have h0 := bk.new (w.alloc (.cells #[.string a, .slice A n c] 33)) 37 [.int .i64 0, .string ⟨#[]⟩, .string ⟨#[]⟩, .string ⟨#[]⟩, .string ⟨#[]⟩, .string ⟨#[]⟩, .int .i64 0, .int .i64 0]; simpa using h0
  have HB : Hid (Below w.heap.size w w0) := Lib.hid (by rw [hW]; exact ((Below.refl _ _).alloc (Nat.le_refl _) _).alloc (by simp) _)
  have z0 : w.heap.size + 2 ≤ w0.heap.size := by rw [hW]; simp
  rw [← hW]
  clear hW
  have B0 := Lib.hid b0
  have B1 := Lib.hid b1
  clear b0 b1
  have b00 := B0.out.cell 0
  have b01 := B0.out.cell 1
  go_wp2_with fail
  refine (HMO.out w0 HB.out).mono ?_
  rintro e w1 ⟨rfl, hb⟩
  have z1 := hb.size
  have B0 := Lib.hid (B0.out.below hb (by omega))
  have B1 := Lib.hid (B1.out.below hb (by omega))
  have HB : Hid (Below w.heap.size w w1) := Lib.hid (HB.out.trans (hb.mono (by omega)))
  clear b00 b01 hb
  cases t1
  · have HTZ := Lib.hid (there8 B1.out)
    go_wp2_with (first | (refine wpList_store_mid rfl 37 _ _ rfl (w.heap.size + 1) 0 #[.int .i64 0, .string ⟨#[]⟩, .string ⟨#[]⟩, .string ⟨#[]⟩, .string ⟨#[]⟩, .string ⟨#[]⟩, .int .i64 0, .int .i64 0] rfl rfl HTZ.out sizeReq (one8 ..) ?_; generalize hVZ : World.setCells _ _ _ _ = VZ))
    have bVZ : bk VZ (w.heap.size + 1) 37 [.int .i64 0, .string ⟨#[]⟩, .string ⟨#[]⟩, .string ⟨#[]⟩, .string ⟨#[]⟩, .string ⟨#[]⟩, .int .i64 0, .int .i64 0] := by rw [← hVZ]; exact set8_bk B1.out (.int .i64 0) (.string ⟨#[]⟩) (.string ⟨#[]⟩) (.string ⟨#[]⟩) (.string ⟨#[]⟩) (.string ⟨#[]⟩) (.int .i64 0) (.int .i64 0)
    have tVZ : Turned (w.heap.size + 1) (w.heap.size + 1 + 1) w1 VZ := by rw [← hVZ]; exact set8_turned w1 (w.heap.size + 1) (.int .i64 0) (.string ⟨#[]⟩) (.string ⟨#[]⟩) (.string ⟨#[]⟩) (.string ⟨#[]⟩) (.string ⟨#[]⟩) (.int .i64 0) (.int .i64 0)
    have HBZ : Hid (Below w.heap.size w VZ) := Lib.hid (HB.out.trans (tVZ.below (B := w.heap.size) (by omega) (by omega)))
    obtain ⟨⟨y0, y1, y2, y3, y4, y5, y6, y7⟩, -⟩ := bVZ.eight
    have hr := HR.out
    exact bodyPost_ret (v := .tuple #[.agg #[.int .i64 0, .string ⟨#[]⟩, .string ⟨#[]⟩, .string ⟨#[]⟩, .string ⟨#[]⟩, .string ⟨#[]⟩, .int .i64 0, .int .i64 0], .int .i64 1]) (by simp [results, Tryz.results13, go_sem, y0, y1, y2, y3, y4, y5, y6, y7]) rfl ⟨by rw [hr]; rfl, HBZ.out⟩
  have b00 := B0.out.cell 0
  go_wp2_with fail
  refine (HMK.out w1).mono ?_
  rintro e wx ⟨rfl, rfl⟩
  clear b00
  cases t2
  · have HTZ := Lib.hid (there8 B1.out)
    go_wp2_with (first | (refine wpList_store_mid rfl 37 _ _ rfl (w.heap.size + 1) 0 #[.int .i64 0, .string ⟨#[]⟩, .string ⟨#[]⟩, .string ⟨#[]⟩, .string ⟨#[]⟩, .string ⟨#[]⟩, .int .i64 0, .int .i64 0] rfl rfl HTZ.out sizeReq (one8 ..) ?_; generalize hVZ : World.setCells _ _ _ _ = VZ))
    have bVZ : bk VZ (w.heap.size + 1) 37 [.int .i64 0, .string ⟨#[]⟩, .string ⟨#[]⟩, .string ⟨#[]⟩, .string ⟨#[]⟩, .string ⟨#[]⟩, .int .i64 0, .int .i64 0] := by rw [← hVZ]; exact set8_bk B1.out (.int .i64 0) (.string ⟨#[]⟩) (.string ⟨#[]⟩) (.string ⟨#[]⟩) (.string ⟨#[]⟩) (.string ⟨#[]⟩) (.int .i64 0) (.int .i64 0)
    have tVZ : Turned (w.heap.size + 1) (w.heap.size + 1 + 1) w1 VZ := by rw [← hVZ]; exact set8_turned w1 (w.heap.size + 1) (.int .i64 0) (.string ⟨#[]⟩) (.string ⟨#[]⟩) (.string ⟨#[]⟩) (.string ⟨#[]⟩) (.string ⟨#[]⟩) (.int .i64 0) (.int .i64 0)
    have HBZ : Hid (Below w.heap.size w VZ) := Lib.hid (HB.out.trans (tVZ.below (B := w.heap.size) (by omega) (by omega)))
    obtain ⟨⟨y0, y1, y2, y3, y4, y5, y6, y7⟩, -⟩ := bVZ.eight
    have hr := HR.out
    exact bodyPost_ret (v := .tuple #[.agg #[.int .i64 0, .string ⟨#[]⟩, .string ⟨#[]⟩, .string ⟨#[]⟩, .string ⟨#[]⟩, .string ⟨#[]⟩, .int .i64 0, .int .i64 0], .int .i64 2]) (by simp [results, Tryz.results13, go_sem, y0, y1, y2, y3, y4, y5, y6, y7]) rfl ⟨by rw [hr]; rfl, HBZ.out⟩
  have b00 := B0.out.cell 0
  have b01 := B0.out.cell 1
  go_wp2_with fail
  refine (HF3.out w1 HB.out).mono ?_
  rintro e w2 ⟨rfl, hb⟩
  have z2 := hb.size
  have B0 := Lib.hid (B0.out.below hb (by omega))
  have B1 := Lib.hid (B1.out.below hb (by omega))
  have HB : Hid (Below w.heap.size w w2) := Lib.hid (HB.out.trans (hb.mono (by omega)))
  clear b00 b01 hb
  cases t3
  · have HTZ := Lib.hid (there8 B1.out)
    go_wp2_with (first | (refine wpList_store_mid rfl 37 _ _ rfl (w.heap.size + 1) 0 #[.int .i64 0, .string ⟨#[]⟩, .string ⟨#[]⟩, .string ⟨#[]⟩, .string ⟨#[]⟩, .string ⟨#[]⟩, .int .i64 0, .int .i64 0] rfl rfl HTZ.out sizeReq (one8 ..) ?_; generalize hVZ : World.setCells _ _ _ _ = VZ))
    have bVZ : bk VZ (w.heap.size + 1) 37 [.int .i64 0, .string ⟨#[]⟩, .string ⟨#[]⟩, .string ⟨#[]⟩, .string ⟨#[]⟩, .string ⟨#[]⟩, .int .i64 0, .int .i64 0] := by rw [← hVZ]; exact set8_bk B1.out (.int .i64 0) (.string ⟨#[]⟩) (.string ⟨#[]⟩) (.string ⟨#[]⟩) (.string ⟨#[]⟩) (.string ⟨#[]⟩) (.int .i64 0) (.int .i64 0)
    have tVZ : Turned (w.heap.size + 1) (w.heap.size + 1 + 1) w2 VZ := by rw [← hVZ]; exact set8_turned w2 (w.heap.size + 1) (.int .i64 0) (.string ⟨#[]⟩) (.string ⟨#[]⟩) (.string ⟨#[]⟩) (.string ⟨#[]⟩) (.string ⟨#[]⟩) (.int .i64 0) (.int .i64 0)
    have HBZ : Hid (Below w.heap.size w VZ) := Lib.hid (HB.out.trans (tVZ.below (B := w.heap.size) (by omega) (by omega)))
    obtain ⟨⟨y0, y1, y2, y3, y4, y5, y6, y7⟩, -⟩ := bVZ.eight
    have hr := HR.out
    exact bodyPost_ret (v := .tuple #[.agg #[.int .i64 0, .string ⟨#[]⟩, .string ⟨#[]⟩, .string ⟨#[]⟩, .string ⟨#[]⟩, .string ⟨#[]⟩, .int .i64 0, .int .i64 0], .int .i64 1]) (by simp [results, Tryz.results13, go_sem, y0, y1, y2, y3, y4, y5, y6, y7]) rfl ⟨by rw [hr]; rfl, HBZ.out⟩
  exact (hno (by simp)).elim

end Go.Proofs.YtiolebpoofkpmaaGreatDoor
set_option linter.unusedVariables false
namespace Go.Proofs.YtiolebpoofkpmaaGreatDoor
open Go.ChangeShapes Go.WideShapes Go.ChangeAt Go.RowKit

/-- two halves a byte -/
def pairs (L : List Int) (n : Nat) : List Int := (List.range n).map fun i => 16 * L.getD (2 * i) 0 + L.getD (2 * i + 1) 0
set_option maxRecDepth 100000 in
theorem pairs_len (L : List Int) (n : Nat) : (pairs L n).length = n := by simp [pairs]
end Go.Proofs.YtiolebpoofkpmaaGreatDoor
set_option linter.unusedVariables false
namespace Go.Proofs.YtiolebpoofkpmaaGreatDoor
open Go.ChangeShapes Go.WideShapes Go.ChangeAt Go.RowKit

/-- the value of a hexadecimal digit, or -1 -/
def hexv (c : UInt8) : Int := if 48 ≤ c.toNat ∧ c.toNat ≤ 57 then (c.toNat : Int) - 48 else if 97 ≤ c.toNat ∧ c.toNat ≤ 102 then (c.toNat : Int) - 87 else -1
def hv (s : ByteArray) : List Int := s.data.toList.map hexv
end Go.Proofs.YtiolebpoofkpmaaGreatDoor
set_option linter.unusedVariables false
namespace Go.Proofs.YtiolebpoofkpmaaGreatDoor
open Go.ChangeShapes Go.WideShapes Go.ChangeAt Go.RowKit

def bcdOk (s : ByteArray) : Bool := digs s && decide (s.size ≤ 38)
/-- with a zero ahead if the number of digits is odd -/
def padS (s : ByteArray) : ByteArray := if s.size % 2 = 1 then ⟨#[48]⟩ ++ s else s
def bcd (s : ByteArray) : List Int := if bcdOk s = true then pairs (hv (padS s)) ((padS s).size / 2) else []
set_option maxRecDepth 100000 in
theorem bcd_yes {s : ByteArray} (h : bcdOk s = true) : bcd s = pairs (hv (padS s)) ((padS s).size / 2) := by simp [bcd, h]
end Go.Proofs.YtiolebpoofkpmaaGreatDoor
set_option linter.unusedVariables false
namespace Go.Proofs.YtiolebpoofkpmaaGreatDoor
open Go.ChangeShapes Go.WideShapes Go.ChangeAt Go.RowKit

set_option maxRecDepth 100000 in
theorem sapp (a b : List UInt8) : ((⟨a.toArray⟩ : ByteArray) ++ (⟨b.toArray⟩ : ByteArray)) = ⟨(a ++ b).toArray⟩ := by apply ByteArray.ext; simp
def hexI (h : Int) : Int := if h < 10 then 48 + h else 87 + h
/-- the upper or the lower half of byte i / 2 -/
def halfAt (l : List Int) (i : Nat) : Int := if i % 2 = 0 then l.getD (i / 2) 0 / 16 else l.getD (i / 2) 0 % 16
def hexN (l : List Int) (n : Nat) : List Int := (List.range n).map fun i => hexI (halfAt l i)
def hexL (l : List Int) : List UInt8 := (hexN l (2 * l.length)).map byteOf
set_option maxRecDepth 100000 in
theorem hexN_step (l : List Int) (n : Nat) : hexN l (n + 1) = hexN l n ++ [hexI (halfAt l n)] := by simp [hexN, List.range_succ]
set_option maxRecDepth 100000 in
theorem hexN_len (l : List Int) (n : Nat) : (hexN l n).length = n := by simp [hexN]
set_option maxRecDepth 100000 in
theorem half_even (l : List Int) (k : Nat) : halfAt l (2 * k) = l.getD k 0 / 16 := by
  unfold halfAt; rw [if_pos (by omega), show 2 * k / 2 = k by omega]
set_option maxRecDepth 100000 in
theorem half_odd (l : List Int) (k : Nat) : halfAt l (2 * k + 1) = l.getD k 0 % 16 := by
  unfold halfAt; rw [if_neg (by omega), show (2 * k + 1) / 2 = k by omega]
set_option maxRecDepth 100000 in
/-- the digit of a half -/
theorem run_hexd (K : IntKind) (h : Int) (h0 : 0 ≤ h) (h1 : h ≤ 15) (W : World) :
    (Instr.index 9 (.string ⟨#[48, 49, 50, 51, 52, 53, 54, 55, 56, 57, 97, 98, 99, 100, 101, 102]⟩) (.int K h)).run Tryz.prog W = .ok (.int .u8 (hexI h)) W := by
  have : h = 0 ∨ h = 1 ∨ h = 2 ∨ h = 3 ∨ h = 4 ∨ h = 5 ∨ h = 6 ∨ h = 7 ∨ h = 8 ∨ h = 9 ∨ h = 10 ∨ h = 11 ∨ h = 12 ∨ h = 13 ∨ h = 14 ∨ h = 15 := by omega
  rcases this with rfl | rfl | rfl | rfl | rfl | rfl | rfl | rfl | rfl | rfl | rfl | rfl | rfl | rfl | rfl | rfl <;> rfl
set_option maxRecDepth 100000 in
theorem conv_two (W : World) (c d : Int) (T : TypeId) : (convert 22 9 (.slice (some ⟨W.heap.size, 0, none⟩) 2 2)).run Tryz.prog (W.alloc (.cells #[.int .u8 c, .int .u8 d] T)) = .ok (.string ⟨#[byteOf c, byteOf d]⟩) (W.alloc (.cells #[.int .u8 c, .int .u8 d] T)) := by
  have h := run_convert_bytes_arg (P := Tryz.prog) (W.alloc (.cells #[.int .u8 c, .int .u8 d] T)) 22 5 Tryz.underlying22 Tryz.underlying5 W.heap.size 0 2 2 [c, d] rfl
    (fun i hi => by
      have : i = 0 ∨ i = 1 := by omega
      rcases this with rfl | rfl <;> simp) 9 Tryz.underlying9
  exact h
set_option maxRecDepth 100000 in
theorem conv_two_drew (W : World) (c d : Int) (T : TypeId) : (convert 22 9 (.slice (some ⟨W.heap.size, 0, none⟩) 2 2)).run Tryz.prog (W.alloc (.cells #[.int .u8 c, .int .u8 d] T)).drew = .ok (.string ⟨#[byteOf c, byteOf d]⟩) (W.alloc (.cells #[.int .u8 c, .int .u8 d] T)).drew := conv_two W.drew c d T

set_option maxRecDepth 100000 in
theorem infoU8b : (Tryz.prog.info? 5).map (fun i => (i.zero, i.size, i.bytes)) = some (some (.int .u8 0), 1, 1) := by kernel_rfl
set_option maxRecDepth 100000 in
set_option maxHeartbeats 1600000 in
theorem implHexText_any (hi : Nat) (v : Value) (l : List Int) (w : World) (hn : l.length ≤ 1073741824) (hl : isBytes l) (h : rd .u8 hi w v l) (hhi : hi ≤ w.heap.size) :
    Calls Tryz.prog 71 #[v] w fun e w' => e = .returned (.string ⟨(hexL l).toArray⟩) ∧ Below w.heap.size w w' := by
  obtain ⟨A, c, rfl, hc, h⟩ := h
  have HR := Lib.hid h
  clear h
  go_enter Tryz.func71, Tryz.ntmps71
  go_wp2
  go_loopw [3, 4, 5, 9] (fun tv _ _ iv wr => ∃ k : Nat, k ≤ 2 * l.length ∧ iv = .int .i64 k ∧ wr.ownsRow w.heap.size 5 1 tv (hexN l k).length ((hexN l k).map (Value.int .u8)) ∧ Below w.heap.size w wr) (fun _ _ _ iv _ => 2 * l.length - (intOf iv).toNat)
  case atStart => exact ⟨0, Nat.zero_le _, rfl, ⟨rfl, Or.inl ⟨rfl, rfl⟩⟩, Below.refl _ _⟩
  case round =>
    obtain ⟨k, hk, rfl, hown, hb⟩ := hrel
    by_cases hlt : k < 2 * l.length
    · obtain ⟨b, off, rfl, hbl, hcell⟩ := HR.out (k / 2) (by omega)
      have hcell := (hb.cell (p := ⟨b, off + k / 2, none⟩) (show b < w.heap.size by omega)).trans hcell
      have hx := hl.getD (k / 2)
      have HT := Lib.hid (hexN_step l k)
      have HV := Lib.hid (half_even l (k / 2))
      have HW := Lib.hid (half_odd l (k / 2))
      generalize l.getD (k / 2) 0 = x at hx hcell HV HW
      obtain ⟨hx0, hx1⟩ := hx
      have HX := Lib.hid hn
      have htl : (hexN l k).length + 1 ≤ 9223372036854775807 := by rw [hexN_len]; omega
      have htb : ((hexN l k).length + 1) * 1 ≤ 140737488355328 := by rw [hexN_len]; omega
      by_cases hev : k % 2 = 0
      · obtain ⟨m, rfl⟩ : ∃ m, k = 2 * m := ⟨k / 2, by omega⟩
        rw [show 2 * m / 2 = m by omega] at hcell HV
        have g0 : (2 : Int) * (m : Int) < 2 * (l.length : Int) := by omega
        have g1 : (m : Int) < (l.length : Int) := by omega
        have g2 : 0 ≤ (m : Int) := by omega
        have i1 := run_hexd .u8 (x / 16) (by omega) (by omega)
        clear hev HW
        have HT := Lib.hid (by have := HT.out; rw [HV.out] at this; exact this : hexN l (2 * m + 1) = hexN l (2 * m) ++ [hexI (x / 16)])
        generalize hexN l (2 * m) = L at hown HT htl htb
        go_wp2_with (at_builtin; refine app_one (Value.int .u8) (int_one .u8) 22 5 (.int .u8 0) 1 Tryz.underlying22 infoU8b rfl _ _ rfl (by rfl) w wr _ L _ (by rfl) (by rfl) hown hb htl htb ?_)
        intro v' w1 hown' hb'
        clear hown hb
        go_wp2
        go_roundw
        case rel => exact ⟨2 * m + 1, by omega, by go_num, by rw [HT.out]; simpa using hown', hb'⟩
        case measure => simp [intOf] <;> omega
      · obtain ⟨m, rfl⟩ : ∃ m, k = 2 * m + 1 := ⟨k / 2, by omega⟩
        rw [show (2 * m + 1) / 2 = m by omega] at hcell HW
        have g0 : (2 : Int) * (m : Int) + 1 < 2 * (l.length : Int) := by omega
        have g1 : (m : Int) < (l.length : Int) := by omega
        have g2 : 0 ≤ (m : Int) := by omega
        have g3 : (2 * (m : Int) + 1) / 2 = m := by omega
        have g4 : (2 * (m : Int) + 1) % 2 = 1 := by omega
        have i1 := run_hexd .u8 (x % 16) (by omega) (by omega)
        clear hev HV
        have HT := Lib.hid (by have := HT.out; rw [HW.out] at this; exact this : hexN l (2 * m + 1 + 1) = hexN l (2 * m + 1) ++ [hexI (x % 16)])
        generalize hexN l (2 * m + 1) = L at hown HT htl htb
        go_wp2_with (at_builtin; refine app_one (Value.int .u8) (int_one .u8) 22 5 (.int .u8 0) 1 Tryz.underlying22 infoU8b rfl _ _ rfl (by rfl) w wr _ L _ (by rfl) (by rfl) hown hb htl htb ?_)
        intro v' w1 hown' hb'
        clear hown hb
        go_wp2
        go_roundw
        case rel => exact ⟨2 * m + 1 + 1, by omega, by go_num, by rw [HT.out]; simpa using hown', hb'⟩
        case measure => simp [intOf] <;> omega
    · obtain rfl : k = 2 * l.length := by omega
      have hcv := str_of_own hown
      clear hown
      go_wp2
      go_ret
      exact ⟨rfl, hb⟩
end Go.Proofs.YtiolebpoofkpmaaGreatDoor
set_option linter.unusedVariables false
namespace Go.Proofs.YtiolebpoofkpmaaGreatDoor
open Go.ChangeShapes Go.WideShapes Go.ChangeAt Go.RowKit

set_option maxRecDepth 100000 in
theorem bytesAt_no (hi : Nat) (v : Value) (l : List Int) (at' : Int) (n : Nat) (w : World) (hn : l.length ≤ 1073741824) (hn' : n ≤ 64) (h : rd .u8 hi w v l) (hbad : at' < 0 ∨ (l.length : Int) - n < at') :
    Calls Tryz.prog 70 #[v, .int .i64 at', .int .i64 (n : Int)] w fun e w' => e = .returned (.tuple #[.slice none 0 0, .bool false]) ∧ w = w' := by
  obtain ⟨A, c, rfl, hc, -⟩ := h
  by_cases h0 : at' < 0
  · go_enter Tryz.func70, Tryz.ntmps70
    go_wp2
    go_ret2
    exact ⟨rfl, rfl⟩
  · have h1 : (l.length : Int) - n < at' := by omega
    clear hbad
    go_enter Tryz.func70, Tryz.ntmps70
    go_wp2
    go_ret2
    exact ⟨rfl, rfl⟩
set_option maxRecDepth 100000 in
theorem rd_part {K : IntKind} {hi : Nat} {w : World} {b off c a n : Nat} {l : List Int} (hj : ∀ j, j < l.length → w.cell? ⟨b, off + j, none⟩ = some (.int K (l.getD j 0))) (hb : b < hi) (hc : l.length ≤ c) (han : a + n ≤ l.length) :
    rd K hi w (.slice (some ⟨b, off + a, none⟩) n (c - a)) ((l.drop a).take n) := by
  have hlen : ((l.drop a).take n).length = n := by simp; omega
  refine ⟨some ⟨b, off + a, none⟩, c - a, by rw [hlen], by rw [hlen]; omega, fun j hjn => ?_⟩
  rw [hlen] at hjn
  refine ⟨b, off + a, rfl, hb, ?_⟩
  rw [show off + a + j = off + (a + j) by omega, hj (a + j) (by omega)]
  congr 2
  rw [List.getD_eq_getElem?_getD, List.getD_eq_getElem?_getD, List.getElem?_take_of_lt hjn, List.getElem?_drop]
set_option maxRecDepth 100000 in
set_option maxHeartbeats 800000 in
theorem bytesAt_yes (hi : Nat) (v : Value) (l : List Int) (a n : Nat) (w : World) (hn : l.length ≤ 1073741824) (hn' : n ≤ 64) (h1 : 1 ≤ n) (h : rd .u8 hi w v l) (han : a + n ≤ l.length) :
    Calls Tryz.prog 70 #[v, .int .i64 (a : Int), .int .i64 (n : Int)] w fun e w' => ∃ u, e = .returned (.tuple #[u, .bool true]) ∧ rd .u8 hi w u ((l.drop a).take n) ∧ w = w' := by
  obtain ⟨A, c, rfl, hc, hj⟩ := h
  obtain ⟨b, off, rfl, hb, -⟩ := hj 0 (by omega)
  have hj' : ∀ j, j < l.length → w.cell? ⟨b, off + j, none⟩ = some (.int .u8 (l.getD j 0)) := fun j hjl => by
    obtain ⟨b', off', e, _, hx⟩ := hj j hjl
    simp only [Option.some.injEq, Addr.mk.injEq, and_true] at e
    obtain ⟨rfl, rfl⟩ := e
    exact hx
  have HR := Lib.hid (rd_part hj' hb hc han)
  have hca : ¬ c = a := by omega
  have q1 : (0 : Int) ≤ (a : Int) := by omega
  have q2 : (a : Int) + (n : Int) ≤ (c : Int) := by omega
  clear hj hj'
  go_enter Tryz.func70, Tryz.ntmps70
  go_wp2
  go_ret2
  refine ⟨_, rfl, ?_, rfl⟩
  show rd .u8 hi w (.slice (some ⟨b, off + a, none⟩) (a + n - a) (c - a)) _
  rw [Nat.add_sub_cancel_left]
  exact HR.out
end Go.Proofs.YtiolebpoofkpmaaGreatDoor
