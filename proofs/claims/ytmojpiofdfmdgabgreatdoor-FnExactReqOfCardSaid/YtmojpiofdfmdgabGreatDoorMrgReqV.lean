/- The requests of the five classes that a message holds, and that the program's reading gives them; no conditions. -/
import Derived.Test.YtmojpiofdfmdgabGreatDoorMrgReqP
import Derived.Test.YtmojpiofdfmdgabGreatDoorMrgReqO
set_option linter.unusedVariables false
namespace Go.Proofs.YtmojpiofdfmdgabGreatDoor
open Go.ChangeShapes Go.WideShapes Go.ChangeAt Go.RowKit

set_option maxRecDepth 100000 in
theorem head_raw {m : MsgD} (h : rawOp m ≠ 0) : headB (qM m) = plainB (rawOp m) (fldTxt m.2 2) (fldTxt m.2 11) := by
  obtain ⟨h3, h1, hi, he⟩ := raw_hit h
  have : (qM m).mti = opTxt 0 (qM m).op := he.trans (by rw [← h1]; rfl)
  show (isOp (opM m) && (decide ((qM m).mti = opTxt 0 (qM m).op) && (acctIdB (fldTxt m.2 2) && trB (fldTxt m.2 11)))) = _
  rw [decide_eq_true this, h1]
  rfl
section
variable {m : MsgD} (hm : msgOk m = true) (hk : mtiKn m.1 = true)
include hm hk
set_option maxRecDepth 100000 in
theorem read_plain (h : rawOp m < 1 ∨ 6 < rawOp m) :
    (plainB (rawOp m) (fldTxt m.2 2) (fldTxt m.2 11) = true → reqL m = (⟨rawOp m, fldTxt m.2 2, ⟨#[]⟩, ⟨#[]⟩, fldTxt m.2 11, opTxt 0 (rawOp m), 0, 0⟩, 0)) ∧ (plainB (rawOp m) (fldTxt m.2 2) (fldTxt m.2 11) = false → reqL m = (noQ, 1)) := by
  by_cases h0 : rawOp m = 0
  · have hp : plainB (rawOp m) (fldTxt m.2 2) (fldTxt m.2 11) = false := by rw [h0]; rfl
    rw [hp]
    refine ⟨fun e => (by cases e), fun _ => reqL_no hk fun h3 => ?_⟩
    have : opM m = 0 := by unfold rawOp at h0; rwa [if_pos h3] at h0
    have : headB (qM m) = false := by
      show (isOp (opM m) && _) = false
      rw [this]; rfl
    simp [reqOk, this]
  · obtain ⟨h3, h1, hi, he⟩ := raw_hit h0
    have hh := head_raw h0
    have h8 : 1 ≤ rawOp m ∧ rawOp m ≤ 8 := of_decide_eq_true hi
    have e1 : holdU (opM m) = false := by rw [h1]; simp [holdU, isOp]; omega
    have e2 : amtU (opM m) = false := by rw [h1]; simp [amtU]; omega
    have e3 : decide (opM m = 1) = false := decide_eq_false (by omega)
    have e4 : decide (opM m = 6) = false := decide_eq_false (by omega)
    have hq : qM m = ⟨rawOp m, fldTxt m.2 2, ⟨#[]⟩, ⟨#[]⟩, fldTxt m.2 11, opTxt 0 (rawOp m), 0, 0⟩ := by
      unfold qM; rw [e1, e2, e3, e4, h1, ← he]; rfl
    have hs : seenM m = true := by unfold seenM; rw [e2, e3]; rfl
    have hr : restB (qM m) = true := by
      show (holdP (holdU (opM m)) (qM m).hold && (amtP (amtU (opM m)) (qM m).amount && (ttlP (decide (opM m = 1)) (qM m).ttl && othP (decide (opM m = 6)) (qM m).other))) = true
      rw [e1, e2, e3, e4, hq]; rfl
    rw [← hh]
    constructor
    · intro hp; rw [reqL_yes hm hk h3 (by rw [hs, reqOk, hp, hr]; rfl), hq]
    · intro hp; exact reqL_no hk fun _ => by rw [reqOk, hp]; simp
set_option maxRecDepth 100000 in
theorem read_free (h : rawOp m = 5) :
    ((plainB (rawOp m) (fldTxt m.2 2) (fldTxt m.2 11) && idOk (bareS (fldTxt m.2 38))) = true → reqL m = (⟨rawOp m, fldTxt m.2 2, ⟨#[]⟩, bareS (fldTxt m.2 38), fldTxt m.2 11, opTxt 0 (rawOp m), 0, 0⟩, 0)) ∧ ((plainB (rawOp m) (fldTxt m.2 2) (fldTxt m.2 11) && idOk (bareS (fldTxt m.2 38))) = false → reqL m = (noQ, 1)) := by
  have h0 : rawOp m ≠ 0 := by omega
  obtain ⟨h3, h1, hi, he⟩ := raw_hit h0
  have hh := head_raw h0
  have e1 : holdU (opM m) = true := by rw [h1, h]; decide
  have e2 : amtU (opM m) = false := by rw [h1, h]; decide
  have e3 : decide (opM m = 1) = false := decide_eq_false (by omega)
  have e4 : decide (opM m = 6) = false := decide_eq_false (by omega)
  have hq : qM m = ⟨rawOp m, fldTxt m.2 2, ⟨#[]⟩, bareS (fldTxt m.2 38), fldTxt m.2 11, opTxt 0 (rawOp m), 0, 0⟩ := by
    unfold qM; rw [e1, e2, e3, e4, h1, ← he]; rfl
  have hs : seenM m = true := by unfold seenM; rw [e2, e3]; rfl
  have hr : restB (qM m) = idOk (bareS (fldTxt m.2 38)) := by
    show (holdP (holdU (opM m)) (qM m).hold && (amtP (amtU (opM m)) (qM m).amount && (ttlP (decide (opM m = 1)) (qM m).ttl && othP (decide (opM m = 6)) (qM m).other))) = _
    rw [e1, e2, e3, e4, hq]
    exact Bool.and_true _
  rw [← hh]
  constructor
  · intro hp; rw [reqL_yes hm hk h3 (by rw [hs, reqOk, hr, hp]; rfl), hq]
  · intro hp; exact reqL_no hk fun _ => by rw [reqOk, hr, hp]; simp
set_option maxRecDepth 100000 in
theorem read_move (h : rawOp m = 6) :
    (((plainB (rawOp m) (fldTxt m.2 2) (fldTxt m.2 11) && idOk (bareS (fldTxt m.2 38))) && acctIdB (fldTxt m.2 103)) = true → reqL m = (⟨rawOp m, fldTxt m.2 2, fldTxt m.2 103, bareS (fldTxt m.2 38), fldTxt m.2 11, opTxt 0 (rawOp m), 0, 0⟩, 0)) ∧ (((plainB (rawOp m) (fldTxt m.2 2) (fldTxt m.2 11) && idOk (bareS (fldTxt m.2 38))) && acctIdB (fldTxt m.2 103)) = false → reqL m = (noQ, 1)) := by
  have h0 : rawOp m ≠ 0 := by omega
  obtain ⟨h3, h1, hi, he⟩ := raw_hit h0
  have hh := head_raw h0
  have e1 : holdU (opM m) = true := by rw [h1, h]; decide
  have e2 : amtU (opM m) = false := by rw [h1, h]; decide
  have e3 : decide (opM m = 1) = false := decide_eq_false (by omega)
  have e4 : decide (opM m = 6) = true := decide_eq_true (by omega)
  have hq : qM m = ⟨rawOp m, fldTxt m.2 2, fldTxt m.2 103, bareS (fldTxt m.2 38), fldTxt m.2 11, opTxt 0 (rawOp m), 0, 0⟩ := by
    unfold qM; rw [e1, e2, e3, e4, h1, ← he]; rfl
  have hs : seenM m = true := by unfold seenM; rw [e2, e3]; rfl
  have hr : restB (qM m) = (idOk (bareS (fldTxt m.2 38)) && acctIdB (fldTxt m.2 103)) := by
    show (holdP (holdU (opM m)) (qM m).hold && (amtP (amtU (opM m)) (qM m).amount && (ttlP (decide (opM m = 1)) (qM m).ttl && othP (decide (opM m = 6)) (qM m).other))) = _
    rw [e1, e2, e3, e4, hq]
    rfl
  rw [← hh, Bool.and_assoc]
  constructor
  · intro hp; rw [reqL_yes hm hk h3 (by rw [hs, reqOk, hr, hp]; rfl), hq]
  · intro hp; exact reqL_no hk fun _ => by rw [reqOk, hr, hp]; simp
set_option maxRecDepth 100000 in
theorem read_amt (h : rawOp m = 2 ∨ rawOp m = 3 ∨ rawOp m = 4) :
    (((plainB (rawOp m) (fldTxt m.2 2) (fldTxt m.2 11) && idOk (bareS (fldTxt m.2 38))) && decide (0 ≤ numIn (fldTxt m.2 4) ∧ numIn (fldTxt m.2 4) ≤ 999999999999)) = true → reqL m = (⟨rawOp m, fldTxt m.2 2, ⟨#[]⟩, bareS (fldTxt m.2 38), fldTxt m.2 11, opTxt 0 (rawOp m), numIn (fldTxt m.2 4), 0⟩, 0)) ∧ (((plainB (rawOp m) (fldTxt m.2 2) (fldTxt m.2 11) && idOk (bareS (fldTxt m.2 38))) && decide (0 ≤ numIn (fldTxt m.2 4) ∧ numIn (fldTxt m.2 4) ≤ 999999999999)) = false → reqL m = (noQ, 1)) := by
  have h0 : rawOp m ≠ 0 := by omega
  obtain ⟨h3, h1, hi, he⟩ := raw_hit h0
  have hh := head_raw h0
  have e1 : holdU (opM m) = true := by rw [h1]; simp [holdU, isOp]; omega
  have e2 : amtU (opM m) = true := by rw [h1]; simp [amtU]; omega
  have e3 : decide (opM m = 1) = false := decide_eq_false (by omega)
  have e4 : decide (opM m = 6) = false := decide_eq_false (by omega)
  obtain ⟨n1, n2⟩ := numIn_has hm (no := 4) (sz := 12) (by decide) (by decide) (by omega)
  have hq : qM m = ⟨rawOp m, fldTxt m.2 2, ⟨#[]⟩, bareS (fldTxt m.2 38), fldTxt m.2 11, opTxt 0 (rawOp m), narVal (fldTxt m.2 4), 0⟩ := by
    unfold qM; rw [e1, e2, e3, e4, h1, ← he]; rfl
  have hs : seenM m = fldHas m.2 4 := by unfold seenM; rw [e2, e3]; exact Bool.and_true _
  have hr : restB (qM m) = (idOk (bareS (fldTxt m.2 38)) && decide (0 ≤ narVal (fldTxt m.2 4) ∧ narVal (fldTxt m.2 4) ≤ 999999999999)) := by
    show (holdP (holdU (opM m)) (qM m).hold && (amtP (amtU (opM m)) (qM m).amount && (ttlP (decide (opM m = 1)) (qM m).ttl && othP (decide (opM m = 6)) (qM m).other))) = _
    rw [e1, e2, e3, e4, hq]
    show (idOk (bareS (fldTxt m.2 38)) && (decide (0 ≤ narVal (fldTxt m.2 4) ∧ narVal (fldTxt m.2 4) ≤ 999999999999) && true)) = _
    rw [Bool.and_true]
  rw [← hh, Bool.and_assoc]
  cases hf : fldHas m.2 4
  · rw [n2 hf]
    refine ⟨fun e => ?_, fun _ => reqL_no hk fun _ => by rw [hs, hf]; rfl⟩
    simp at e
  · rw [n1 hf]
    constructor
    · intro hp; rw [reqL_yes hm hk h3 (by rw [hs, hf, reqOk, hr, hp]; rfl), hq]
    · intro hp; exact reqL_no hk fun _ => by rw [reqOk, hr, hp]; simp
set_option maxRecDepth 100000 in
theorem read_auth (h : rawOp m = 1) :
    ((((plainB (rawOp m) (fldTxt m.2 2) (fldTxt m.2 11) && idOk (bareS (fldTxt m.2 38))) && decide (0 ≤ numIn (fldTxt m.2 4) ∧ numIn (fldTxt m.2 4) ≤ 999999999999)) && decide (0 ≤ numIn (fldTxt m.2 14) ∧ numIn (fldTxt m.2 14) ≤ 9999)) = true → reqL m = (⟨rawOp m, fldTxt m.2 2, ⟨#[]⟩, bareS (fldTxt m.2 38), fldTxt m.2 11, opTxt 0 (rawOp m), numIn (fldTxt m.2 4), numIn (fldTxt m.2 14)⟩, 0)) ∧ ((((plainB (rawOp m) (fldTxt m.2 2) (fldTxt m.2 11) && idOk (bareS (fldTxt m.2 38))) && decide (0 ≤ numIn (fldTxt m.2 4) ∧ numIn (fldTxt m.2 4) ≤ 999999999999)) && decide (0 ≤ numIn (fldTxt m.2 14) ∧ numIn (fldTxt m.2 14) ≤ 9999)) = false → reqL m = (noQ, 1)) := by
  have h0 : rawOp m ≠ 0 := by omega
  obtain ⟨h3, h1, hi, he⟩ := raw_hit h0
  have hh := head_raw h0
  have e1 : holdU (opM m) = true := by rw [h1, h]; decide
  have e2 : amtU (opM m) = true := by rw [h1, h]; decide
  have e3 : decide (opM m = 1) = true := decide_eq_true (by omega)
  have e4 : decide (opM m = 6) = false := decide_eq_false (by omega)
  obtain ⟨n1, n2⟩ := numIn_has hm (no := 4) (sz := 12) (by decide) (by decide) (by omega)
  obtain ⟨k1, k2⟩ := numIn_has hm (no := 14) (sz := 4) (by decide) (by decide) (by omega)
  have hq : qM m = ⟨rawOp m, fldTxt m.2 2, ⟨#[]⟩, bareS (fldTxt m.2 38), fldTxt m.2 11, opTxt 0 (rawOp m), narVal (fldTxt m.2 4), narVal (fldTxt m.2 14)⟩ := by
    unfold qM; rw [e1, e2, e3, e4, h1, ← he]; rfl
  have hs : seenM m = (fldHas m.2 4 && fldHas m.2 14) := by unfold seenM; rw [e2, e3]; rfl
  have hr : restB (qM m) = (idOk (bareS (fldTxt m.2 38)) && (decide (0 ≤ narVal (fldTxt m.2 4) ∧ narVal (fldTxt m.2 4) ≤ 999999999999) && decide (0 ≤ narVal (fldTxt m.2 14) ∧ narVal (fldTxt m.2 14) ≤ 9999))) := by
    show (holdP (holdU (opM m)) (qM m).hold && (amtP (amtU (opM m)) (qM m).amount && (ttlP (decide (opM m = 1)) (qM m).ttl && othP (decide (opM m = 6)) (qM m).other))) = _
    rw [e1, e2, e3, e4, hq]
    show (idOk (bareS (fldTxt m.2 38)) && (decide (0 ≤ narVal (fldTxt m.2 4) ∧ narVal (fldTxt m.2 4) ≤ 999999999999) && (decide (0 ≤ narVal (fldTxt m.2 14) ∧ narVal (fldTxt m.2 14) ≤ 9999) && true))) = _
    rw [Bool.and_true]
  rw [← hh, Bool.and_assoc, Bool.and_assoc]
  cases hf : fldHas m.2 4
  · rw [n2 hf]
    refine ⟨fun e => ?_, fun _ => reqL_no hk fun _ => by rw [hs, hf]; rfl⟩
    simp at e
  · cases hg : fldHas m.2 14
    · rw [k2 hg]
      refine ⟨fun e => ?_, fun _ => reqL_no hk fun _ => by rw [hs, hg]; simp⟩
      simp at e
    · rw [n1 hf, k1 hg]
      constructor
      · intro hp; rw [reqL_yes hm hk h3 (by rw [hs, hf, hg, reqOk, hr, hp]; rfl), hq]
      · intro hp; exact reqL_no hk fun _ => by rw [reqOk, hr, hp]; simp
end
end Go.Proofs.YtmojpiofdfmdgabGreatDoor
