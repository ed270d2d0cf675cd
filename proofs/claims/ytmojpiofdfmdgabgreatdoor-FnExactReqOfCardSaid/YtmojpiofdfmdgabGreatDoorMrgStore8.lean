/- A store of eight cells over a block of eight; no conditions. -/
import Derived.Test.YtmojpiofdfmdgabGreatDoorMrgReqD
import Derived.Test.YtmojpiofdfmdgabGreatDoorMrg5
import Derived.Deep.MidRow
set_option linter.unusedVariables false
namespace Go.Proofs.YtmojpiofdfmdgabGreatDoor
open Go.ChangeShapes Go.WideShapes Go.ChangeAt Go.RowKit

set_option maxRecDepth 100000 in
theorem sizeReq : (Tryz.prog.info? 27).map (·.size) = some 8 := by kernel_rfl
set_option maxRecDepth 100000 in
theorem there8 {V : World} {b : Nat} {o0 o1 o2 o3 o4 o5 o6 o7 : Value} (h : bk V b 27 [o0, o1, o2, o3, o4, o5, o6, o7]) : V.there b 0 8 := by
  obtain ⟨⟨c0, c1, c2, c3, c4, c5, c6, c7⟩, f⟩ := h.eight
  intro j hj
  rw [Nat.zero_add]
  refine ⟨?_, f j⟩
  have h8 : j = 0 ∨ j = 1 ∨ j = 2 ∨ j = 3 ∨ j = 4 ∨ j = 5 ∨ j = 6 ∨ j = 7 := by omega
  rcases h8 with rfl | rfl | rfl | rfl | rfl | rfl | rfl | rfl
  · rw [c0]; rfl
  · rw [c1]; rfl
  · rw [c2]; rfl
  · rw [c3]; rfl
  · rw [c4]; rfl
  · rw [c5]; rfl
  · rw [c6]; rfl
  · rw [c7]; rfl
set_option maxRecDepth 100000 in
theorem set8_bk {V : World} {b : Nat} {o0 o1 o2 o3 o4 o5 o6 o7 : Value} (h : bk V b 27 [o0, o1, o2, o3, o4, o5, o6, o7]) (a0 a1 a2 a3 a4 a5 a6 a7 : Value) : bk (V.setCells b 0 [a0, a1, a2, a3, a4, a5, a6, a7]) b 27 [a0, a1, a2, a3, a4, a5, a6, a7] := ((((((((h.set 0 a0).set 1 a1).set 2 a2).set 3 a3).set 4 a4).set 5 a5).set 6 a6).set 7 a7)
set_option maxRecDepth 100000 in
theorem set8_turned (V : World) (b : Nat) (a0 a1 a2 a3 a4 a5 a6 a7 : Value) : Turned b (b + 1) V (V.setCells b 0 [a0, a1, a2, a3, a4, a5, a6, a7]) := (((((((((Turned.refl b (b + 1) V).set (b := b) 0 a0 (Nat.le_refl _) (Nat.lt_succ_self _)).set (b := b) 1 a1 (Nat.le_refl _) (Nat.lt_succ_self _)).set (b := b) 2 a2 (Nat.le_refl _) (Nat.lt_succ_self _)).set (b := b) 3 a3 (Nat.le_refl _) (Nat.lt_succ_self _)).set (b := b) 4 a4 (Nat.le_refl _) (Nat.lt_succ_self _)).set (b := b) 5 a5 (Nat.le_refl _) (Nat.lt_succ_self _)).set (b := b) 6 a6 (Nat.le_refl _) (Nat.lt_succ_self _)).set (b := b) 7 a7 (Nat.le_refl _) (Nat.lt_succ_self _))
set_option maxRecDepth 100000 in
theorem one8 (a b c d e : ByteArray) (x y z : Int) : #[Value.int .i64 x, .string a, .string b, .string c, .string d, .string e, .int .i64 y, .int .i64 z].all (·.oneCell') = true := by
  simp
  exact ⟨rfl, rfl, rfl, rfl, rfl, rfl, rfl, rfl⟩
set_option maxRecDepth 100000 in
theorem load8r {V : World} {b : Nat} {cs : List Value} (h : bk V b 27 cs) : V.rangeAt b 0 cs := fun j v hv => by rw [Nat.zero_add, h.cell j]; exact hv
set_option maxRecDepth 100000 in
theorem load8 {V : World} {b : Nat} {a0 a1 a2 a3 a4 a5 a6 a7 : Value} (h : bk V b 27 [a0, a1, a2, a3, a4, a5, a6, a7]) :
    (Instr.loadAt 27 (.pointer (some ⟨b, 0, none⟩))).run Tryz.prog V = .ok (.agg #[a0, a1, a2, a3, a4, a5, a6, a7]) V :=
  run_loadAt_mid V b 0 _ [a0, a1, a2, a3, a4, a5, a6, a7] _ (fun j v hv => by rw [Nat.zero_add, h.cell j]; exact hv) Tryz.underlying27 rfl sizeReq
end Go.Proofs.YtmojpiofdfmdgabGreatDoor
