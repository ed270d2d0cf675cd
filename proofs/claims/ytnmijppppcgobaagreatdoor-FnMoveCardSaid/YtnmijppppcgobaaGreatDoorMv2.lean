/- What the laws FnMove need besides; no conditions. -/
import Derived.Test.YtnmijppppcgobaaGreatDoorMrg7
import Derived.Test.YtnmijppppcgobaaGreatDoorMrg6
import Derived.Test.YtnmijppppcgobaaGreatDoorMrg4
import Derived.Test.YtnmijppppcgobaaGreatDoorMrg5
import Derived.Test.YtnmijppppcgobaaGreatDoorMrg2
import Derived.Deep.RegionHeld3
import Derived.Test.YtnmijppppcgobaaGreatDoorMrg3
import Derived.Test.YtnmijppppcgobaaGreatDoorMrg1
import Derived.OpenVars
import Derived.Carry
import Derived.Test.YtnmijppppcgobaaGreatDoorMv1
set_option linter.unusedVariables false
namespace Go.Proofs.YtnmijppppcgobaaGreatDoor
open Go.ChangeShapes Go.WideShapes Go.ChangeAt Go.RowKit

/-- the hold with this id, or none -/
def holdFor (l : List HoldD) (id : ByteArray) : HoldD := if findH l id < 0 then noH else l.getD (findH l id).toNat noH
set_option maxRecDepth 100000 in
theorem findH_cases (l : List HoldD) (id : ByteArray) : findH l id < 0 ∨ ∃ k : Nat, findH l id = (k : Int) ∧ k < l.length := by
  unfold findH
  cases h : l.findIdx? (fun x => decide (x.1 = id)) with
  | none => exact .inl (by decide)
  | some i => exact .inr ⟨i, rfl, (List.findIdx?_eq_some_iff_getElem.1 h).1⟩

set_option maxRecDepth 100000 in
set_option maxHeartbeats 4000000 in
theorem implHoldOf_any (hi : Nat) (vh vc vs vl : Value) (a : AcctD) (id : ByteArray) (w : World) (hz : acctSmall 1048576 a) (hrd : AcctR.rd hi w (aCells a vh vc vs vl) a) (hh : hi ≤ w.heap.size) :
    Calls Tryz.prog 54 #[.agg #[.string (aId a), .int .i64 (aLim a), .int .i64 (aPos a), .int .i64 (aMost a), .int .i64 (aSum a), vh, .int .i64 (aR a).1, .int .i64 (aR a).2.1, vc, vs, vl], .string id] w fun e w' => e = .returned (.agg #[.string (holdFor (aH a) id).1, .int .i64 (holdFor (aH a) id).2.1, .int .i64 (holdFor (aH a) id).2.2]) ∧ Below w.heap.size w w' := by
  obtain ⟨vh0, vc0, vs0, vl0, hcs, r1, r2, r3, r4⟩ := acct_rd hrd
  simp only [aCells, List.cons.injEq, and_true, true_and] at hcs
  obtain ⟨rfl, rfl, rfl, rfl⟩ := hcs
  have HHA := Lib.hid (fun W (hW : Below w.heap.size w W) => implHoldAt_any hi _ (aH a) id W hz.h (Rep.below (R := HoldsR) r1 hW hh) (Nat.le_trans hh hW.size))
  have hfc := findH_cases (aH a) id
  have hln := hz.h
  obtain ⟨AH, cH, rfl, -⟩ := Rep.slice_form r1
  obtain ⟨AC, cC, rfl, -⟩ := r2.form
  obtain ⟨AS, cS, rfl, -⟩ := r3.form
  obtain ⟨AL, cL, rfl, -⟩ := Rep.slice_form r4
  have HSAT := Lib.hid (holds_at r1)
  clear r1 r2 r3 r4 hrd hz
  have HFO : Hid (holdFor (aH a) id = if findH (aH a) id < 0 then noH else (aH a).getD (findH (aH a) id).toNat noH) := Lib.hid rfl
  generalize findH (aH a) id = fv at HHA HFO hfc
  generalize holdFor (aH a) id = x at HFO ⊢
  obtain ⟨id0, lim, pos, most, sum, hs, ⟨rs, rh, cs, ss⟩, sl⟩ := a
  simp only [aId, aLim, aPos, aMost, aSum, aH, aS] at HHA HFO HSAT hfc hln ⊢
  have HAT := HSAT
  clear HSAT
  go_enter Tryz.func54, Tryz.ntmps54
  go_upto_region 1 with fail
  obtain ⟨W, hW⟩ : ∃ W, W = (w.alloc (.cells #[.string id0, .int .i64 lim, .int .i64 pos, .int .i64 most, .int .i64 sum, .slice AH hs.length cH, .int .i64 rs, .int .i64 rh, .slice AC cs.length cC, .slice AS ss.length cS, .slice AL sl.length cL] 29)).alloc (.cells #[.string ⟨#[]⟩, .int .i64 0, .int .i64 0] 33) := ⟨_, rfl⟩
  have b0 : bk W w.heap.size 29 [.string id0, .int .i64 lim, .int .i64 pos, .int .i64 most, .int .i64 sum, .slice AH hs.length cH, .int .i64 rs, .int .i64 rh, .slice AC cs.length cC, .slice AS ss.length cS, .slice AL sl.length cL] := by rw [hW]; exact (bk.new w _ _).alloc _
  have b1 : bk W (w.heap.size + 1) 33 [.string ⟨#[]⟩, .int .i64 0, .int .i64 0] := by rw [hW]; simpa using bk.new (w.alloc _) 33 [.string ⟨#[]⟩, .int .i64 0, .int .i64 0]
  have HB0 : Hid (Below w.heap.size w W) := Lib.hid (by rw [hW]; exact ((Below.refl _ _).alloc (Nat.le_refl _) _).alloc (by simp) _)
  have y0 : w.heap.size + 2 ≤ W.heap.size := by rw [hW]; simp
  rw [← hW]
  clear hW
  obtain ⟨⟨p0, p1, p2, p3, p4, p5, p6, p7, p8, p9, p10⟩, -⟩ := b0.eleven
  have B0 := Lib.hid b0
  have B1 := Lib.hid b1
  clear b0 b1
  go_wp2_with fail
  refine (HHA.out W HB0.out).mono ?_
  rintro e w1 ⟨rfl, hb1⟩
  have z1 := hb1.size
  have HB1 : Hid (Below w.heap.size w w1) := Lib.hid (HB0.out.trans (hb1.mono HB0.out.size))
  have c0 := B0.out.below hb1 (by omega)
  have c1 := B1.out.below hb1 (by omega)
  clear hb1 HB0 HHA B0 B1 p0 p1 p2 p3 p4 p5 p6 p7 p8 p9 p10
  obtain ⟨⟨p0, p1, p2, p3, p4, p5, p6, p7, p8, p9, p10⟩, -⟩ := c0.eleven
  have q0 := c1.cell 0
  have q1 := c1.cell 1
  have q2 := c1.cell 2
  have f0 := c1.frozen 0
  have f1 := c1.frozen 1
  have f2 := c1.frozen 2
  clear c0 c1
  simp only [List.getElem?_cons_zero, List.getElem?_cons_succ] at q0 q1 q2
  by_cases g : fv < 0
  · have HX : Hid (x = (⟨#[]⟩, 0, 0)) := Lib.hid (by rw [HFO.out, if_pos g]; rfl)
    clear HFO HAT hfc
    go_wp2
    refine bodyPost_ret (v := .agg #[.string ⟨#[]⟩, .int .i64 0, .int .i64 0]) (by simp [results, Tryz.results54, go_sem, q0, q1, q2]) rfl ?_
    rw [HX.out]
    refine ⟨rfl, ?_⟩
    repeat (refine Below.setCell ?_ (by simp <;> omega) _)
    exact HB1.out
  · obtain ⟨k, rfl, hk⟩ : ∃ k : Nat, fv = (k : Int) ∧ k < hs.length := by rcases hfc with hfc | ⟨k, h1, h2⟩; (exact absurd (by omega) g); exact ⟨k, h1, h2⟩
    obtain ⟨y, hy⟩ : ∃ y, hs[k]? = some y := ⟨_, List.getElem?_eq_getElem hk⟩
    obtain ⟨b, off, rfl, hb, ha⟩ := HAT.out k y hy
    have HX : Hid (x = y) := Lib.hid (by rw [HFO.out, if_neg g, Int.toNat_natCast, List.getD_eq_getElem?_getD, hy]; rfl)
    have u0 := (HB1.out.cell (p := ⟨b, off + k * 3, none⟩) (show b < w.heap.size by omega)).trans (ha 0 _ rfl)
    have u1 := (HB1.out.cell (p := ⟨b, off + k * 3 + 1, none⟩) (show b < w.heap.size by omega)).trans (ha 1 _ rfl)
    have u2 := (HB1.out.cell (p := ⟨b, off + k * 3 + 2, none⟩) (show b < w.heap.size by omega)).trans (ha 2 _ rfl)
    have g1 : (k : Int) < (hs.length : Int) := by omega
    have g2 : 0 ≤ (k : Int) := by omega
    clear HFO HAT hfc ha hy
    go_wp2
    refine bodyPost_ret (v := .agg #[.string y.1, .int .i64 y.2.1, .int .i64 y.2.2]) (by simp [results, Tryz.results54, go_sem, q0, q1, q2]) rfl ?_
    rw [HX.out]
    refine ⟨rfl, ?_⟩
    repeat (refine Below.setCell ?_ (by simp <;> omega) _)
    exact HB1.out
end Go.Proofs.YtnmijppppcgobaaGreatDoor
set_option linter.unusedVariables false
namespace Go.Proofs.YtnmijppppcgobaaGreatDoor
open Go.ChangeShapes Go.WideShapes Go.ChangeAt Go.RowKit

/-- two accounts and a code as they are given back -/
def acctRes2 (a b : AcctD) (k : Int) (w : World) (e : Ending) (w' : World) : Prop := ∃ vh vc vs vl vh2 vc2 vs2 vl2, e = .returned (.tuple #[.agg #[.string (aId a), .int .i64 (aLim a), .int .i64 (aPos a), .int .i64 (aMost a), .int .i64 (aSum a), vh, .int .i64 (aR a).1, .int .i64 (aR a).2.1, vc, vs, vl], .agg #[.string (aId b), .int .i64 (aLim b), .int .i64 (aPos b), .int .i64 (aMost b), .int .i64 (aSum b), vh2, .int .i64 (aR b).1, .int .i64 (aR b).2.1, vc2, vs2, vl2], .int .i64 k]) ∧ AcctR.mine w.heap.size w'.heap.size w' (aCells a vh vc vs vl) a ∧ AcctR.mine w.heap.size w'.heap.size w' (aCells b vh2 vc2 vs2 vl2) b ∧ Below w.heap.size w w'
end Go.Proofs.YtnmijppppcgobaaGreatDoor
set_option linter.unusedVariables false
namespace Go.Proofs.YtnmijppppcgobaaGreatDoor
open Go.ChangeShapes Go.WideShapes Go.ChangeAt Go.RowKit

def kState (a : AcctD) (now : Int) : Int := codeIf (!(acctOk a && timeB now)) 1
def kId (id : ByteArray) : Int := codeIf (!idOk id) 1
def kHeld (a : AcctD) (id : ByteArray) : Int := codeIf (!decide (0 ≤ findH (aH a) id)) 5
def kTwice (a : AcctD) (id : ByteArray) : Int := codeIf (decide (0 ≤ findH (aH a) id)) 6
def kFull (a : AcctD) : Int := codeIf (decide (4 ≤ (aH a).length)) 10
def kFunds (n r : Int) : Int := codeIf (decide (r < n)) 7
set_option maxRecDepth 100000 in
theorem codeIf_yes {b : Bool} {k : Int} (h : b = true) : codeIf b k = k := by rw [h]; rfl
set_option maxRecDepth 100000 in
theorem codeIf_no {b : Bool} {k : Int} (h : b = false) : codeIf b k = 0 := by rw [h]; rfl
set_option maxRecDepth 100000 in
theorem firstC_zero {k : Int} {l : List Int} (h : k = 0) : firstC (k :: l) = firstC l := by rw [firstC, if_pos h]
set_option maxRecDepth 100000 in
theorem firstC_here {k : Int} {l : List Int} (h : k ≠ 0) : firstC (k :: l) = k := by rw [firstC, if_neg h]
set_option maxRecDepth 100000 in
theorem held_first (a : AcctD) (s : ByteArray) (l : List Int) : firstC (kHeld a s :: l) = if findH (aH a) s < 0 then 5 else firstC l := by
  unfold kHeld
  by_cases h : findH (aH a) s < 0
  · rw [codeIf_yes (by simp; omega), firstC_here (by decide), if_pos h]
  · rw [codeIf_no (by simp; omega), firstC_zero rfl, if_neg h]
set_option maxRecDepth 100000 in
theorem twice_first (a : AcctD) (s : ByteArray) (l : List Int) : firstC (kTwice a s :: l) = if 0 ≤ findH (aH a) s then 6 else firstC l := by
  unfold kTwice
  by_cases h : 0 ≤ findH (aH a) s
  · rw [codeIf_yes (by simp; omega), firstC_here (by decide), if_pos h]
  · rw [codeIf_no (by simp; omega), firstC_zero rfl, if_neg h]
set_option maxRecDepth 100000 in
theorem full_first {a : AcctD} (ha : (aH a).length ≤ 4) (l : List Int) : firstC (kFull a :: l) = if (aH a).length = 4 then 10 else firstC l := by
  unfold kFull
  by_cases h : (aH a).length = 4
  · rw [codeIf_yes (by simp; omega), firstC_here (by decide), if_pos h]
  · rw [codeIf_no (by simp; omega), firstC_zero rfl, if_neg h]
set_option maxRecDepth 100000 in
theorem funds_first (n r : Int) (l : List Int) : firstC (kFunds n r :: l) = if r < n then 7 else firstC l := by
  unfold kFunds
  by_cases h : r < n
  · rw [codeIf_yes (by simpa using h), firstC_here (by decide), if_pos h]
  · rw [codeIf_no (by simpa using h), firstC_zero rfl, if_neg h]
set_option maxRecDepth 100000 in
theorem form_parts {a : AcctD} {s : ByteArray} {now : Int} (h : ¬ formB a s now = false) : acctOk a = true ∧ timeB now = true ∧ idOk s = true := by
  unfold formB at h
  simp only [Bool.not_eq_false, Bool.and_eq_true] at h
  exact ⟨h.1, h.2.1, h.2.2⟩
/-- what an operation says of its code: k ≠ 0 gives nothing, 0 gives the account -/
def says2 (k : Int) (r : AcctD × Int) (x : AcctD) : Prop := k = r.2 ∧ (k ≠ 0 → r.1 = acctNil) ∧ (k = 0 → r.1 = x)
set_option maxRecDepth 100000 in
theorem says2.no {k : Int} (h : k ≠ 0) (x : AcctD) : says2 k (acctNil, k) x := ⟨rfl, fun _ => rfl, fun e => absurd e h⟩
set_option maxRecDepth 100000 in
theorem move_codes (a b : AcctD) (s : ByteArray) (now : Int) (k : Int) (hk : k = firstC [kState a now, kState b now, kId s, codeIf (decide (aId a = aId b)) 4, kHeld (acctSwept a now) s, kTwice (acctSwept b now) s, kFull (acctSwept b now), kFunds (holdFor (aH (acctSwept a now)) s).2.1 (roomOf (acctSwept b now) now)]) :
    k = (moveL a b s now).2.2 ∧ (k ≠ 0 → (moveL a b s now).1 = acctNil ∧ (moveL a b s now).2.1 = acctNil) ∧ (k = 0 → (moveL a b s now).1 = setH (acctSwept a now) (dropL (aH (acctSwept a now)) s) ∧ (moveL a b s now).2.1 = setH (acctSwept b now) (putH (aH (acctSwept b now)) (holdFor (aH (acctSwept a now)) s)).1) := by
  have no : ∀ k : Int, k ≠ 0 → k = ((acctNil, acctNil, k) : AcctD × AcctD × Int).2.2 ∧ (k ≠ 0 → ((acctNil, acctNil, k) : AcctD × AcctD × Int).1 = acctNil ∧ ((acctNil, acctNil, k) : AcctD × AcctD × Int).2.1 = acctNil) ∧ (k = 0 → ((acctNil, acctNil, k) : AcctD × AcctD × Int).1 = setH (acctSwept a now) (dropL (aH (acctSwept a now)) s) ∧ ((acctNil, acctNil, k) : AcctD × AcctD × Int).2.1 = setH (acctSwept b now) (putH (aH (acctSwept b now)) (holdFor (aH (acctSwept a now)) s)).1) := fun k h => ⟨rfl, fun _ => ⟨rfl, rfl⟩, fun e => absurd e h⟩
  have h0 : k = if (formB a s now && acctOk b) = false then 1 else firstC [codeIf (decide (aId a = aId b)) 4, kHeld (acctSwept a now) s, kTwice (acctSwept b now) s, kFull (acctSwept b now), kFunds (holdFor (aH (acctSwept a now)) s).2.1 (roomOf (acctSwept b now) now)] := by
    rw [hk]
    unfold formB
    cases h1 : acctOk a <;> cases h2 : acctOk b <;> cases h3 : timeB now <;> cases h4 : idOk s <;> simp [kState, kId, codeIf, firstC, h1, h2, h3, h4]
  clear hk
  subst h0
  unfold moveL
  by_cases h : (formB a s now && acctOk b) = false
  · rw [if_pos h, if_pos h]; exact no 1 (by decide)
  have hp : formB a s now = true ∧ acctOk b = true := by simpa using h
  obtain ⟨ha, ht, hi⟩ := form_parts (a := a) (s := s) (now := now) (by rw [hp.1]; decide)
  have hto := swept_ok hp.2 ht
  obtain ⟨o1, o2, o3, o4, o5, o6, o7, o8, o9⟩ := acctOk_iff.1 hto
  have hl4 := (holdsOk_iff.1 o6).2.2
  rw [if_neg h, if_neg h]
  by_cases h1 : aId a = aId b
  · rw [codeIf_yes (decide_eq_true h1), firstC_here (by decide), if_pos h1]; exact no 4 (by decide)
  rw [codeIf_no (decide_eq_false h1), firstC_zero rfl, if_neg h1, held_first]
  unfold moveOn
  by_cases h2 : findH (aH (acctSwept a now)) s < 0
  · rw [if_pos h2, if_pos h2]; exact no 5 (by decide)
  rw [if_neg h2, if_neg h2, twice_first]
  by_cases h3 : 0 ≤ findH (aH (acctSwept b now)) s
  · rw [if_pos h3, if_pos h3]; exact no 6 (by decide)
  rw [if_neg h3, if_neg h3, full_first hl4]
  by_cases h4 : (aH (acctSwept b now)).length = 4
  · rw [if_pos h4, if_pos h4]; exact no 10 (by decide)
  rw [if_neg h4, if_neg h4, funds_first]
  have hf : holdFor (aH (acctSwept a now)) s = (aH (acctSwept a now)).getD (findH (aH (acctSwept a now)) s).toNat noH := by unfold holdFor; rw [if_neg h2]
  rw [hf] at no ⊢
  by_cases h5 : roomOf (acctSwept b now) now < ((aH (acctSwept a now)).getD (findH (aH (acctSwept a now)) s).toNat noH).2.1
  · rw [if_pos h5, if_pos h5]; exact no 7 (by decide)
  rw [if_neg h5, if_neg h5]
  exact ⟨rfl, fun h => absurd rfl h, fun _ => ⟨rfl, rfl⟩⟩
set_option maxRecDepth 100000 in
theorem holdFor_size {l : List HoldD} {N : Nat} {id : ByteArray} (h : ∀ y ∈ l, y.1.size ≤ N) : (holdFor l id).1.size ≤ N := by
  unfold holdFor
  rcases findH_cases l id with h1 | ⟨k, h1, h2⟩
  · rw [if_pos h1]; exact Nat.zero_le _
  · rw [if_neg (by omega), h1, Int.toNat_natCast, getD_some (List.getElem?_eq_getElem h2)]
    exact h _ (List.getElem_mem h2)
end Go.Proofs.YtnmijppppcgobaaGreatDoor
set_option linter.unusedVariables false
namespace Go.Proofs.YtnmijppppcgobaaGreatDoor
open Go.ChangeShapes Go.WideShapes Go.ChangeAt Go.RowKit

set_option maxRecDepth 100000 in
set_option maxHeartbeats 4000000 in
theorem implHasHold_any (hi : Nat) (vh vc vs vl : Value) (a : AcctD) (id : ByteArray) (w : World) (hz : acctSmall 1048576 a) (hbig : acctBig a) (h : AcctR.rd hi w (aCells a vh vc vs vl) a) (hh : hi ≤ w.heap.size) :
    Calls Tryz.prog 125 #[.agg #[.string (aId a), .int .i64 (aLim a), .int .i64 (aPos a), .int .i64 (aMost a), .int .i64 (aSum a), vh, .int .i64 (aR a).1, .int .i64 (aR a).2.1, vc, vs, vl], .string id] w fun e w' => e = .returned (.bool (decide (0 ≤ findH (aH a) id))) ∧ Below w.heap.size w w' := by
  obtain ⟨vh0, vc0, vs0, vl0, hcs, r1, r2, r3, r4⟩ := acct_rd h
  simp only [aCells, List.cons.injEq, and_true, true_and] at hcs
  obtain ⟨rfl, rfl, rfl, rfl⟩ := hcs
  have HHA := Lib.hid (fun W (hW : Below w.heap.size w W) => implHoldAt_any hi _ (aH a) id W hz.h (Rep.below (R := HoldsR) r1 hW hh) (Nat.le_trans hh hW.size))
  obtain ⟨AH, cH, rfl, -⟩ := Rep.slice_form r1
  obtain ⟨AC, cC, rfl, -⟩ := r2.form
  obtain ⟨AS, cS, rfl, -⟩ := r3.form
  obtain ⟨AL, cL, rfl, -⟩ := Rep.slice_form r4
  clear r1 r2 r3 r4 h hz hbig
  generalize findH (aH a) id = fv at HHA ⊢
  obtain ⟨id0, lim, pos, most, sum, hs, ⟨rs, rh, cs, ss⟩, sl⟩ := a
  simp only [aId, aLim, aPos, aMost, aSum, aH, aS] at HHA ⊢
  have HB0 : Hid (Below w.heap.size w (w.alloc (.cells #[.string id0, .int .i64 lim, .int .i64 pos, .int .i64 most, .int .i64 sum, .slice AH hs.length cH, .int .i64 rs, .int .i64 rh, .slice AC cs.length cC, .slice AS ss.length cS, .slice AL sl.length cL] 29))) := Lib.hid ((Below.refl _ _).alloc (Nat.le_refl _) _)
  go_enter Tryz.func125, Tryz.ntmps125
  go_upto_region 1 with fail
  obtain ⟨W, hW⟩ : ∃ W, W = w.alloc (.cells #[.string id0, .int .i64 lim, .int .i64 pos, .int .i64 most, .int .i64 sum, .slice AH hs.length cH, .int .i64 rs, .int .i64 rh, .slice AC cs.length cC, .slice AS ss.length cS, .slice AL sl.length cL] 29) := ⟨_, rfl⟩
  have bb : bk W w.heap.size 29 [.string id0, .int .i64 lim, .int .i64 pos, .int .i64 most, .int .i64 sum, .slice AH hs.length cH, .int .i64 rs, .int .i64 rh, .slice AC cs.length cC, .slice AS ss.length cS, .slice AL sl.length cL] := by rw [hW]; exact bk.new w _ _
  rw [← hW] at HB0 ⊢
  clear hW
  obtain ⟨⟨p0, p1, p2, p3, p4, p5, p6, p7, p8, p9, p10⟩, -⟩ := bb.eleven
  clear bb
  go_wp2_with fail
  refine (HHA.out W HB0.out).mono ?_
  rintro e w1 ⟨rfl, hb1⟩
  have HB1 : Hid (Below w.heap.size w w1) := Lib.hid (HB0.out.trans (hb1.mono HB0.out.size))
  clear hb1 HB0 HHA p0 p1 p2 p3 p4 p5 p6 p7 p8 p9 p10
  by_cases g : 0 ≤ fv
  all_goals
    go_wp2
    go_ret
    exact ⟨by simp [g], HB1.out⟩
set_option maxRecDepth 100000 in
set_option maxHeartbeats 4000000 in
theorem state_says (hi : Nat) (vh vc vs vl : Value) (a : AcctD) (now : Int) (w : World) (B1 B2 : Nat) (hg : Handle w) (hz : acctSmall 1048576 a) (hbig : acctBig a) (h : AcctR.rd hi w (aCells a vh vc vs vl) a) (hh : hi ≤ w.heap.size) (b1 : bk w B1 29 [.string (aId a), .int .i64 (aLim a), .int .i64 (aPos a), .int .i64 (aMost a), .int .i64 (aSum a), vh, .int .i64 (aR a).1, .int .i64 (aR a).2.1, vc, vs, vl]) (b2 : bk w B2 3 [.int .i64 now]) : chkB w 120 #[.pointer (some ⟨B1, 0, none⟩), .pointer (some ⟨B2, 0, none⟩)] (!(acctOk a && timeB now)) := by
  refine ⟨Go.Proofs.enters_of Tryz.func120 (by kernel_rfl) rfl, fun W hW => ?_⟩
  have HC := Lib.hid (implHasState_any hi vh vc vs vl a now W (hg.below hW (Nat.le_refl _)) hz hbig (Rep.below (R := AcctR) h hW hh) (Nat.le_trans hh hW.size))
  obtain ⟨vh0, vc0, vs0, vl0, hcs, r1, r2, r3, r4⟩ := acct_rd h
  simp only [aCells, List.cons.injEq, and_true, true_and] at hcs
  obtain ⟨rfl, rfl, rfl, rfl⟩ := hcs
  obtain ⟨AH, cH, rfl, -⟩ := Rep.slice_form r1
  obtain ⟨AC, cC, rfl, -⟩ := r2.form
  obtain ⟨AS, cS, rfl, -⟩ := r3.form
  obtain ⟨AL, cL, rfl, -⟩ := Rep.slice_form r4
  have z1 := b1.lt
  have c2 : W.cell? ⟨B2, 0, none⟩ = some (.int .i64 now) := (b2.below hW b2.lt).cell 0
  have b1 := b1.below hW z1
  clear r1 r2 r3 r4 h hz hbig hW hg
  clear b2
  generalize (acctOk a && timeB now) = res at HC ⊢
  obtain ⟨id0, lim, pos, most, sum, hs, ⟨rs, rh, cs, ss⟩, sl⟩ := a
  simp only [aId, aLim, aPos, aMost, aSum, aH, aS] at HC b1 ⊢
  obtain ⟨⟨p0, p1, p2, p3, p4, p5, p6, p7, p8, p9, p10⟩, -⟩ := b1.eleven
  clear b1
  go_enter Tryz.func120, Tryz.ntmps120
  go_wp2_with fail
  refine HC.out.mono ?_
  rintro e w1 ⟨rfl, hb1⟩
  have HB1 := Lib.hid hb1
  clear hb1
  go_wp2
  go_ret
  exact ⟨rfl, HB1.out⟩
set_option maxRecDepth 100000 in
set_option maxHeartbeats 4000000 in
theorem held_says (hi : Nat) (vh vc vs vl : Value) (a : AcctD) (id : ByteArray) (w : World) (B1 B2 : Nat) (hz : acctSmall 1048576 a) (hbig : acctBig a) (h : AcctR.rd hi w (aCells a vh vc vs vl) a) (hh : hi ≤ w.heap.size) (b1 : bk w B1 29 [.string (aId a), .int .i64 (aLim a), .int .i64 (aPos a), .int .i64 (aMost a), .int .i64 (aSum a), vh, .int .i64 (aR a).1, .int .i64 (aR a).2.1, vc, vs, vl]) (b2 : bk w B2 9 [.string id]) : chkB w 124 #[.pointer (some ⟨B1, 0, none⟩), .pointer (some ⟨B2, 0, none⟩)] (!decide (0 ≤ findH (aH a) id)) := by
  refine ⟨Go.Proofs.enters_of Tryz.func124 (by kernel_rfl) rfl, fun W hW => ?_⟩
  have HC := Lib.hid (implHasHold_any hi vh vc vs vl a id W hz hbig (Rep.below (R := AcctR) h hW hh) (Nat.le_trans hh hW.size))
  obtain ⟨vh0, vc0, vs0, vl0, hcs, r1, r2, r3, r4⟩ := acct_rd h
  simp only [aCells, List.cons.injEq, and_true, true_and] at hcs
  obtain ⟨rfl, rfl, rfl, rfl⟩ := hcs
  obtain ⟨AH, cH, rfl, -⟩ := Rep.slice_form r1
  obtain ⟨AC, cC, rfl, -⟩ := r2.form
  obtain ⟨AS, cS, rfl, -⟩ := r3.form
  obtain ⟨AL, cL, rfl, -⟩ := Rep.slice_form r4
  have z1 := b1.lt
  have c2 : W.cell? ⟨B2, 0, none⟩ = some (.string id) := (b2.below hW b2.lt).cell 0
  have b1 := b1.below hW z1
  clear r1 r2 r3 r4 h hz hbig hW
  clear b2
  generalize decide (0 ≤ findH (aH a) id) = res at HC ⊢
  obtain ⟨id0, lim, pos, most, sum, hs, ⟨rs, rh, cs, ss⟩, sl⟩ := a
  simp only [aId, aLim, aPos, aMost, aSum, aH, aS] at HC b1 ⊢
  obtain ⟨⟨p0, p1, p2, p3, p4, p5, p6, p7, p8, p9, p10⟩, -⟩ := b1.eleven
  clear b1
  go_enter Tryz.func124, Tryz.ntmps124
  go_wp2_with fail
  refine HC.out.mono ?_
  rintro e w1 ⟨rfl, hb1⟩
  have HB1 := Lib.hid hb1
  clear hb1
  go_wp2
  go_ret
  exact ⟨rfl, HB1.out⟩
set_option maxRecDepth 100000 in
set_option maxHeartbeats 4000000 in
theorem twice_says (hi : Nat) (vh vc vs vl : Value) (a : AcctD) (id : ByteArray) (w : World) (B1 B2 : Nat) (hz : acctSmall 1048576 a) (hbig : acctBig a) (h : AcctR.rd hi w (aCells a vh vc vs vl) a) (hh : hi ≤ w.heap.size) (b1 : bk w B1 29 [.string (aId a), .int .i64 (aLim a), .int .i64 (aPos a), .int .i64 (aMost a), .int .i64 (aSum a), vh, .int .i64 (aR a).1, .int .i64 (aR a).2.1, vc, vs, vl]) (b2 : bk w B2 9 [.string id]) : chkB w 147 #[.pointer (some ⟨B1, 0, none⟩), .pointer (some ⟨B2, 0, none⟩)] (decide (0 ≤ findH (aH a) id)) := by
  refine ⟨Go.Proofs.enters_of Tryz.func147 (by kernel_rfl) rfl, fun W hW => ?_⟩
  have HC := Lib.hid (implHasHold_any hi vh vc vs vl a id W hz hbig (Rep.below (R := AcctR) h hW hh) (Nat.le_trans hh hW.size))
  obtain ⟨vh0, vc0, vs0, vl0, hcs, r1, r2, r3, r4⟩ := acct_rd h
  simp only [aCells, List.cons.injEq, and_true, true_and] at hcs
  obtain ⟨rfl, rfl, rfl, rfl⟩ := hcs
  obtain ⟨AH, cH, rfl, -⟩ := Rep.slice_form r1
  obtain ⟨AC, cC, rfl, -⟩ := r2.form
  obtain ⟨AS, cS, rfl, -⟩ := r3.form
  obtain ⟨AL, cL, rfl, -⟩ := Rep.slice_form r4
  have z1 := b1.lt
  have c2 : W.cell? ⟨B2, 0, none⟩ = some (.string id) := (b2.below hW b2.lt).cell 0
  have b1 := b1.below hW z1
  clear r1 r2 r3 r4 h hz hbig hW
  clear b2
  generalize decide (0 ≤ findH (aH a) id) = res at HC ⊢
  obtain ⟨id0, lim, pos, most, sum, hs, ⟨rs, rh, cs, ss⟩, sl⟩ := a
  simp only [aId, aLim, aPos, aMost, aSum, aH, aS] at HC b1 ⊢
  obtain ⟨⟨p0, p1, p2, p3, p4, p5, p6, p7, p8, p9, p10⟩, -⟩ := b1.eleven
  clear b1
  go_enter Tryz.func147, Tryz.ntmps147
  go_wp2_with fail
  refine HC.out.mono ?_
  rintro e w1 ⟨rfl, hb1⟩
  have HB1 := Lib.hid hb1
  clear hb1
  go_wp2
  go_ret
  exact ⟨rfl, HB1.out⟩
set_option maxRecDepth 100000 in
set_option maxHeartbeats 4000000 in
theorem full_says (hi : Nat) (vh vc vs vl : Value) (a : AcctD) (w : World) (B1 : Nat) (hz : acctSmall 1048576 a) (hbig : acctBig a) (h : AcctR.rd hi w (aCells a vh vc vs vl) a) (hh : hi ≤ w.heap.size) (b1 : bk w B1 29 [.string (aId a), .int .i64 (aLim a), .int .i64 (aPos a), .int .i64 (aMost a), .int .i64 (aSum a), vh, .int .i64 (aR a).1, .int .i64 (aR a).2.1, vc, vs, vl]) : chkB w 148 #[.pointer (some ⟨B1, 0, none⟩)] (decide (4 ≤ (aH a).length)) := by
  refine ⟨Go.Proofs.enters_of Tryz.func148 (by kernel_rfl) rfl, fun W hW => ?_⟩
  obtain ⟨vh0, vc0, vs0, vl0, hcs, r1, r2, r3, r4⟩ := acct_rd h
  simp only [aCells, List.cons.injEq, and_true, true_and] at hcs
  obtain ⟨rfl, rfl, rfl, rfl⟩ := hcs
  obtain ⟨AH, cH, rfl, -⟩ := Rep.slice_form r1
  obtain ⟨AC, cC, rfl, -⟩ := r2.form
  obtain ⟨AS, cS, rfl, -⟩ := r3.form
  obtain ⟨AL, cL, rfl, -⟩ := Rep.slice_form r4
  have b1 := b1.below hW b1.lt
  clear r1 r2 r3 r4 h hz hbig hW
  obtain ⟨id0, lim, pos, most, sum, hs, ⟨rs, rh, cs, ss⟩, sl⟩ := a
  simp only [aId, aLim, aPos, aMost, aSum, aH, aS] at b1 ⊢
  obtain ⟨⟨p0, p1, p2, p3, p4, p5, p6, p7, p8, p9, p10⟩, -⟩ := b1.eleven
  clear b1
  have HN : Hid (decide ((4 : Int) ≤ (hs.length : Int)) = decide (4 ≤ hs.length)) := Lib.hid (by by_cases q : 4 ≤ hs.length <;> simp [q] <;> omega)
  generalize decide (4 ≤ hs.length) = res at HN ⊢
  go_enter Tryz.func148, Tryz.ntmps148
  go_wp2
  go_ret
  exact ⟨ret_bool HN.out, Below.refl _ _⟩
set_option maxRecDepth 100000 in
set_option maxHeartbeats 4000000 in
theorem id_says (id : ByteArray) (hs : id.size ≤ maxLen) (w : World) (B1 : Nat) (b1 : bk w B1 9 [.string id]) : chkB w 121 #[.pointer (some ⟨B1, 0, none⟩)] (!idOk id) := by
  refine ⟨Go.Proofs.enters_of Tryz.func121 (by kernel_rfl) rfl, fun W hW => ?_⟩
  have c1 : W.cell? ⟨B1, 0, none⟩ = some (.string id) := (b1.below hW b1.lt).cell 0
  clear hW b1
  have HC := Lib.hid (implHoldIdOk_any id W hs)
  clear hs
  generalize idOk id = res at HC ⊢
  go_enter Tryz.func121, Tryz.ntmps121
  go_wp2_with fail
  refine HC.out.mono ?_
  rintro e w1 ⟨rfl, hb1⟩
  have HB1 := Lib.hid hb1
  clear hb1
  go_wp2
  go_ret
  exact ⟨rfl, HB1.out⟩
set_option maxRecDepth 100000 in
set_option maxHeartbeats 4000000 in
theorem funds_says (n r : Int) (w : World) (B1 B2 : Nat) (b1 : bk w B1 3 [.int .i64 n]) (b2 : bk w B2 3 [.int .i64 r]) : chkB w 126 #[.pointer (some ⟨B1, 0, none⟩), .pointer (some ⟨B2, 0, none⟩)] (decide (r < n)) := by
  refine ⟨Go.Proofs.enters_of Tryz.func126 (by kernel_rfl) rfl, fun W hW => ?_⟩
  have c1 : W.cell? ⟨B1, 0, none⟩ = some (.int .i64 n) := (b1.below hW b1.lt).cell 0
  have c2 : W.cell? ⟨B2, 0, none⟩ = some (.int .i64 r) := (b2.below hW b2.lt).cell 0
  clear hW b1 b2
  by_cases m0 : r < n
  all_goals
    go_enter Tryz.func126, Tryz.ntmps126
    go_wp2
    go_ret
    exact ⟨by simp [m0], Below.refl _ _⟩
set_option maxRecDepth 100000 in
set_option maxHeartbeats 4000000 in
theorem implStateCheck_any (hi : Nat) (vh vc vs vl : Value) (a : AcctD) (now : Int) (w : World) (hg : Handle w) (hz : acctSmall 1048576 a) (hbig : acctBig a) (h : AcctR.rd hi w (aCells a vh vc vs vl) a) (hh : hi ≤ w.heap.size) :
    Calls Tryz.prog 56 #[.agg #[.string (aId a), .int .i64 (aLim a), .int .i64 (aPos a), .int .i64 (aMost a), .int .i64 (aSum a), vh, .int .i64 (aR a).1, .int .i64 (aR a).2.1, vc, vs, vl], .int .i64 now] w (chkRes (codeIf (!(acctOk a && timeB now)) 1) w) := by
  obtain ⟨vh0, vc0, vs0, vl0, hcs, r1, r2, r3, r4⟩ := acct_rd h
  simp only [aCells, List.cons.injEq, and_true, true_and] at hcs
  obtain ⟨rfl, rfl, rfl, rfl⟩ := hcs
  obtain ⟨AH, cH, rfl, -⟩ := Rep.slice_form r1
  obtain ⟨AC, cC, rfl, -⟩ := r2.form
  obtain ⟨AS, cS, rfl, -⟩ := r3.form
  obtain ⟨AL, cL, rfl, -⟩ := Rep.slice_form r4
  have HA := Lib.hid h
  clear r1 r2 r3 r4 h
  obtain ⟨W, hW⟩ : ∃ W, W = ((w.alloc (.cells #[.string (aId a), .int .i64 (aLim a), .int .i64 (aPos a), .int .i64 (aMost a), .int .i64 (aSum a), .slice AH (aH a).length cH, .int .i64 (aR a).1, .int .i64 (aR a).2.1, .slice AC (aR a).2.2.1.length cC, .slice AS (aR a).2.2.2.length cS, .slice AL (aS a).length cL] 29)).alloc (.cells #[.int .i64 now] 3)) := ⟨_, rfl⟩
  have HB0 : Hid (Below w.heap.size w W) := Lib.hid (by rw [hW]; exact ((Below.refl _ _).alloc (Nat.le_refl _) _).alloc (by simp <;> omega) _)
  have b1 : bk W w.heap.size 29 [.string (aId a), .int .i64 (aLim a), .int .i64 (aPos a), .int .i64 (aMost a), .int .i64 (aSum a), .slice AH (aH a).length cH, .int .i64 (aR a).1, .int .i64 (aR a).2.1, .slice AC (aR a).2.2.1.length cC, .slice AS (aR a).2.2.2.length cS, .slice AL (aS a).length cL] := by rw [hW]; exact (bk.new w _ _).alloc _
  have b2 : bk W (w.heap.size + 1) 3 [.int .i64 now] := by rw [hW]; simpa [Nat.add_assoc] using ((bk.new (w.alloc _) 3 [.int .i64 now]))
  have HRF := Lib.hid (implRefuseIf_any 1 _ _ _ W (state_says hi _ _ _ _ a now W w.heap.size (w.heap.size + 1) (hg.below HB0.out (Nat.le_refl _)) hz hbig (Rep.below (R := AcctR) HA.out HB0.out hh) (Nat.le_trans hh HB0.out.size) b1 b2))
  clear b1 b2
  clear HA hz hbig hg
  generalize codeIf (!(acctOk a && timeB now)) 1 = kk at HRF ⊢
  obtain ⟨id0, lim, pos, most, sum, hs, ⟨rs, rh, cs, ss⟩, sl⟩ := a
  simp only [aId, aLim, aPos, aMost, aSum, aH, aS] at hW HRF ⊢
  go_enter Tryz.func56, Tryz.ntmps56
  go_upto_region 1 with fail
  rw [← hW]
  clear hW
  go_wp2_with fail
  refine HRF.out.mono ?_
  rintro e w1 ⟨g, lb, rfl, hk, hb1⟩
  have HK := Lib.hid hk
  have HB1 : Hid (Below w.heap.size w w1) := Lib.hid (HB0.out.trans (hb1.mono HB0.out.size))
  clear hk hb1
  go_wp2
  go_ret
  exact ⟨_, _, rfl, HK.out, HB1.out⟩
set_option maxRecDepth 100000 in
set_option maxHeartbeats 4000000 in
theorem implHeldCheck_any (hi : Nat) (vh vc vs vl : Value) (a : AcctD) (id : ByteArray) (w : World) (hz : acctSmall 1048576 a) (hbig : acctBig a) (h : AcctR.rd hi w (aCells a vh vc vs vl) a) (hh : hi ≤ w.heap.size) :
    Calls Tryz.prog 59 #[.agg #[.string (aId a), .int .i64 (aLim a), .int .i64 (aPos a), .int .i64 (aMost a), .int .i64 (aSum a), vh, .int .i64 (aR a).1, .int .i64 (aR a).2.1, vc, vs, vl], .string id] w (chkRes (codeIf (!decide (0 ≤ findH (aH a) id)) 5) w) := by
  obtain ⟨vh0, vc0, vs0, vl0, hcs, r1, r2, r3, r4⟩ := acct_rd h
  simp only [aCells, List.cons.injEq, and_true, true_and] at hcs
  obtain ⟨rfl, rfl, rfl, rfl⟩ := hcs
  obtain ⟨AH, cH, rfl, -⟩ := Rep.slice_form r1
  obtain ⟨AC, cC, rfl, -⟩ := r2.form
  obtain ⟨AS, cS, rfl, -⟩ := r3.form
  obtain ⟨AL, cL, rfl, -⟩ := Rep.slice_form r4
  have HA := Lib.hid h
  clear r1 r2 r3 r4 h
  obtain ⟨W, hW⟩ : ∃ W, W = ((w.alloc (.cells #[.string (aId a), .int .i64 (aLim a), .int .i64 (aPos a), .int .i64 (aMost a), .int .i64 (aSum a), .slice AH (aH a).length cH, .int .i64 (aR a).1, .int .i64 (aR a).2.1, .slice AC (aR a).2.2.1.length cC, .slice AS (aR a).2.2.2.length cS, .slice AL (aS a).length cL] 29)).alloc (.cells #[.string id] 9)) := ⟨_, rfl⟩
  have HB0 : Hid (Below w.heap.size w W) := Lib.hid (by rw [hW]; exact ((Below.refl _ _).alloc (Nat.le_refl _) _).alloc (by simp <;> omega) _)
  have b1 : bk W w.heap.size 29 [.string (aId a), .int .i64 (aLim a), .int .i64 (aPos a), .int .i64 (aMost a), .int .i64 (aSum a), .slice AH (aH a).length cH, .int .i64 (aR a).1, .int .i64 (aR a).2.1, .slice AC (aR a).2.2.1.length cC, .slice AS (aR a).2.2.2.length cS, .slice AL (aS a).length cL] := by rw [hW]; exact (bk.new w _ _).alloc _
  have b2 : bk W (w.heap.size + 1) 9 [.string id] := by rw [hW]; simpa [Nat.add_assoc] using ((bk.new (w.alloc _) 9 [.string id]))
  have HRF := Lib.hid (implRefuseIf_any 5 _ _ _ W (held_says hi _ _ _ _ a id W w.heap.size (w.heap.size + 1) hz hbig (Rep.below (R := AcctR) HA.out HB0.out hh) (Nat.le_trans hh HB0.out.size) b1 b2))
  clear b1 b2
  clear HA hz hbig
  generalize codeIf (!decide (0 ≤ findH (aH a) id)) 5 = kk at HRF ⊢
  obtain ⟨id0, lim, pos, most, sum, hs, ⟨rs, rh, cs, ss⟩, sl⟩ := a
  simp only [aId, aLim, aPos, aMost, aSum, aH, aS] at hW HRF ⊢
  go_enter Tryz.func59, Tryz.ntmps59
  go_upto_region 1 with fail
  rw [← hW]
  clear hW
  go_wp2_with fail
  refine HRF.out.mono ?_
  rintro e w1 ⟨g, lb, rfl, hk, hb1⟩
  have HK := Lib.hid hk
  have HB1 : Hid (Below w.heap.size w w1) := Lib.hid (HB0.out.trans (hb1.mono HB0.out.size))
  clear hk hb1
  go_wp2
  go_ret
  exact ⟨_, _, rfl, HK.out, HB1.out⟩
set_option maxRecDepth 100000 in
set_option maxHeartbeats 4000000 in
theorem implTwiceCheck_any (hi : Nat) (vh vc vs vl : Value) (a : AcctD) (id : ByteArray) (w : World) (hz : acctSmall 1048576 a) (hbig : acctBig a) (h : AcctR.rd hi w (aCells a vh vc vs vl) a) (hh : hi ≤ w.heap.size) :
    Calls Tryz.prog 74 #[.agg #[.string (aId a), .int .i64 (aLim a), .int .i64 (aPos a), .int .i64 (aMost a), .int .i64 (aSum a), vh, .int .i64 (aR a).1, .int .i64 (aR a).2.1, vc, vs, vl], .string id] w (chkRes (codeIf (decide (0 ≤ findH (aH a) id)) 6) w) := by
  obtain ⟨vh0, vc0, vs0, vl0, hcs, r1, r2, r3, r4⟩ := acct_rd h
  simp only [aCells, List.cons.injEq, and_true, true_and] at hcs
  obtain ⟨rfl, rfl, rfl, rfl⟩ := hcs
  obtain ⟨AH, cH, rfl, -⟩ := Rep.slice_form r1
  obtain ⟨AC, cC, rfl, -⟩ := r2.form
  obtain ⟨AS, cS, rfl, -⟩ := r3.form
  obtain ⟨AL, cL, rfl, -⟩ := Rep.slice_form r4
  have HA := Lib.hid h
  clear r1 r2 r3 r4 h
  obtain ⟨W, hW⟩ : ∃ W, W = ((w.alloc (.cells #[.string (aId a), .int .i64 (aLim a), .int .i64 (aPos a), .int .i64 (aMost a), .int .i64 (aSum a), .slice AH (aH a).length cH, .int .i64 (aR a).1, .int .i64 (aR a).2.1, .slice AC (aR a).2.2.1.length cC, .slice AS (aR a).2.2.2.length cS, .slice AL (aS a).length cL] 29)).alloc (.cells #[.string id] 9)) := ⟨_, rfl⟩
  have HB0 : Hid (Below w.heap.size w W) := Lib.hid (by rw [hW]; exact ((Below.refl _ _).alloc (Nat.le_refl _) _).alloc (by simp <;> omega) _)
  have b1 : bk W w.heap.size 29 [.string (aId a), .int .i64 (aLim a), .int .i64 (aPos a), .int .i64 (aMost a), .int .i64 (aSum a), .slice AH (aH a).length cH, .int .i64 (aR a).1, .int .i64 (aR a).2.1, .slice AC (aR a).2.2.1.length cC, .slice AS (aR a).2.2.2.length cS, .slice AL (aS a).length cL] := by rw [hW]; exact (bk.new w _ _).alloc _
  have b2 : bk W (w.heap.size + 1) 9 [.string id] := by rw [hW]; simpa [Nat.add_assoc] using ((bk.new (w.alloc _) 9 [.string id]))
  have HRF := Lib.hid (implRefuseIf_any 6 _ _ _ W (twice_says hi _ _ _ _ a id W w.heap.size (w.heap.size + 1) hz hbig (Rep.below (R := AcctR) HA.out HB0.out hh) (Nat.le_trans hh HB0.out.size) b1 b2))
  clear b1 b2
  clear HA hz hbig
  generalize codeIf (decide (0 ≤ findH (aH a) id)) 6 = kk at HRF ⊢
  obtain ⟨id0, lim, pos, most, sum, hs, ⟨rs, rh, cs, ss⟩, sl⟩ := a
  simp only [aId, aLim, aPos, aMost, aSum, aH, aS] at hW HRF ⊢
  go_enter Tryz.func74, Tryz.ntmps74
  go_upto_region 1 with fail
  rw [← hW]
  clear hW
  go_wp2_with fail
  refine HRF.out.mono ?_
  rintro e w1 ⟨g, lb, rfl, hk, hb1⟩
  have HK := Lib.hid hk
  have HB1 : Hid (Below w.heap.size w w1) := Lib.hid (HB0.out.trans (hb1.mono HB0.out.size))
  clear hk hb1
  go_wp2
  go_ret
  exact ⟨_, _, rfl, HK.out, HB1.out⟩
set_option maxRecDepth 100000 in
set_option maxHeartbeats 4000000 in
theorem implFullCheck_any (hi : Nat) (vh vc vs vl : Value) (a : AcctD)  (w : World) (hz : acctSmall 1048576 a) (hbig : acctBig a) (h : AcctR.rd hi w (aCells a vh vc vs vl) a) (hh : hi ≤ w.heap.size) :
    Calls Tryz.prog 75 #[.agg #[.string (aId a), .int .i64 (aLim a), .int .i64 (aPos a), .int .i64 (aMost a), .int .i64 (aSum a), vh, .int .i64 (aR a).1, .int .i64 (aR a).2.1, vc, vs, vl]] w (chkRes (codeIf (decide (4 ≤ (aH a).length)) 10) w) := by
  obtain ⟨vh0, vc0, vs0, vl0, hcs, r1, r2, r3, r4⟩ := acct_rd h
  simp only [aCells, List.cons.injEq, and_true, true_and] at hcs
  obtain ⟨rfl, rfl, rfl, rfl⟩ := hcs
  obtain ⟨AH, cH, rfl, -⟩ := Rep.slice_form r1
  obtain ⟨AC, cC, rfl, -⟩ := r2.form
  obtain ⟨AS, cS, rfl, -⟩ := r3.form
  obtain ⟨AL, cL, rfl, -⟩ := Rep.slice_form r4
  have HA := Lib.hid h
  clear r1 r2 r3 r4 h
  obtain ⟨W, hW⟩ : ∃ W, W = (w.alloc (.cells #[.string (aId a), .int .i64 (aLim a), .int .i64 (aPos a), .int .i64 (aMost a), .int .i64 (aSum a), .slice AH (aH a).length cH, .int .i64 (aR a).1, .int .i64 (aR a).2.1, .slice AC (aR a).2.2.1.length cC, .slice AS (aR a).2.2.2.length cS, .slice AL (aS a).length cL] 29)) := ⟨_, rfl⟩
  have HB0 : Hid (Below w.heap.size w W) := Lib.hid (by rw [hW]; exact (Below.refl _ _).alloc (Nat.le_refl _) _)
  have b1 : bk W w.heap.size 29 [.string (aId a), .int .i64 (aLim a), .int .i64 (aPos a), .int .i64 (aMost a), .int .i64 (aSum a), .slice AH (aH a).length cH, .int .i64 (aR a).1, .int .i64 (aR a).2.1, .slice AC (aR a).2.2.1.length cC, .slice AS (aR a).2.2.2.length cS, .slice AL (aS a).length cL] := by rw [hW]; exact (bk.new w _ _)
  have HRF := Lib.hid (implRefuseIf_any 10 _ _ _ W (full_says hi _ _ _ _ a  W w.heap.size  hz hbig (Rep.below (R := AcctR) HA.out HB0.out hh) (Nat.le_trans hh HB0.out.size) b1))
  clear b1
  clear HA hz hbig
  generalize codeIf (decide (4 ≤ (aH a).length)) 10 = kk at HRF ⊢
  obtain ⟨id0, lim, pos, most, sum, hs, ⟨rs, rh, cs, ss⟩, sl⟩ := a
  simp only [aId, aLim, aPos, aMost, aSum, aH, aS] at hW HRF ⊢
  go_enter Tryz.func75, Tryz.ntmps75
  go_upto_region 1 with fail
  rw [← hW]
  clear hW
  go_wp2_with fail
  refine HRF.out.mono ?_
  rintro e w1 ⟨g, lb, rfl, hk, hb1⟩
  have HK := Lib.hid hk
  have HB1 : Hid (Below w.heap.size w w1) := Lib.hid (HB0.out.trans (hb1.mono HB0.out.size))
  clear hk hb1
  go_wp2
  go_ret
  exact ⟨_, _, rfl, HK.out, HB1.out⟩
set_option maxRecDepth 100000 in
set_option maxHeartbeats 4000000 in
theorem implIdCheck_any (id : ByteArray) (w : World) (hs : id.size ≤ maxLen) :
    Calls Tryz.prog 57 #[.string id] w (chkRes (codeIf (!idOk id) 1) w) := by
  obtain ⟨W, hW⟩ : ∃ W, W = (w.alloc (.cells #[.string id] 9)) := ⟨_, rfl⟩
  have HB0 : Hid (Below w.heap.size w W) := Lib.hid (by rw [hW]; exact (Below.refl _ _).alloc (Nat.le_refl _) _)
  have b1 : bk W w.heap.size 9 [.string id] := by rw [hW]; exact (bk.new w _ _)
  have HRF := Lib.hid (implRefuseIf_any 1 _ _ _ W (id_says id hs W w.heap.size b1))
  clear b1
  generalize codeIf (!idOk id) 1 = kk at HRF ⊢
  go_enter Tryz.func57, Tryz.ntmps57
  go_upto_region 1 with fail
  rw [← hW]
  clear hW
  go_wp2_with fail
  refine HRF.out.mono ?_
  rintro e w1 ⟨g, lb, rfl, hk, hb1⟩
  have HK := Lib.hid hk
  have HB1 : Hid (Below w.heap.size w w1) := Lib.hid (HB0.out.trans (hb1.mono HB0.out.size))
  clear hk hb1
  go_wp2
  go_ret
  exact ⟨_, _, rfl, HK.out, HB1.out⟩
set_option maxRecDepth 100000 in
set_option maxHeartbeats 4000000 in
theorem implFundsCheck_any (n r : Int) (w : World)  :
    Calls Tryz.prog 60 #[.int .i64 n, .int .i64 r] w (chkRes (codeIf (decide (r < n)) 7) w) := by
  obtain ⟨W, hW⟩ : ∃ W, W = ((w.alloc (.cells #[.int .i64 n] 3)).alloc (.cells #[.int .i64 r] 3)) := ⟨_, rfl⟩
  have HB0 : Hid (Below w.heap.size w W) := Lib.hid (by rw [hW]; exact ((Below.refl _ _).alloc (Nat.le_refl _) _).alloc (by simp <;> omega) _)
  have b1 : bk W w.heap.size 3 [.int .i64 n] := by rw [hW]; exact (bk.new w _ _).alloc _
  have b2 : bk W (w.heap.size + 1) 3 [.int .i64 r] := by rw [hW]; simpa [Nat.add_assoc] using ((bk.new (w.alloc _) 3 [.int .i64 r]))
  have HRF := Lib.hid (implRefuseIf_any 7 _ _ _ W (funds_says n r W w.heap.size (w.heap.size + 1) b1 b2))
  clear b1 b2
  generalize codeIf (decide (r < n)) 7 = kk at HRF ⊢
  go_enter Tryz.func60, Tryz.ntmps60
  go_upto_region 1 with fail
  rw [← hW]
  clear hW
  go_wp2_with fail
  refine HRF.out.mono ?_
  rintro e w1 ⟨g, lb, rfl, hk, hb1⟩
  have HK := Lib.hid hk
  have HB1 : Hid (Below w.heap.size w w1) := Lib.hid (HB0.out.trans (hb1.mono HB0.out.size))
  clear hk hb1
  go_wp2
  go_ret
  exact ⟨_, _, rfl, HK.out, HB1.out⟩
end Go.Proofs.YtnmijppppcgobaaGreatDoor
set_option linter.unusedVariables false
namespace Go.Proofs.YtnmijppppcgobaaGreatDoor
open Go.ChangeShapes Go.WideShapes Go.ChangeAt Go.RowKit

set_option maxRecDepth 100000 in
set_option maxHeartbeats 8000000 in
theorem implRoom_any (hi : Nat) (vh vc vs vl : Value) (a : AcctD) (now : Int) (w : World) (hg : Handle w) (hz : acctSmall 1048576 a) (hbig : acctBig a) (h : AcctR.rd hi w (aCells a vh vc vs vl) a) (hh : hi ≤ w.heap.size) :
    Calls Tryz.prog 22 #[.agg #[.string (aId a), .int .i64 (aLim a), .int .i64 (aPos a), .int .i64 (aMost a), .int .i64 (aSum a), vh, .int .i64 (aR a).1, .int .i64 (aR a).2.1, vc, vs, vl], .int .i64 now] w fun e w' => e = .returned (.int .i64 (roomOf a now)) ∧ Below w.heap.size w w' := by
  have HHS := Lib.hid (fun W (hW : Below w.heap.size w W) => implHasState_any hi vh vc vs vl a now W (hg.below hW (Nat.le_refl _)) hz hbig (Rep.below (R := AcctR) h hW hh) (Nat.le_trans hh hW.size))
  obtain ⟨vh0, vc0, vs0, vl0, hcs, r1, r2, r3, r4⟩ := acct_rd h
  simp only [aCells, List.cons.injEq, and_true, true_and] at hcs
  obtain ⟨rfl, rfl, rfl, rfl⟩ := hcs
  clear h
  have HLV := Lib.hid (fun W (hW : Below w.heap.size w W) => implLiveSum_any hi _ (aH a) now W (hg.below hW (Nat.le_refl _)) hz.h (Rep.below (R := HoldsR) r1 hW hh) (Nat.le_trans hh hW.size))
  have HRO : Hid (roomOf a now = if (acctOk a && timeB now) = true then aLim a - aPos a - storedL (liveL (aH a) now) else 0) := Lib.hid rfl
  have HNU : Hid ((acctOk a && timeB now) = true → 0 ≤ aLim a ∧ aLim a ≤ 9007199254740992 ∧ 0 ≤ aPos a ∧ aPos a ≤ 4611686018427387904) := Lib.hid fun hk => acctOk_nums (by simp only [Bool.and_eq_true] at hk; exact hk.1)
  obtain ⟨sr0, sr1⟩ := storedL_range (liveL (aH a) now)
  obtain ⟨AH, cH, rfl, -⟩ := Rep.slice_form r1
  obtain ⟨AC, cC, rfl, -⟩ := r2.form
  obtain ⟨AS, cS, rfl, -⟩ := r3.form
  obtain ⟨AL, cL, rfl, -⟩ := Rep.slice_form r4
  clear r1 r2 r3 r4 hz hbig hg
  generalize (acctOk a && timeB now) = ok at HHS HRO HNU
  generalize storedL (liveL (aH a) now) = st at HLV HRO sr0 sr1
  generalize roomOf a now = rm at HRO ⊢
  obtain ⟨id, lim, pos, most, sum, hs, ⟨rs, rh, cs, ss⟩, sl⟩ := a
  simp only [aId, aLim, aPos, aMost, aSum, aH, aS] at HHS HLV HRO HNU ⊢
  have HAO := Lib.hid (fun V => implAccountOf_any id lim pos most sum AH hs.length cH rs rh AC cs.length cC AS ss.length cS AL sl.length cL V)
  go_enter Tryz.func22, Tryz.ntmps22
  go_upto_region 1 with fail
  obtain ⟨W, hW⟩ : ∃ W, W = w.alloc (.cells #[.string id, .int .i64 lim, .int .i64 pos, .int .i64 most, .int .i64 sum, .slice AH hs.length cH, .int .i64 rs, .int .i64 rh, .slice AC cs.length cC, .slice AS ss.length cS, .slice AL sl.length cL] 29) := ⟨_, rfl⟩
  have bb : bk W w.heap.size 29 [.string id, .int .i64 lim, .int .i64 pos, .int .i64 most, .int .i64 sum, .slice AH hs.length cH, .int .i64 rs, .int .i64 rh, .slice AC cs.length cC, .slice AS ss.length cS, .slice AL sl.length cL] := by rw [hW]; exact bk.new w _ _
  have HBW : Hid (Below w.heap.size w W) := Lib.hid (by rw [hW]; exact (Below.refl _ _).alloc (Nat.le_refl _) _)
  rw [← hW]
  clear hW
  have x0 := bb.lt
  obtain ⟨⟨p0, p1, p2, p3, p4, p5, p6, p7, p8, p9, p10⟩, -⟩ := bb.eleven
  have B0 := Lib.hid bb
  clear bb
  go_wp2_with fail
  refine (HHS.out W HBW.out).mono ?_
  rintro e W3 ⟨rfl, hb3⟩
  have x3 := hb3.size
  have HB3 : Hid (Below w.heap.size w W3) := Lib.hid (HBW.out.trans (hb3.mono (by omega)))
  have B3 := Lib.hid (B0.out.below hb3 (by omega))
  clear hb3 HBW p0 p1 p2 p3 p4 p5 p6 p7 p8 p9 p10 B0
  cases ok
  · have HN := Lib.hid (HRO.out.trans (show _ = (0 : Int) by simp))
    go_wp2
    go_ret
    exact ⟨by rw [HN.out]; rfl, HB3.out⟩
  obtain ⟨k1, k2, k3, k4⟩ := HNU.out (by trivial)
  have HN : Hid (rm = lim - pos - st) := Lib.hid (HRO.out.trans (by simp))
  have HRE := Lib.hid (fun V => implRest_any lim pos most sum st V (by omega) (by omega) (by omega) (by omega))
  clear HRO HHS HNU k1 k2 k3 k4 sr0 sr1
  obtain ⟨⟨p0, p1, p2, p3, p4, p5, p6, p7, p8, p9, p10⟩, -⟩ := B3.out.eleven
  go_wp2_with fail
  refine (HAO.out W3).mono ?_
  rintro e W4 ⟨rfl, hb4⟩
  have x4 := hb4.size
  have HB4 : Hid (Below w.heap.size w W4) := Lib.hid (HB3.out.trans (hb4.mono (by omega)))
  clear hb4 B3 HB3 p0 p1 p2 p3 p4 p5 p6 p7 p8 p9 p10
  go_upto_region 4 with fail
  obtain ⟨V, hV⟩ : ∃ V, V = W4.alloc (.cells #[.int .i64 lim, .int .i64 pos, .int .i64 most, .int .i64 sum, .string id, .slice AH hs.length cH, .int .i64 rs, .int .i64 rh, .slice AC cs.length cC, .slice AS ss.length cS, .slice AL sl.length cL] 97) := ⟨_, rfl⟩
  have b5 : bk V W4.heap.size 97 [.int .i64 lim, .int .i64 pos, .int .i64 most, .int .i64 sum, .string id, .slice AH hs.length cH, .int .i64 rs, .int .i64 rh, .slice AC cs.length cC, .slice AS ss.length cS, .slice AL sl.length cL] := by rw [hV]; exact bk.new W4 _ _
  have HB5 : Hid (Below w.heap.size w V) := Lib.hid (by rw [hV]; exact HB4.out.alloc (by omega) _)
  rw [← hV]
  clear hV HB4
  have x5 := b5.lt
  obtain ⟨⟨p0, p1, p2, p3, p4, p5, p6, p7, p8, p9, p10⟩, -⟩ := b5.eleven
  have P0 := Lib.hid p0
  have P1 := Lib.hid p1
  have P2 := Lib.hid p2
  have P3 := Lib.hid p3
  have P5 := Lib.hid p5
  clear b5 p0 p1 p2 p3 p4 p5 p6 p7 p8 p9 p10
  have HX : Hid (Ext V V.drew) := Lib.hid (Ext.refl V).drew
  have HBX : Hid (∀ U, Ext V U → Below w.heap.size w U) := Lib.hid fun U hU => HB5.out.trans (hU.below.mono (by omega))
  refine quiet_region (C := Ext V) (by kernel_rfl) (by kernel_rfl) HX.out ?_
  repeat (first
    | go_big_quiet_skip
    | (go_big_quiet_want; go_big_quiet_op; go_big_quiet_on)
    | (go_big_quiet_want; go_big_quiet_op; apply Exists.intro; refine ⟨fun _ _ => rfl, ?_⟩; go_big_quiet_on)
    | (go_big_quiet_want
       apply Exists.intro
       refine ⟨fun U hU => ?_, ?_⟩
       (have q0 := hU.cell P0.out (by omega)
        have q1 := hU.cell P1.out (by omega)
        have q2 := hU.cell P2.out (by omega)
        have q3 := hU.cell P3.out (by omega)
        have q5 := hU.cell P5.out (by omega)
        unfold Oper.quietAt
        go_simp
        rfl)
       simp only [Act.put, List.setIfInBounds_toArray, List.set_cons_zero, List.set_cons_succ]
       go_big_quiet_on)
    | (go_big_quiet_want
       apply Exists.intro
       refine ⟨fun U hU => ?_, ?_⟩
       (unfold Oper.quietAt
        go_simp
        go_at_call 23
        (with_reducible refine (HLV.out U (HBX.out U hU)).mono ?_)
        rintro e w4 ⟨rfl, hb4⟩
        exact ⟨rfl, hU.step hb4⟩)
       simp only [Act.put, List.setIfInBounds_toArray, List.set_cons_zero, List.set_cons_succ]
       go_big_quiet_on)
    | (go_big_quiet_want
       apply Exists.intro
       refine ⟨fun U hU => ?_, ?_⟩
       (unfold Oper.quietAt
        go_simp
        go_at_call 69
        (with_reducible refine (HRE.out U).mono ?_)
        rintro e w4 ⟨rfl, hb4⟩
        exact ⟨rfl, hU.step hb4⟩)
       simp only [Act.put, List.setIfInBounds_toArray, List.set_cons_zero, List.set_cons_succ]
       go_big_quiet_on)
    | fail)
  refine wpQuiet_nil ?_
  intro W5 hW5
  go_wp2
  go_ret
  exact ⟨by rw [HN.out]; rfl, HBX.out W5 hW5⟩
end Go.Proofs.YtnmijppppcgobaaGreatDoor
set_option linter.unusedVariables false
namespace Go.Proofs.YtnmijppppcgobaaGreatDoor
open Go.ChangeShapes Go.WideShapes Go.ChangeAt Go.RowKit

set_option maxRecDepth 100000 in
theorem bk.two {w : World} {g : Nat} {t : TypeId} {a b : Value} (h : bk w g t [a, b]) : (w.cell? ⟨g, 0, none⟩ = some a ∧ w.cell? ⟨g, 1, none⟩ = some b) ∧ (w.frozen? ⟨g, 0, none⟩ = false ∧ w.frozen? ⟨g, 1, none⟩ = false) :=
  ⟨⟨h.cell 0, h.cell 1⟩, h.frozen 0, h.frozen 1⟩
end Go.Proofs.YtnmijppppcgobaaGreatDoor
set_option linter.unusedVariables false
namespace Go.Proofs.YtnmijppppcgobaaGreatDoor
open Go.ChangeShapes Go.WideShapes Go.ChangeAt Go.RowKit

end Go.Proofs.YtnmijppppcgobaaGreatDoor
set_option linter.unusedVariables false
namespace Go.Proofs.YtnmijppppcgobaaGreatDoor
open Go.ChangeShapes Go.WideShapes Go.ChangeAt Go.RowKit

set_option maxRecDepth 100000 in
theorem swept_small {N : Nat} {a : AcctD} (h : acctSmall N a) (now : Int) : acctSmall N (acctSwept a now) := by
  unfold acctSwept
  split
  · exact ⟨Nat.le_trans (List.length_filter_le _ _) h.h, h.c, h.s, h.l, h.r⟩
  · exact h
set_option maxRecDepth 100000 in
theorem swept_big {a : AcctD} (h : acctBig a) (now : Int) : acctBig (acctSwept a now) := by
  unfold acctSwept
  split
  · exact ⟨h.i, Nat.le_trans (List.length_filter_le _ _) h.h, fun x hx => h.hi x (List.mem_filter.1 hx).1, h.c, h.s, h.l, h.li⟩
  · exact h
end Go.Proofs.YtnmijppppcgobaaGreatDoor
set_option linter.unusedVariables false
namespace Go.Proofs.YtnmijppppcgobaaGreatDoor
open Go.ChangeShapes Go.WideShapes Go.ChangeAt Go.RowKit

section
variable {H : Type} {enc : TypeId × Value → H} {P : Program}
/-- every type can be read -/
def allRowed (P : Program) (ts : List TypeId) : Bool := ts.all fun t => P.readableRec t && decide (t < P.types.size)
set_option maxRecDepth 100000 in
theorem trodAll_below (hl : laidOutB P = true) {W W' : World} (hb : Below W.heap.size W W') :
    ∀ {ts : List TypeId} {vs : List Value} {ds : List (DataW H)} {ps : List MemPlace}, allRowed P ts = true → DataW.TrodAll enc P W 0 (fun _ => true) true ts vs ds ps → (∀ x ∈ ps, x.block < W.heap.size) →
      DataW.TrodAll enc P W' 0 (fun b => decide (b < W.heap.size)) true ts vs ds ps
  | [], vs, ds, ps, _, h, _ => by
    obtain ⟨rfl, rfl, rfl⟩ := trodAll_nil h
    exact trodAll_mk0
  | t :: ts, vs, ds, ps, hr, h, hlt => by
    obtain ⟨v0, vs0, d0, ds0, p0, q0, rfl, rfl, rfl, h0, r0⟩ := trodAll_cons h
    simp only [allRowed, List.all_cons, Bool.and_eq_true, decide_eq_true_eq] at hr
    exact trodAll_cons_mk (Below.trod hl hr.1.1 hr.1.2 h0 hb (fun x hx => hlt x (by simp [hx]))) (trodAll_below hl hb (by simpa [allRowed] using hr.2) r0 (fun x hx => hlt x (by simp [hx])))

set_option maxRecDepth 100000 in
theorem post_true {f : Func} {s : ChangeSpec} {apart fresh handsOn : Bool} {W W' : World} {args : Array Value} {ds gs : List (DataW H)} {before pv : List MemPlace} {tb : TypeId}
    (hl : laidOutB P = true) (hr : allRowed P f.params.toList = true) (hW : DataW.Whole enc P f.params.toList s.vars apart W args.toList ds gs before)
    (hfn : s.fn H (ds ++ gs) = { results := [.lit (.bool true)], args := ds, vars := gs }) (ht : f.resultTypes = #[tb]) (hu : P.underlying tb = some .bool)
    (hb : Below W.heap.size W W') (hvars : DataW.TrodVars enc P W' (fun b => decide (b < W.heap.size)) s.vars gs pv) :
    s.post enc P f apart fresh handsOn false W args (.bool true) W' := by
  have hW' := hW
  obtain ⟨p, q, hA, hV, rfl, _, _⟩ := hW
  have hlt := hW'.lt
  refine ⟨ds, gs, p ++ q, [], p, pv, hW', ?_, ?_, ?_, World.keptBut_mono (fun x hx => ?_) (hb.frame (fun _ => False)), fun h => by cases h⟩
  · rw [hfn, ht]
    exact trodAll_cons_mk (shut_bool hu true) trodAll_mk0
  · rw [hfn]
    exact trodAll_below hl hb hr hA (fun x hx => hlt x (by simp [hx]))
  · rw [hfn]
    exact hvars
  · exact hx.elim
end
end Go.Proofs.YtnmijppppcgobaaGreatDoor
