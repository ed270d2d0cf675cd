/- Accounts: their layout, out of the words for holds, rings and slots. Plain facts; no conditions. -/
import Derived.Test.YtpeeagkfhdeagaaGreatDoorHold
import Derived.Test.YtpeeagkfhdeagaaGreatDoorRingF
import Derived.Test.YtpeeagkfhdeagaaGreatDoorSlot
set_option linter.unusedVariables false
namespace Go.Proofs.YtpeeagkfhdeagaaGreatDoor
open Go.ChangeShapes Go.WideShapes Go.ChangeAt Go.RowKit

/-- id, limit, posted, most, mostSum, holds, ring, slots -/
abbrev AcctD := ByteArray × Int × Int × Int × Int × List HoldD × RingD × List SlotD
abbrev aId (a : AcctD) : ByteArray := a.1
abbrev aLim (a : AcctD) : Int := a.2.1
abbrev aPos (a : AcctD) : Int := a.2.2.1
abbrev aMost (a : AcctD) : Int := a.2.2.2.1
abbrev aSum (a : AcctD) : Int := a.2.2.2.2.1
abbrev aH (a : AcctD) : List HoldD := a.2.2.2.2.2.1
abbrev aR (a : AcctD) : RingD := a.2.2.2.2.2.2.1
abbrev aS (a : AcctD) : List SlotD := a.2.2.2.2.2.2.2
def AcctR : Rep AcctD := Rep.pair Rep.str (Rep.pair (Rep.int .i64) (Rep.pair (Rep.int .i64) (Rep.pair (Rep.int .i64) (Rep.pair (Rep.int .i64) (Rep.pair HoldsR (Rep.pair RingR SlotsR))))))
/-- its eleven cells -/
def aCells (a : AcctD) (vh vc vs vl : Value) : List Value := [.string (aId a), .int .i64 (aLim a), .int .i64 (aPos a), .int .i64 (aMost a), .int .i64 (aSum a), vh, .int .i64 (aR a).1, .int .i64 (aR a).2.1, vc, vs, vl]
set_option maxRecDepth 100000 in
theorem acct_rd {hi : Nat} {w : World} {cs : List Value} {a : AcctD} (h : AcctR.rd hi w cs a) : ∃ vh vc vs vl, cs = aCells a vh vc vs vl ∧ HoldsR.rd hi w [vh] (aH a) ∧ rd .i64 hi w vc (aR a).2.2.1 ∧ rd .i64 hi w vs (aR a).2.2.2 ∧ SlotsR.rd hi w [vl] (aS a) := by
  obtain ⟨c1, r1, rfl, h1, c2, r2, rfl, h2, c3, r3, rfl, h3, c4, r4, rfl, h4, c5, r5, rfl, h5, c6, r6, rfl, h6, c7, r7, rfl, h7, h8⟩ := h
  have e1 : c1 = [.string (aId a)] := h1
  have e2 : c2 = [.int .i64 (aLim a)] := h2
  have e3 : c3 = [.int .i64 (aPos a)] := h3
  have e4 : c4 = [.int .i64 (aMost a)] := h4
  have e5 : c5 = [.int .i64 (aSum a)] := h5
  subst e1 e2 e3 e4 e5
  obtain ⟨vc, vs, rfl, hc, hs⟩ := ring_rd h7
  have l6 := HoldsR.rd_len h6
  have l8 := SlotsR.rd_len h8
  match c6, r7, l6, l8 with
  | [vh], [vl], _, _ => exact ⟨vh, vc, vs, vl, rfl, h6, hc, hs, h8⟩
set_option maxRecDepth 100000 in
theorem acct_rd_of {hi : Nat} {w : World} {a : AcctD} {vh vc vs vl : Value} (h1 : HoldsR.rd hi w [vh] (aH a)) (h2 : rd .i64 hi w vc (aR a).2.2.1) (h3 : rd .i64 hi w vs (aR a).2.2.2) (h4 : SlotsR.rd hi w [vl] (aS a)) : AcctR.rd hi w (aCells a vh vc vs vl) a :=
  ⟨[_], _, rfl, rfl, [_], _, rfl, rfl, [_], _, rfl, rfl, [_], _, rfl, rfl, [_], _, rfl, rfl, [vh], _, rfl, h1, [_, _, vc, vs], [vl], rfl, ring_rd_of h2 h3, h4⟩
/-- memory of one's own, part by part: the blocks of the parts are apart -/
structure Apart4 (F G H : List Nat) : Prop where
  fg : ∀ b ∈ F, b ∉ G
  fh : ∀ b ∈ F, b ∉ H
  gh : ∀ b ∈ G, b ∉ H
set_option maxRecDepth 100000 in
theorem acct_mine_of {lo hi : Nat} {w : World} {a : AcctD} {vh vc vs vl : Value} {F G H : List Nat} (h1 : HoldsR.own w [vh] (aH a) F) (h2 : RingR.own w [.int .i64 (aR a).1, .int .i64 (aR a).2.1, vc, vs] (aR a) G) (h3 : SlotsR.own w [vl] (aS a) H) (hF : F.Nodup) (hG : G.Nodup) (hH : H.Nodup) (hA : Apart4 F G H) (hb : ∀ b, b ∈ F ∨ b ∈ G ∨ b ∈ H → lo ≤ b ∧ b < hi) : AcctR.mine lo hi w (aCells a vh vc vs vl) a := by
  refine ⟨[] ++ ([] ++ ([] ++ ([] ++ ([] ++ (F ++ (G ++ H)))))), ⟨[_], _, [], _, rfl, rfl, ⟨rfl, rfl⟩, [_], _, [], _, rfl, rfl, ⟨rfl, rfl⟩, [_], _, [], _, rfl, rfl, ⟨rfl, rfl⟩, [_], _, [], _, rfl, rfl, ⟨rfl, rfl⟩, [_], _, [], _, rfl, rfl, ⟨rfl, rfl⟩, [vh], _, F, _, rfl, rfl, h1, [_, _, vc, vs], [vl], G, H, rfl, rfl, h2, h3⟩, ?_, ?_⟩
  · simp only [List.nil_append]
    refine List.nodup_append.2 ⟨hF, List.nodup_append.2 ⟨hG, hH, fun x hx y hy e => hA.gh x hx (e ▸ hy)⟩, fun x hx y hy e => ?_⟩
    rcases List.mem_append.1 hy with hy | hy
    · exact hA.fg x hx (e ▸ hy)
    · exact hA.fh x hx (e ▸ hy)
  · intro b hb'
    simp only [List.nil_append, List.mem_append] at hb'
    exact hb b hb'
set_option maxRecDepth 100000 in
theorem acct_mine {lo hi : Nat} {w : World} {cs : List Value} {a : AcctD} (h : AcctR.mine lo hi w cs a) : ∃ vh vc vs vl F G H, cs = aCells a vh vc vs vl ∧ HoldsR.own w [vh] (aH a) F ∧ RingR.own w [.int .i64 (aR a).1, .int .i64 (aR a).2.1, vc, vs] (aR a) G ∧ SlotsR.own w [vl] (aS a) H ∧ F.Nodup ∧ G.Nodup ∧ H.Nodup ∧ Apart4 F G H ∧ ∀ b, b ∈ F ∨ b ∈ G ∨ b ∈ H → lo ≤ b ∧ b < hi := by
  have hrd := h.rd
  obtain ⟨vh0, vc0, vs0, vl0, hcs, -⟩ := acct_rd hrd
  obtain ⟨FF, ⟨c1, r1, F1, G1, rfl, rfl, ⟨e1, rfl⟩, c2, r2, F2, G2, rfl, rfl, ⟨e2, rfl⟩, c3, r3, F3, G3, rfl, rfl, ⟨e3, rfl⟩, c4, r4, F4, G4, rfl, rfl, ⟨e4, rfl⟩, c5, r5, F5, G5, rfl, rfl, ⟨e5, rfl⟩, c6, r6, F, G6, rfl, rfl, h6, c7, r7, G, H, rfl, rfl, h7, h8⟩, hn, hb⟩ := h
  have e1' : c1 = [.string (aId a)] := e1
  have e2' : c2 = [.int .i64 (aLim a)] := e2
  have e3' : c3 = [.int .i64 (aPos a)] := e3
  have e4' : c4 = [.int .i64 (aMost a)] := e4
  have e5' : c5 = [.int .i64 (aSum a)] := e5
  subst e1' e2' e3' e4' e5'
  simp only [List.nil_append] at hn hb
  have l6 : c6.length = 1 := by obtain ⟨A, c, rfl, -⟩ := h6; rfl
  have l8 : r7.length = 1 := by obtain ⟨A, c, rfl, -⟩ := h8; rfl
  match c6, r7, l6, l8 with
  | [vh], [vl], _, _ =>
    simp only [aCells, List.cons_append, List.nil_append, List.cons.injEq, true_and] at hcs
    obtain ⟨rfl, hcs⟩ := hcs
    have h7l : c7.length = 4 := RingR.rd_len (RingR.own_rd (hi := hi) h7 (fun b hb' => (hb b (by simp only [List.mem_append]; exact .inr (.inl hb'))).2))
    match c7, h7l with
    | [p, q, vc, vs], _ =>
      simp only [List.cons_append, List.nil_append, List.cons.injEq, and_true] at hcs
      obtain ⟨rfl, rfl, rfl, rfl, rfl⟩ := hcs
      obtain ⟨n1, n2, n3⟩ := List.nodup_append.1 hn
      obtain ⟨n4, n5, n6⟩ := List.nodup_append.1 n2
      refine ⟨vh, vc, vs, vl, F, G, H, rfl, h6, h7, h8, n1, n4, n5, ⟨fun b hb1 hb2 => n3 b hb1 b (List.mem_append_left _ hb2) rfl, fun b hb1 hb2 => n3 b hb1 b (List.mem_append_right _ hb2) rfl, fun b hb1 hb2 => n6 b hb1 b hb2 rfl⟩, fun b hb' => hb b ?_⟩
      simp only [List.mem_append]
      exact hb'
set_option maxRecDepth 100000 in
theorem acct_mine_ivl {p0 p1 p2 p3 : Nat} {w : World} {a : AcctD} {vh vc vs vl : Value} (h1 : HoldsR.mine p0 p1 w [vh] (aH a)) (h2 : RingR.mine p1 p2 w [.int .i64 (aR a).1, .int .i64 (aR a).2.1, vc, vs] (aR a)) (h3 : SlotsR.mine p2 p3 w [vl] (aS a)) (h01 : p0 ≤ p1) (h12 : p1 ≤ p2) (h23 : p2 ≤ p3) : AcctR.mine p0 p3 w (aCells a vh vc vs vl) a := by
  obtain ⟨F, f1, f2, f3⟩ := h1
  obtain ⟨G, g1, g2, g3⟩ := h2
  obtain ⟨H, i1, i2, i3⟩ := h3
  refine acct_mine_of f1 g1 i1 f2 g2 i2 ⟨fun b hb hb' => ?_, fun b hb hb' => ?_, fun b hb hb' => ?_⟩ fun b hb => ?_
  · have := f3 b hb; have := g3 b hb'; omega
  · have := f3 b hb; have := i3 b hb'; omega
  · have := g3 b hb; have := i3 b hb'; omega
  · rcases hb with hb | hb | hb
    · have := f3 b hb; omega
    · have := g3 b hb; omega
    · have := i3 b hb; omega
set_option maxRecDepth 100000 in
/-- the cells of a block of eleven -/
theorem bk.eleven {w : World} {g : Nat} {t : TypeId} {a b c d e f i j k l m : Value} (h : bk w g t [a, b, c, d, e, f, i, j, k, l, m]) :
    (w.cell? ⟨g, 0, none⟩ = some a ∧ w.cell? ⟨g, 1, none⟩ = some b ∧ w.cell? ⟨g, 2, none⟩ = some c ∧ w.cell? ⟨g, 3, none⟩ = some d ∧ w.cell? ⟨g, 4, none⟩ = some e ∧ w.cell? ⟨g, 5, none⟩ = some f ∧ w.cell? ⟨g, 6, none⟩ = some i ∧ w.cell? ⟨g, 7, none⟩ = some j ∧ w.cell? ⟨g, 8, none⟩ = some k ∧ w.cell? ⟨g, 9, none⟩ = some l ∧ w.cell? ⟨g, 10, none⟩ = some m) ∧
    (w.frozen? ⟨g, 0, none⟩ = false ∧ w.frozen? ⟨g, 1, none⟩ = false ∧ w.frozen? ⟨g, 2, none⟩ = false ∧ w.frozen? ⟨g, 3, none⟩ = false ∧ w.frozen? ⟨g, 4, none⟩ = false ∧ w.frozen? ⟨g, 5, none⟩ = false ∧ w.frozen? ⟨g, 6, none⟩ = false ∧ w.frozen? ⟨g, 7, none⟩ = false ∧ w.frozen? ⟨g, 8, none⟩ = false ∧ w.frozen? ⟨g, 9, none⟩ = false ∧ w.frozen? ⟨g, 10, none⟩ = false) :=
  ⟨⟨h.cell 0, h.cell 1, h.cell 2, h.cell 3, h.cell 4, h.cell 5, h.cell 6, h.cell 7, h.cell 8, h.cell 9, h.cell 10⟩, h.frozen 0, h.frozen 1, h.frozen 2, h.frozen 3, h.frozen 4, h.frozen 5, h.frozen 6, h.frozen 7, h.frozen 8, h.frozen 9, h.frozen 10⟩
/-- what the laws ask of an account's sizes -/
structure acctSmall (N : Nat) (a : AcctD) : Prop where
  h : (aH a).length ≤ N
  c : (aR a).2.2.1.length ≤ N
  s : (aR a).2.2.2.length ≤ N
  l : (aS a).length ≤ N
  r : ∀ x ∈ aS a, x.2.2.length ≤ N
/-- an account as it is given back -/
def acctOne (a : AcctD) (w : World) (e : Ending) (w' : World) : Prop := ∃ vh vc vs vl, e = .returned (.agg #[.string (aId a), .int .i64 (aLim a), .int .i64 (aPos a), .int .i64 (aMost a), .int .i64 (aSum a), vh, .int .i64 (aR a).1, .int .i64 (aR a).2.1, vc, vs, vl]) ∧ AcctR.mine w.heap.size w'.heap.size w' (aCells a vh vc vs vl) a ∧ Below w.heap.size w w'
/-- an account whose parts lie in intervals of their own -/
def AcctI (lo hi : Nat) (w : World) (vh vc vs vl : Value) (a : AcctD) : Prop := ∃ l1 h1 l2 h2 l3 h3, HoldsR.mine l1 h1 w [vh] (aH a) ∧ RingR.mine l2 h2 w [.int .i64 (aR a).1, .int .i64 (aR a).2.1, vc, vs] (aR a) ∧ SlotsR.mine l3 h3 w [vl] (aS a) ∧ (lo ≤ l1 ∧ h1 ≤ hi ∧ lo ≤ l2 ∧ h2 ≤ hi ∧ lo ≤ l3 ∧ h3 ≤ hi) ∧ (h1 ≤ l2 ∨ h2 ≤ l1) ∧ (h1 ≤ l3 ∨ h3 ≤ l1) ∧ (h2 ≤ l3 ∨ h3 ≤ l2)
set_option maxRecDepth 100000 in
theorem AcctI.mine {lo hi : Nat} {w : World} {vh vc vs vl : Value} {a : AcctD} (h : AcctI lo hi w vh vc vs vl a) : AcctR.mine lo hi w (aCells a vh vc vs vl) a := by
  obtain ⟨l1, h1, l2, h2, l3, h3, ⟨F, f1, f2, f3⟩, ⟨G, g1, g2, g3⟩, ⟨H, i1, i2, i3⟩, hb, d1, d2, d3⟩ := h
  refine acct_mine_of f1 g1 i1 f2 g2 i2 ⟨fun b hb hb' => ?_, fun b hb hb' => ?_, fun b hb hb' => ?_⟩ fun b hb => ?_
  · have := f3 b hb; have := g3 b hb'; omega
  · have := f3 b hb; have := i3 b hb'; omega
  · have := g3 b hb; have := i3 b hb'; omega
  · rcases hb with hb | hb | hb
    · have := f3 b hb; omega
    · have := g3 b hb; omega
    · have := i3 b hb; omega
set_option maxRecDepth 100000 in
theorem AcctI.below {lo hi B : Nat} {w w' : World} {vh vc vs vl : Value} {a : AcctD} (h : AcctI lo hi w vh vc vs vl a) (hb : Below B w w') (hB : hi ≤ B) : AcctI lo hi w' vh vc vs vl a := by
  obtain ⟨l1, h1, l2, h2, l3, h3, m1, m2, m3, hq, d⟩ := h
  exact ⟨l1, h1, l2, h2, l3, h3, m1.below hb (by omega), m2.below hb (by omega), m3.below hb (by omega), hq, d⟩
set_option maxRecDepth 100000 in
theorem AcctI.turned {lo hi lo' hi' : Nat} {w w' : World} {vh vc vs vl : Value} {a : AcctD} (h : AcctI lo hi w vh vc vs vl a) (ht : Turned lo' hi' w w') (h1 : hi ≤ lo' ∨ hi' ≤ lo) (h2 : hi ≤ w.heap.size) : AcctI lo hi w' vh vc vs vl a := by
  obtain ⟨l1, e1, l2, e2, l3, e3, m1, m2, m3, hq, d⟩ := h
  exact ⟨l1, e1, l2, e2, l3, e3, m1.turned ht (by omega) (by omega), m2.turned ht (by omega) (by omega), m3.turned ht (by omega) (by omega), hq, d⟩
set_option maxRecDepth 100000 in
theorem AcctI.mono {lo hi lo' hi' : Nat} {w : World} {vh vc vs vl : Value} {a : AcctD} (h : AcctI lo hi w vh vc vs vl a) (h1 : lo' ≤ lo) (h2 : hi ≤ hi') : AcctI lo' hi' w vh vc vs vl a := by
  obtain ⟨l1, e1, l2, e2, l3, e3, m1, m2, m3, hq, d⟩ := h
  exact ⟨l1, e1, l2, e2, l3, e3, m1, m2, m3, by omega, d⟩
set_option maxRecDepth 100000 in
theorem acctI_ivl {p0 p1 p2 p3 : Nat} {w : World} {a : AcctD} {vh vc vs vl : Value} (h1 : HoldsR.mine p0 p1 w [vh] (aH a)) (h2 : RingR.mine p1 p2 w [.int .i64 (aR a).1, .int .i64 (aR a).2.1, vc, vs] (aR a)) (h3 : SlotsR.mine p2 p3 w [vl] (aS a)) (h01 : p0 ≤ p1) (h12 : p1 ≤ p2) (h23 : p2 ≤ p3) : AcctI p0 p3 w vh vc vs vl a :=
  ⟨p0, p1, p1, p2, p2, p3, h1, h2, h3, by omega, .inl (Nat.le_refl _), .inl h12, .inl (Nat.le_refl _)⟩
/-- an account as it is given back, its parts in intervals -/
def acctOneI (a : AcctD) (w : World) (e : Ending) (w' : World) : Prop := ∃ vh vc vs vl, e = .returned (.agg #[.string (aId a), .int .i64 (aLim a), .int .i64 (aPos a), .int .i64 (aMost a), .int .i64 (aSum a), vh, .int .i64 (aR a).1, .int .i64 (aR a).2.1, vc, vs, vl]) ∧ AcctI w.heap.size w'.heap.size w' vh vc vs vl a ∧ Below w.heap.size w w'
set_option maxRecDepth 100000 in
theorem acctOneI.one {a : AcctD} {w : World} {e : Ending} {w' : World} (h : acctOneI a w e w') : acctOne a w e w' := by
  obtain ⟨vh, vc, vs, vl, he, hm, hb⟩ := h
  exact ⟨vh, vc, vs, vl, he, hm.mine, hb⟩
end Go.Proofs.YtpeeagkfhdeagaaGreatDoor
