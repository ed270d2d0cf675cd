/- SlotPut of the reference; no conditions. -/
import Derived.Test.YtpeeagkfhdeagaaGreatDoorSlotC
import Derived.Test.YtpeeagkfhdeagaaGreatDoorSlotK
import Derived.Deep.RegionHeld3
import Derived.Deep.DeepCutAuto
set_option linter.unusedVariables false
namespace Go.Proofs.YtpeeagkfhdeagaaGreatDoor
open Go.ChangeShapes Go.WideShapes Go.ChangeAt Go.RowKit

set_option maxRecDepth 100000 in
/-- append(s, T{..}) as a step of a region that draws its order, the element lying anywhere -/
theorem app_src_step {P : Program} {ops : Array Oper} {o : Oper} {a : Act} {Kn : Act → World → Prop} {Q : Exit → Act → World → Prop} {E : Prop} {α : Type} (enc : α → List Value) (k : Nat) (hk : ∀ x, (enc x).length = k) (hk0 : 0 < k) (hone : ∀ x, ∀ u ∈ enc x, u.oneCell' = true)
    (t e : TypeId) (zs : Array Value) (bytes : Nat) (ht : P.underlying t = some (.slice e)) (hinfo : (P.info? e).map (fun i => (i.zero.map (·.cells), i.size, i.bytes)) = some (some zs, k, bytes)) (hzs : zs.size = k)
    (s x : Operand) (hgd : o.guard = none) (ho : o.op = .call { callee := .builtin .append, args := #[s, x], argTypes := #[t, t] })
    (base : Nat) (W : World) (v : Value) (l : List α) (y : α) (n : Nat) (hs : a.eval s = v) (hx : a.eval x = .slice (some ⟨n, 0, none⟩) 1 1) (hc : ∀ j u, (enc y)[j]? = some u → W.cell? ⟨n, j, none⟩ = some u)
    (hown : owE e k enc base W v l) (h63 : l.length + 1 ≤ maxLen) (hbytes : (l.length + 1) * bytes ≤ 140737488355328) (hbase : base ≤ W.heap.size)
    (h : ∀ A c w', owE e k enc base w' (.slice A (l.length + 1) c) (l ++ [y]) → l.length + 1 ≤ c → W.grownBy w' v.ownBlock → ((Value.slice A (l.length + 1) c).ownBlock = v.ownBlock ∨ (Value.slice A (l.length + 1) c).ownBlock = some W.heap.size) → Kn (a.put o.dst (.slice A (l.length + 1) c)) w') : if Region.wanted o (yielded ops a.tmps) = true then o.wp P a W Kn Q else E := by
  rw [if_pos (by simp [Region.wanted, hgd])]
  obtain ⟨i, hi, hxx⟩ := Option.map_eq_some_iff.1 hinfo
  simp only [Prod.mk.injEq] at hxx
  obtain ⟨hz, hsize, hby⟩ := hxx
  obtain ⟨z, hzz, hzc⟩ := Option.map_eq_some_iff.1 hz
  have hcells : ∀ j u, (enc y)[j]? = some u → W.cell? ((⟨n, 0, none⟩ : Addr).add j) = some u := by
    intro j u hu
    have e1 : (⟨n, 0, none⟩ : Addr).add j = ⟨n, j, none⟩ := by
      unfold Addr.add
      split
      · next h0 => rw [h0]
      · simp
    rw [e1]
    exact hc j u hu
  obtain ⟨v', w1, hr, hown', hgrow, _, hlies⟩ := run_append_own_at (P := P) W base t o.type e i z k bytes ht hi hzz hsize hby (by rw [hzc, hzs]) hk0 v l.length (l.flatMap enc) hown ⟨n, 0, none⟩ 1 1 (enc y) (by rw [hk]; omega) hcells (hone y) h63 hbytes hbase
  have ho' : owE e k enc base w1 v' (l ++ [y]) := by
    unfold owE
    rw [List.length_append, List.flatMap_append]
    simpa using hown'
  obtain ⟨A, c, rfl, hc'⟩ := ho'.form
  rw [List.length_append] at ho' hc' hlies hr
  unfold Oper.wp execOp
  simp only [ho, resolve, invoke, builtin, Sem.run_bind, Sem.run_pure, Result.andThen_ok, List.map_toArray, List.map_cons, List.map_nil, hs, hx, hr]
  exact h A c w1 ho' hc' hgrow (by simpa using hlies)
set_option maxRecDepth 100000 in
/-- such a row is read -/
theorem owE_slots_rd {T : TypeId} {B : Nat} {w : World} {v : Value} {ps : List SlotV} (ho : owE T 3 sCells B w v ps) (hr : ∀ (j : Nat) (y : SlotV), ps[j]? = some y → rd .u8 w.heap.size w (sv y) y.1.2.2) : SlotsR.rd w.heap.size w [v] (ps.map (·.1)) := by
  obtain ⟨A, c, rfl, hc⟩ := ho.form
  refine ⟨A, c, by rw [List.length_map], by rw [List.length_map]; exact hc, fun j x hx => ?_⟩
  rw [List.getElem?_map] at hx
  obtain ⟨y, hy, rfl⟩ := Option.map_eq_some_iff.1 hx
  have hj := (List.getElem?_eq_some_iff.1 hy).1
  rcases ho.filled (fun _ => rfl) ((⟨#[]⟩, ⟨#[]⟩, []), (none, 0)) with ⟨rfl, -⟩ | ⟨b, c', hv, -, h1, h2, hf⟩
  · simp at hj
  · simp only [Value.slice.injEq, true_and] at hv
    obtain ⟨rfl, rfl⟩ := hv
    have hat := hf.at_ j hj
    have hg : ps.getD j ((⟨#[]⟩, ⟨#[]⟩, []), (none, 0)) = y := by rw [List.getD_eq_getElem?_getD, hy]; rfl
    rw [hg] at hat
    exact ⟨b, 0, sCells y, rfl, h2, slot_rd_of (hr j y hy), hat⟩
set_option maxRecDepth 100000 in
theorem put_read {T : TypeId} {B hi : Nat} {w : World} {A AX : Option Addr} {c cX : Nat} {ps : List SlotV} {p q : Nat → Nat} {row : Option Nat} {l : List SlotD} {x : SlotD} (ho : owE T 3 sCells B w (.slice A (ps.length + 1) c) (ps ++ [((x, (AX, cX)) : SlotV)])) (hr : replies w row B ps p q) (hu : rd .u8 hi w (.slice AX x.2.2.length cX) x.2.2) (hh : hi ≤ w.heap.size) (hm : ps.map (·.1) = l) : SlotsR.rd w.heap.size w [.slice A (ps.length + 1) c] (l ++ [x]) := by
  have h := owE_slots_rd ho fun j y hy => by
    by_cases e : j = ps.length
    · subst e
      have : y = (x, (AX, cX)) := by simpa using hy.symm
      subst this
      exact rd.mono hu hh
    · have hj : j < ps.length := by have := (List.getElem?_eq_some_iff.1 hy).1; simp at this; omega
      rw [List.getElem?_append_left hj] at hy
      exact rd.mono (hr.own j y hy).rd (hr.in_ j hj).2
  rw [List.map_append, hm] at h
  exact h
def slotPutL (l : List SlotD) (x : SlotD) : List SlotD × Bool := if slotsOk (l ++ [x]) = true then (l ++ [x], true) else ([], false)
def slotsRes (l : List SlotD) (ok : Bool) (w : World) (e : Ending) (w' : World) : Prop := ∃ u, e = .returned (.tuple #[u, .bool ok]) ∧ SlotsR.mine w.heap.size w'.heap.size w' [u] l ∧ Below w.heap.size w w'
end Go.Proofs.YtpeeagkfhdeagaaGreatDoor
