/- append of a whole slice as a step of a region that draws its order; a row that lies in one block; no conditions. -/
import Derived.Test.YtkkbhlaakhkjnaaGreatDoorAppAll
import Derived.Deep.RegionLaw
set_option linter.unusedVariables false
namespace Go.Proofs.YtkkbhlaakhkjnaaGreatDoor
open Go.ChangeShapes Go.WideShapes Go.ChangeAt Go.RowKit

section
variable {P : Program} (w : World)
set_option maxRecDepth 100000 in
/-- .. as a step of a region that draws its order (for go_region_law) -/
theorem app_all_step {ops : Array Oper} {o : Oper} {a : Act} {Kn : Act → World → Prop} {Q : Exit → Act → World → Prop} {E : Prop} (hgd : o.guard = none) (s x : Operand) (t : TypeId)
    (ho : o.op = .call { callee := .builtin .append, args := #[s, x], argTypes := #[t, t] })
    (base : Nat) (e : TypeId) (K : IntKind) (bytes : Nat) (ht : P.underlying t = some (.slice e)) (hinfo : (P.info? e).map (fun i => (i.zero, i.size, i.bytes)) = some (some (.int K 0), 1, bytes))
    (v : Value) (l : List Int) (hs : a.eval s = v) (u : Value) (hx : a.eval x = u) (hown : ow e K base w v l) (hi : Nat) (m : List Int) (hr : rd K hi w u m)
    (h63 : l.length + m.length ≤ maxLen) (hbytes : (l.length + m.length) * bytes ≤ 140737488355328) (hbase : base ≤ w.heap.size)
    (h : ∀ v' w', ow e K base w' v' (l ++ m) → w.grownBy w' v.ownBlock → Below base w w' → Kn (a.put o.dst v') w') : if Region.wanted o (yielded ops a.tmps) = true then o.wp P a w Kn Q else E := by
  rw [if_pos (by simp [Region.wanted, hgd])]
  exact wp_app_all w s x t ho base e K bytes ht hinfo v l hs hown hi u m hx hr h63 hbytes hbase fun v' w' h2 h3 => h v' w' h2 h3 ((Below.refl base w).grown h3 hbase fun k hk => (hown.lt k hk).1)
end
set_option maxRecDepth 100000 in
theorem ow_at {W : World} {n : Nat} {c : Int} {T : TypeId} {K : IntKind} {B : Nat} (h : W.heap[n]? = some (.cells #[.int K c] T (0, 0))) (hB : B ≤ n) : ow T K B W (.slice (some ⟨n, 0, none⟩) 1 1) [c] :=
  ⟨rfl, Or.inr ⟨n, 1, #[.int K c], rfl, hB, h, Nat.le_refl _, by decide, rfl, rfl⟩⟩
set_option maxRecDepth 100000 in
theorem rd_at {W : World} {n : Nat} {c : Int} {T : TypeId} {K : IntKind} (h : W.heap[n]? = some (.cells #[.int K c] T (0, 0))) : rd K W.heap.size W (.slice (some ⟨n, 0, none⟩) 1 1) [c] := (ow_at (B := 0) h (Nat.zero_le _)).nums.rd
end Go.Proofs.YtkkbhlaakhkjnaaGreatDoor
