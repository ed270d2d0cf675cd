/- append of one element of one cell, the new cell's block given by number; no conditions. -/
import Derived.Test.YtpeeagkfhdeagaaGreatDoorNums
set_option linter.unusedVariables false
namespace Go.Proofs.YtpeeagkfhdeagaaGreatDoor
open Go.ChangeShapes Go.WideShapes Go.ChangeAt Go.RowKit

set_option maxRecDepth 100000 in
theorem app_one' {P : Program} {ops : Array Oper} {rest : List Oper} {o : Oper} {a : Act} {Q : Exit → Act → World → Prop} {α : Type} (f : α → Value) (hf : ∀ x, (f x).oneCell' = true)
    (t e : TypeId) (z : Value) (bytes : Nat) (ht : P.underlying t = some (.slice e)) (hinfo : (P.info? e).map (fun i => (i.zero, i.size, i.bytes)) = some (some z, 1, bytes)) (hzs : z.cells.size = 1)
    (s x : Operand) (hgd : o.guard = none) (ho : o.op = .call { callee := .builtin .append, args := #[s, x], argTypes := #[t, t] })
    (w0 W : World) (v : Value) (l : List α) (y : α) (n : Nat) (hs : a.eval s = v) (hx : a.eval x = .slice (some ⟨n, 0, none⟩) 1 1) (hn : n = W.heap.size)
    (hown : W.ownsRow w0.heap.size e 1 v l.length (l.map f)) (hb : Below w0.heap.size w0 W) (h63 : l.length + 1 ≤ maxLen) (hbytes : (l.length + 1) * bytes ≤ 140737488355328)
    (h : ∀ v' w', w'.ownsRow w0.heap.size e 1 v' (l ++ [y]).length ((l ++ [y]).map f) → Below w0.heap.size w0 w' → wpList P ops Q rest (a.put o.dst v') w') : wpList P ops Q (o :: rest) a (W.alloc (.cells #[f y] e)) := by
  subst hn
  exact app_one f hf t e z bytes ht hinfo hzs s x hgd ho w0 W v l y hs hx hown hb h63 hbytes h
end Go.Proofs.YtpeeagkfhdeagaaGreatDoor
