/- MakePairOf of the reference: two right accounts of two numbers; no conditions. -/
import Derived.Test.YtnmijppppcgobaaGreatDoorMrg20
import Derived.Deep.RegionLaw
import Derived.Deep.DeepCutAuto
import Derived.Test.YtnmijppppcgobaaGreatDoorMrg5
set_option linter.unusedVariables false
namespace Go.Proofs.YtnmijppppcgobaaGreatDoor
open Go.ChangeShapes Go.WideShapes Go.ChangeAt Go.RowKit

end Go.Proofs.YtnmijppppcgobaaGreatDoor
set_option linter.unusedVariables false
namespace Go.Proofs.YtnmijppppcgobaaGreatDoor
open Go.ChangeShapes Go.WideShapes Go.ChangeAt Go.RowKit

set_option maxRecDepth 100000 in
theorem holdEql (x y : HoldD) (w : World) : (binOp .eql 33 (.agg #[.string x.1, .int .i64 x.2.1, .int .i64 x.2.2]) (.agg #[.string y.1, .int .i64 y.2.1, .int .i64 y.2.2])).run Tryz.prog w = .ok (.bool (decide (x = y))) w := by
  have hu : Tryz.prog.underlying 33 = some (.struct (Tryz.prog.fieldsOf 33)) := by kernel_rfl
  have hs : Tryz.prog.stoodInHeld 33 = false := by kernel_rfl
  rw [run_eql_struct, run_equalIn_struct w 9999 _ _ _ hu hs, hold_dec]
  have hf : (Tryz.prog.fieldsOf 33).toList.map (fun f => (f.type, f.offset, decide (f.name ≠ "_"))) = [(9, 0, true), (3, 1, true), (3, 2, true)] := by kernel_rfl
  generalize (Tryz.prog.fieldsOf 33).toList = fs at hf
  have hl : fs.length = 3 := by simpa using congrArg List.length hf
  match fs, hl, hf with
  | [f, g, h], _, hf =>
    simp only [List.map_cons, List.map_nil, List.cons.injEq, Prod.mk.injEq, and_true, decide_eq_true_eq] at hf
    obtain ⟨⟨f1, f2, f3⟩, ⟨g1, g2, g3⟩, h1, h2, h3⟩ := hf
    have p1 : ∀ u v z : Value, (Go.part 9 #[u, v, z] 0).run Tryz.prog w = .ok u w := fun u v z => by kernel_rfl
    have p2 : ∀ u v z : Value, (Go.part 3 #[u, v, z] 1).run Tryz.prog w = .ok v w := fun u v z => by kernel_rfl
    have p3 : ∀ u v z : Value, (Go.part 3 #[u, v, z] 2).run Tryz.prog w = .ok z w := fun u v z => by kernel_rfl
    have s1 := fun a b => run_equalIn_string (P := Tryz.prog) w 9998 9 a b Tryz.underlying9
    have s2 := fun a b => run_equalIn_int (P := Tryz.prog) w 9998 3 .i64 .i64 a b Tryz.underlying3
    simp only [Op.eqFields, f1, f2, f3, g1, g2, g3, h1, h2, h3, if_true, Sem.run_bind, Sem.run_ite, Sem.run_pure, p1, p2, p3, s1, s2, Result.andThen_ok, ne_eq, not_false_eq_true]
    cases (x.1.toList == y.1.toList) <;> cases (x.2.1 == y.2.1) <;> cases (x.2.2 == y.2.2) <;> simp
end Go.Proofs.YtnmijppppcgobaaGreatDoor
