/- errors.As at a target of the program's own error type: nil is none; an overflow is stored into the target. The library's table of type handles holds what its text lays. -/
import Derived.Test.YtkbakcnhhlmpkaaDoorMon
import Derived.LaidEql
import Derived.Stop.Asserts
import Derived.RowKitTokens
import Derived.Lib.ReflectliteSlice
set_option linter.unusedVariables false
namespace Go.Proofs.YtkbakcnhhlmpkaaDoor
open Go.ChangeShapes Go.WideShapes Go.ChangeAt Go.RowKit Go.Extern.Stop Go.Stop Go.Extern

set_option maxRecDepth 100000 in
theorem as_nil (t : Value) (w : World) :
    Calls Tryd.prog 18 #[.nilIface, t] w fun e w' => e = .returned (.bool false) ∧ w = w' := by
  go_enter Tryd.func18, Tryd.ntmps18
  go_wp2
  go_ret
  exact ⟨rfl, rfl⟩

abbrev big : Value := .int .i64 4611686018427387904
abbrev OV : Nat := 49
abbrev OP : Nat := 51
abbrev ER : Nat := 42
abbrev RT : Nat := 97
set_option maxRecDepth 100000 in
theorem r_valueOfP (t : Addr) (w : World) : (ReflectliteValue.unpack (.iface OP (.pointer (some t)))).run Tryd.prog w
    = .ok (.agg #[.pointer (some ⟨6, OP, none⟩), .pointer (some ⟨w.heap.size, 0, none⟩), .int .u64 150]) (w.alloc (.cells #[.pointer (some t)] OP)) := by kernel_rfl
set_option maxRecDepth 100000 in
theorem r_typeP (a : Addr) (w : World) : (ReflectliteValue.methodAny (ReflectliteValue.valueError "reflectlite.Value.Type" 0) (fun t _ _ _ => ReflectliteType.toType t) #[.agg #[.pointer (some ⟨6, OP, none⟩), .pointer (some a), .int .u64 150]]).run Tryd.prog w
    = .ok (.iface RT (.agg #[.pointer (some ⟨6, OP, none⟩)])) w := by kernel_rfl
set_option maxRecDepth 100000 in
theorem r_kindP (w : World) : ((ReflectliteType.abiMethod fun t => (fun a : Nat => Value.int IntKind.u8 (a : Int)) <$> Rtype.kind t) #[.pointer (some ⟨6, OP, none⟩)]).run Tryd.prog w = .ok (.int .u8 22) w := by kernel_rfl
set_option maxRecDepth 100000 in
theorem r_kindV (w : World) : ((ReflectliteType.abiMethod fun t => (fun a : Nat => Value.int IntKind.u8 (a : Int)) <$> Rtype.kind t) #[.pointer (some ⟨6, OV, none⟩)]).run Tryd.prog w = .ok (.int .u8 25) w := by kernel_rfl
set_option maxRecDepth 100000 in
theorem r_elem (w : World) : (ReflectliteType.method ReflectliteType.elem #[.agg #[.pointer (some ⟨6, OP, none⟩)]]).run Tryd.prog w = .ok (.iface RT (.agg #[.pointer (some ⟨6, OV, none⟩)])) w := by kernel_rfl
set_option maxRecDepth 100000 in
theorem r_impl (w : World) : (ReflectliteType.relation "Implements" ReflectliteType.implements_ #[.agg #[.pointer (some ⟨6, OV, none⟩)], .iface RT (.agg #[.pointer (some ⟨6, ER, none⟩)])]).run Tryd.prog w = .ok (.bool true) w := by kernel_rfl
set_option maxRecDepth 100000 in
theorem r_typeOf (v : Value) (w : World) : (ReflectliteType.typeOf #[.iface OV v]).run Tryd.prog w = .ok (.iface RT (.agg #[.pointer (some ⟨6, OV, none⟩)])) w := by kernel_rfl
set_option maxRecDepth 100000 in
theorem r_assign (w : World) : (ReflectliteType.relation "AssignableTo" ReflectliteType.assignableTo #[.agg #[.pointer (some ⟨6, OV, none⟩)], .iface RT (.agg #[.pointer (some ⟨6, OV, none⟩)])]).run Tryd.prog w = .ok (.bool true) w := by kernel_rfl
set_option maxRecDepth 100000 in
theorem r_valueOfV (w : World) : (ReflectliteValue.unpack (.iface OV (.agg #[big]))).run Tryd.prog w
    = .ok (.agg #[.pointer (some ⟨6, OV, none⟩), .pointer (some ⟨w.heap.size, 0, none⟩), .int .u64 153]) (w.alloc (.cells #[big] OV)) := by kernel_rfl
set_option maxRecDepth 100000 in
theorem r_partsP (a : Addr) (w : World) : (ReflectliteValue.parts (.agg #[.pointer (some ⟨6, OP, none⟩), .pointer (some a), .int .u64 150])).run Tryd.prog w = .ok (some (OP, a, 150)) w := by kernel_rfl
set_option maxRecDepth 100000 in
theorem r_partsA (a : Addr) (w : World) : (ReflectliteValue.parts (.agg #[.pointer (some ⟨6, OV, none⟩), .pointer (some a), .int .u64 409])).run Tryd.prog w = .ok (some (OV, a, 409)) w := by kernel_rfl
set_option maxRecDepth 100000 in
theorem r_partsV (a : Addr) (w : World) : (ReflectliteValue.parts (.agg #[.pointer (some ⟨6, OV, none⟩), .pointer (some a), .int .u64 153])).run Tryd.prog w = .ok (some (OV, a, 153)) w := by kernel_rfl
set_option maxRecDepth 100000 in
theorem r_elemOf (w : World) : (Rtype.elem? OP).run Tryd.prog w = .ok (some OV) w := by kernel_rfl
set_option maxRecDepth 100000 in
theorem r_mk (p : Addr) (w : World) : (ReflectliteValue.mk OV p ReflectliteValue.flagAddr).run Tryd.prog w = .ok (.agg #[.pointer (some ⟨6, OV, none⟩), .pointer (some p), .int .u64 409]) w := by kernel_rfl
set_option maxRecDepth 100000 in
theorem r_direct (w : World) : (Rtype.directlyAssignable OV OV).run Tryd.prog w = .ok true w := by kernel_rfl
set_option maxRecDepth 100000 in
theorem r_size (w : World) : (sizeOf OV).run Tryd.prog w = .ok 1 w := by kernel_rfl
set_option maxRecDepth 100000 in
theorem r_method (z : Sem Value) (f : TypeId → Addr → Nat → Nat → Sem Value) (v : Value) :
    ReflectliteValue.method z f #[v] = (do match ← ReflectliteValue.parts v with | none => z | some (t, a, fl) => f t a fl (fl % 32)) := rfl
set_option maxRecDepth 100000 in
theorem r_isNil (a p : Addr) (W : World) (ha : W.cell? a = some (.pointer (some p))) :
    (ReflectliteValue.method (ReflectliteValue.valueError "reflectlite.Value.IsNil" 0) ReflectliteValue.isNil #[.agg #[.pointer (some ⟨6, OP, none⟩), .pointer (some a), .int .u64 150]]).run Tryd.prog W = .ok (.bool false) W := by
  rw [r_method]
  simp only [Sem.run_bind, r_partsP, Result.andThen]
  simp [ReflectliteValue.isNil, loadVar, isAgg, underlying, Tryd.underlying51, ha, Result.andThen]
set_option maxRecDepth 100000 in
theorem r_elemV (a p : Addr) (W : World) (ha : W.cell? a = some (.pointer (some p))) :
    (ReflectliteValue.method (ReflectliteValue.valueError "reflectlite.Value.Elem" 0) ReflectliteValue.elem #[.agg #[.pointer (some ⟨6, OP, none⟩), .pointer (some a), .int .u64 150]]).run Tryd.prog W
      = .ok (.agg #[.pointer (some ⟨6, OV, none⟩), .pointer (some p), .int .u64 409]) W := by
  rw [r_method]
  simp only [Sem.run_bind, r_partsP, Result.andThen]
  simp [ReflectliteValue.elem, loadVar, isAgg, underlying, Tryd.underlying51, ha, Result.andThen, r_elemOf, r_mk]
set_option maxRecDepth 100000 in
theorem r_setText (v x : Value) : ReflectliteValue.set #[v, x] = (do
    let (some (dst, a, fl), some (src, b, _)) := (← ReflectliteValue.parts v, ← ReflectliteValue.parts x)
      | unsupported (.noEntry "extern/(internal/reflectlite.Value).Set.zeroValue")
    if fl / ReflectliteValue.flagAddr % 2 == 0 then unsupported (.noEntry "extern/(internal/reflectlite.Value).Set.unaddressable")
    let val ← loadVar src b
    if ← Rtype.directlyAssignable dst src then storeVar dst a val
    else if ← Rtype.implements dst src then
      if (← Rtype.kind src) == 20 then
        match val with
        | .nilIface => unsupported (.noEntry "extern/reflectlite: a nil value of one interface type handed on as a value of another")
        | _ => storeVar dst a val
      else storeVar dst a (.iface src val)
    else panicString ("reflectlite.Set: value of type " ++ (← Rtype.spelt src) ++ " is not assignable to type " ++ (← Rtype.spelt dst))
    pure (.tuple #[])) := rfl
set_option maxRecDepth 100000 in
theorem r_info : (Tryd.prog.info? OV).map (·.size) = some 1 := by kernel_rfl
set_option maxRecDepth 100000 in
theorem r_load (b : Nat) (W : World) (hB : W.heap[b]? = some (.cells #[big] OV (0, 0))) : (loadVar OV ⟨b, 0, none⟩).run Tryd.prog W = .ok (.agg #[big]) W :=
  run_loadVar_row W b OV OV #[big] (0, 0) _ hB Tryd.underlying49 rfl r_info
set_option maxRecDepth 100000 in
theorem r_store (ta : Addr) (old : Value) (W : World) (ht : W.cell? ta = some old) (hf : W.frozen? ta = false) : (storeVar OV ta (.agg #[big])).run Tryd.prog W = .ok () (W.setCell ta big) := by
  unfold storeVar
  simp only [Sem.run_bind, r_size, Result.andThen]
  simp [Value.cells, storeCells, Addr.add]
  rw [run_store Tryd.prog W ta _ _ (by rfl)]
  simp [ht, hf]
set_option maxRecDepth 100000 in
theorem r_set (ta : Addr) (b : Nat) (old : Value) (W : World) (hB : W.heap[b]? = some (.cells #[big] OV (0, 0))) (ht : W.cell? ta = some old) (hf : W.frozen? ta = false) :
    (ReflectliteValue.set #[.agg #[.pointer (some ⟨6, OV, none⟩), .pointer (some ta), .int .u64 409], .agg #[.pointer (some ⟨6, OV, none⟩), .pointer (some ⟨b, 0, none⟩), .int .u64 153]]).run Tryd.prog W
      = .ok (.tuple #[]) (W.setCell ta big) := by
  have h1 := r_load b W hB
  have h2 := r_store ta old W ht hf
  rw [r_setText]
  simp only [Sem.run_bind, r_partsA, r_partsV, Result.andThen]
  simp [ReflectliteValue.flagAddr, h1, h2, Result.andThen, r_direct]
end Go.Proofs.YtkbakcnhhlmpkaaDoor
