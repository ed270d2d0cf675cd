/- errors.As at an overflow: it is stored into the target. -/
import Derived.Test.YtkbakcnhhlmpkaaDoorAs
import Derived.OneCell
set_option linter.unusedVariables false
namespace Go.Proofs.YtkbakcnhhlmpkaaDoor
open Go.ChangeShapes Go.WideShapes Go.ChangeAt Go.RowKit Go.Extern.Stop Go.Stop Go.Extern

abbrev RV : Nat := 69
def asW1 (w : World) (t : Nat) : World := w.alloc (.cells #[.pointer (some ⟨t, 0, none⟩)] OP)
def asVal (w : World) : Array Value := #[.pointer (some ⟨6, OP, none⟩), .pointer (some ⟨w.heap.size, 0, none⟩), .int .u64 150]
set_option maxRecDepth 100000 in
set_option maxHeartbeats 4000000 in
theorem as_hit (t : Nat) (old : Value) (w : World) (hg : w.cell? ⟨2, 0, none⟩ = some (.iface RT (.agg #[.pointer (some ⟨6, ER, none⟩)]))) (hT : w.heap[t]? = some (.cells #[old] OV (0, 0))) :
    Calls Tryd.prog 18 #[.iface OV (.agg #[big]), .iface OP (.pointer (some ⟨t, 0, none⟩))] w fun ev w' => ev = .returned (.bool true) ∧
      w' = ((((w.alloc (.cells #[.pointer (some ⟨t, 0, none⟩)] OP)).alloc (.cells #[.pointer (some ⟨6, OP, none⟩), .pointer (some ⟨w.heap.size, 0, none⟩), .int .u64 150] RV)).alloc (.cells #[.pointer (some ⟨6, OP, none⟩), .pointer (some ⟨w.heap.size, 0, none⟩), .int .u64 150] RV)).alloc (.cells #[big] OV)).setCell ⟨t, 0, none⟩ big := by
  have hVO := @run_callFunc_extern Tryd.prog 31 _ (fun args => ReflectliteValue.unpack (args.getD 0 (.tuple #[]))) Tryd.func31 (by kernel_rfl) (by kernel_rfl) (by kernel_rfl) (by kernel_rfl)
  have hTy := @run_callFunc_extern Tryd.prog 32 _ (ReflectliteValue.methodAny (ReflectliteValue.valueError "reflectlite.Value.Type" 0) (fun t _ _ _ => ReflectliteType.toType t)) Tryd.func32 (by kernel_rfl) (by kernel_rfl) (by kernel_rfl) (by kernel_rfl)
  have hIN := @run_callFunc_extern Tryd.prog 33 _ (ReflectliteValue.method (ReflectliteValue.valueError "reflectlite.Value.IsNil" 0) ReflectliteValue.isNil) Tryd.func33 (by kernel_rfl) (by kernel_rfl) (by kernel_rfl) (by kernel_rfl)
  have hKi := @run_callFunc_extern Tryd.prog 92 _ (ReflectliteType.abiMethod fun t => do pure (.int .u8 (← Rtype.kind t))) Tryd.func92 (by kernel_rfl) (by kernel_rfl) (by kernel_rfl) (by kernel_rfl)
  have hEl := @run_callFunc_extern Tryd.prog 102 _ (ReflectliteType.method ReflectliteType.elem) Tryd.func102 (by kernel_rfl) (by kernel_rfl) (by kernel_rfl) (by kernel_rfl)
  have hIm := @run_callFunc_extern Tryd.prog 103 _ (ReflectliteType.relation "Implements" ReflectliteType.implements_) Tryd.func103 (by kernel_rfl) (by kernel_rfl) (by kernel_rfl) (by kernel_rfl)
  have hTO := @run_callFunc_extern Tryd.prog 46 _ ReflectliteType.typeOf Tryd.func46 (by kernel_rfl) (by kernel_rfl) (by kernel_rfl) (by kernel_rfl)
  have hAT := @run_callFunc_extern Tryd.prog 100 _ (ReflectliteType.relation "AssignableTo" ReflectliteType.assignableTo) Tryd.func100 (by kernel_rfl) (by kernel_rfl) (by kernel_rfl) (by kernel_rfl)
  have hVE := @run_callFunc_extern Tryd.prog 47 _ (ReflectliteValue.method (ReflectliteValue.valueError "reflectlite.Value.Elem" 0) ReflectliteValue.elem) Tryd.func47 (by kernel_rfl) (by kernel_rfl) (by kernel_rfl) (by kernel_rfl)
  have hVS := @run_callFunc_extern Tryd.prog 48 _ ReflectliteValue.set Tryd.func48 (by kernel_rfl) (by kernel_rfl) (by kernel_rfl) (by kernel_rfl)
  have tO := r_typeOf
  have a25 := r_assign
  have v25 := r_valueOfV
  have f6 := r_valueOfP
  have f7 := r_typeP
  have k27 := r_kindP
  have k25 := r_kindV
  have e27 := r_elem
  have i25 := r_impl
  have n8 := r_isNil ⟨w.heap.size, 0, none⟩ ⟨t, 0, none⟩ ((w.alloc (.cells #[.pointer (some ⟨t, 0, none⟩)] OP)).alloc (.cells #[.pointer (some ⟨6, OP, none⟩), .pointer (some ⟨w.heap.size, 0, none⟩), .int .u64 150] RV)) (by simp)
  have hlt : 2 < w.heap.size := by
    rcases Nat.lt_or_ge 2 w.heap.size with h | h
    · exact h
    · simp [World.cell?, Array.getElem?_eq_none h] at hg
  have hg2 : ((w.alloc (.cells #[.pointer (some ⟨t, 0, none⟩)] OP)).alloc (.cells #[.pointer (some ⟨6, OP, none⟩), .pointer (some ⟨w.heap.size, 0, none⟩), .int .u64 150] RV)).cell? ⟨2, 0, none⟩ = some (.iface RT (.agg #[.pointer (some ⟨6, ER, none⟩)])) := by
    rw [World.cell?_alloc_lt _ _ ⟨2, 0, none⟩ (by simp; omega), World.cell?_alloc_lt _ _ ⟨2, 0, none⟩ hlt]; exact hg
  have ht0 : w.cell? ⟨t, 0, none⟩ = some old := cell_of_one hT
  have hf0 : w.frozen? ⟨t, 0, none⟩ = false := free_of_one hT
  have htl : t < w.heap.size := lt_of_block hT
  have el := r_elemV ⟨w.heap.size, 0, none⟩ ⟨t, 0, none⟩ (((w.alloc (.cells #[.pointer (some ⟨t, 0, none⟩)] OP)).alloc (.cells #[.pointer (some ⟨6, OP, none⟩), .pointer (some ⟨w.heap.size, 0, none⟩), .int .u64 150] RV)).alloc (.cells #[.pointer (some ⟨6, OP, none⟩), .pointer (some ⟨w.heap.size, 0, none⟩), .int .u64 150] RV)) (by rw [World.cell?_alloc_lt _ _ ⟨w.heap.size, 0, none⟩ (by simp; omega)]; simp)
  have st := r_set ⟨t, 0, none⟩ (w.heap.size + 1 + 1 + 1) old ((((w.alloc (.cells #[.pointer (some ⟨t, 0, none⟩)] OP)).alloc (.cells #[.pointer (some ⟨6, OP, none⟩), .pointer (some ⟨w.heap.size, 0, none⟩), .int .u64 150] RV)).alloc (.cells #[.pointer (some ⟨6, OP, none⟩), .pointer (some ⟨w.heap.size, 0, none⟩), .int .u64 150] RV)).alloc (.cells #[big] OV))
    (by
      have hs : (((w.alloc (.cells #[.pointer (some ⟨t, 0, none⟩)] OP)).alloc (.cells #[.pointer (some ⟨6, OP, none⟩), .pointer (some ⟨w.heap.size, 0, none⟩), .int .u64 150] RV)).alloc (.cells #[.pointer (some ⟨6, OP, none⟩), .pointer (some ⟨w.heap.size, 0, none⟩), .int .u64 150] RV)).heap.size = w.heap.size + 1 + 1 + 1 := by simp
      generalize (((w.alloc (.cells #[.pointer (some ⟨t, 0, none⟩)] OP)).alloc (.cells #[.pointer (some ⟨6, OP, none⟩), .pointer (some ⟨w.heap.size, 0, none⟩), .int .u64 150] RV)).alloc (.cells #[.pointer (some ⟨6, OP, none⟩), .pointer (some ⟨w.heap.size, 0, none⟩), .int .u64 150] RV)) = V at hs ⊢
      rw [← hs]
      show (V.heap.push _)[V.heap.size]? = _
      simp)
    (by rw [World.cell?_alloc_lt _ _ ⟨t, 0, none⟩ (by simp; omega), World.cell?_alloc_lt _ _ ⟨t, 0, none⟩ (by simp; omega), World.cell?_alloc_lt _ _ ⟨t, 0, none⟩ (by simp; omega), World.cell?_alloc_lt _ _ ⟨t, 0, none⟩ htl]; exact ht0)
    (by rw [World.frozen?_alloc_old _ _ ⟨t, 0, none⟩ (by simp; omega), World.frozen?_alloc_old _ _ ⟨t, 0, none⟩ (by simp; omega), World.frozen?_alloc_old _ _ ⟨t, 0, none⟩ (by simp; omega), World.frozen?_alloc_old _ _ ⟨t, 0, none⟩ (Nat.ne_of_lt htl)]; exact hf0)
  clear hT
  go_enter Tryd.func18, Tryd.ntmps18
  go_wp2
  go_outline
  go_ways
  refine wp_loop_rounds 1 ?_
  rw [rounds_succ]
  go_wp2
  go_ret
  exact ⟨rfl, rfl⟩
end Go.Proofs.YtkbakcnhhlmpkaaDoor
