/- A message that a law is given. -/
import Derived.Test.YtdjlhijaadombaaGreatDoorOpens
import Derived.Test.YtdjlhijaadombaaGreatDoorField
set_option linter.unusedVariables false
namespace Go.Proofs.YtdjlhijaadombaaGreatDoor
open Go.ChangeShapes Go.WideShapes Go.ChangeAt Go.RowKit Go.Deep

set_option maxRecDepth 100000 in
theorem open_msg {H : Type} {enc : TypeId × Value → H} {W : World} {base : Nat} {v : Value} {d : DataW H} {p : List MemPlace} (hval : Value.okWide Tryz.prog W .any base 24 v) (h : DataW.Trod enc Tryz.prog W 0 (fun _ => true) true 24 v d p) :
    ∃ (m : MsgD) (u : Value), v = .agg #[.string m.1, u] ∧ FieldsR.rd W.heap.size W [u] m.2 ∧ m.1.size ≤ maxLen ∧ m.2.length ≤ maxLen ∧ (∀ x ∈ m.2, (Lit.int .i64 x.1).wf = true ∧ x.2.size ≤ maxLen) := by
  obtain ⟨cs, rfl, hsz⟩ := okWide_struct Tryz.underlying24 hval
  obtain ⟨fuel, hf⟩ := h
  have hF : Opens enc Tryz.prog W FieldR 54 _ := opens_struct Tryz.underlying54 (by kernel_rfl) (opensF_cons (opens_int Tryz.underlying3) rfl (by kernel_rfl) (opensF_one (opens_str Tryz.underlying9) rfl (by kernel_rfl)))
  have hL := opens_slice (by decide) Tryz.underlying22 (by kernel_rfl) hF
  have hM : Opens enc Tryz.prog W MsgR 24 _ := opens_struct Tryz.underlying24 (by kernel_rfl) (opensF_cons (opens_str Tryz.underlying9) rfl (by kernel_rfl) (opensF_one hL rfl (by kernel_rfl)))
  obtain ⟨m, hr, h1, h2, h3⟩ := hM fuel _ _ hf
  obtain ⟨a, b, he, ha, hb⟩ := hr
  obtain rfl : a = [.string m.1] := ha
  obtain ⟨u, rfl⟩ : ∃ u, b = [u] := by
    have := FieldsR.rd_len hb
    match b, this with
    | [u], _ => exact ⟨u, rfl⟩
  refine ⟨m, u, ?_, hb, h1, h2, h3⟩
  have hcs : cs.toList = [.string m.1, u] := he
  rw [← hcs]
end Go.Proofs.YtdjlhijaadombaaGreatDoor
