/- A hold, a slice of holds that a law is given. -/
import Derived.Test.YtpeeagkfhdeagaaOpens
import Derived.Test.YtpeeagkfhdeagaaHold
import Derived.Test.YtpeeagkfhdeagaaOpenNI
set_option linter.unusedVariables false
namespace Go.Proofs.Ytpeeagkfhdeagaa
open Go.ChangeShapes Go.WideShapes Go.ChangeAt Go.RowKit Go.Deep

set_option maxRecDepth 100000 in
theorem opens_hold {H : Type} {enc : TypeId × Value → H} {W : World} : Opens enc Try.prog W HoldR 58 (fun x => x.1.size ≤ maxLen ∧ (Lit.int .i64 x.2.1).wf = true ∧ (Lit.int .i64 x.2.2).wf = true) :=
  opens_struct Try.underlying58 (by kernel_rfl) (opensF_cons (opens_str Try.underlying9) rfl (by kernel_rfl) (opensF_cons (opens_int Try.underlying3) rfl (by kernel_rfl) (opensF_one (opens_int Try.underlying3) rfl (by kernel_rfl))))
set_option maxRecDepth 100000 in
theorem open_hold {H : Type} {enc : TypeId × Value → H} {W : World} {base : Nat} {v : Value} {d : DataW H} {p : List MemPlace} (hval : Value.okWide Try.prog W .any base 58 v) (h : DataW.Trod enc Try.prog W 0 (fun _ => true) true 58 v d p) :
    ∃ x : HoldD, v = .agg #[.string x.1, .int .i64 x.2.1, .int .i64 x.2.2] ∧ x.1.size ≤ maxLen := by
  obtain ⟨cs, rfl, hsz⟩ := okWide_struct Try.underlying58 hval
  obtain ⟨fuel, hf⟩ := h
  obtain ⟨x, hr, h1, h2⟩ := opens_hold fuel _ _ hf
  refine ⟨x, ?_, h1⟩
  have hcs : cs.toList = [.string x.1, .int .i64 x.2.1, .int .i64 x.2.2] := hold_rd.1 hr
  rw [← hcs]
set_option maxRecDepth 100000 in
theorem open_holds {H : Type} {enc : TypeId × Value → H} {W : World} {base : Nat} {v : Value} {d : DataW H} {p : List MemPlace} (hval : Value.okWide Try.prog W .any base 23 v) (h : DataW.Trod enc Try.prog W 0 (fun _ => true) true 23 v d p) :
    ∃ l : List HoldD, HoldsR.rd W.heap.size W [v] l ∧ l.length ≤ maxLen ∧ ∀ x ∈ l, x.1.size ≤ maxLen := by
  obtain ⟨ao, len, cap, rfl⟩ := okWide_slice Try.underlying23 hval
  obtain ⟨fuel, hf⟩ := h
  have hL := opens_slice (by decide) Try.underlying23 (by kernel_rfl) (opens_hold (enc := enc) (W := W))
  obtain ⟨l, hr, h1, h2⟩ := hL fuel _ _ hf
  exact ⟨l, hr, h1, fun x hx => (h2 x hx).1⟩
end Go.Proofs.Ytpeeagkfhdeagaa
