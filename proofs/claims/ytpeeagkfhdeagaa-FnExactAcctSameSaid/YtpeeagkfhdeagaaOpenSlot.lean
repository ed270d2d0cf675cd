/- A slot, a slice of slots that a law is given. -/
import Derived.Test.YtpeeagkfhdeagaaOpens
import Derived.Test.YtpeeagkfhdeagaaSlot
import Derived.Test.YtpeeagkfhdeagaaOpenNB
set_option linter.unusedVariables false
namespace Go.Proofs.Ytpeeagkfhdeagaa
open Go.ChangeShapes Go.WideShapes Go.ChangeAt Go.RowKit Go.Deep

set_option maxRecDepth 100000 in
theorem opens_slot {H : Type} {enc : TypeId × Value → H} {W : World} : Opens enc Try.prog W SlotR 63 (fun x => x.1.size ≤ maxLen ∧ x.2.1.size ≤ maxLen ∧ (x.2.2.length ≤ maxLen ∧ ∀ y ∈ x.2.2, (Lit.int .u8 y).wf = true)) :=
  opens_struct Try.underlying63 (by kernel_rfl) (opensF_cons (opens_str Try.underlying9) rfl (by kernel_rfl) (opensF_cons (opens_str Try.underlying9) rfl (by kernel_rfl) (opensF_one (opens_slice (by decide) Try.underlying61 (by kernel_rfl) (opens_int Try.underlying5)) rfl (by kernel_rfl))))
set_option maxRecDepth 100000 in
theorem wf_u8 {y : Int} (h : (Lit.int .u8 y).wf = true) : 0 ≤ y ∧ y ≤ 255 := by
  have e1 : IntKind.u8.min = 0 := rfl
  have e2 : IntKind.u8.max = 255 := rfl
  simp [Lit.wf] at h
  omega
set_option maxRecDepth 100000 in
theorem open_slot {H : Type} {enc : TypeId × Value → H} {W : World} {base : Nat} {v : Value} {d : DataW H} {p : List MemPlace} (hval : Value.okWide Try.prog W .any base 63 v) (h : DataW.Trod enc Try.prog W 0 (fun _ => true) true 63 v d p) :
    ∃ (x : SlotD) (u : Value), v = .agg #[.string x.1, .string x.2.1, u] ∧ rd .u8 W.heap.size W u x.2.2 ∧ x.1.size ≤ maxLen ∧ x.2.1.size ≤ maxLen ∧ x.2.2.length ≤ maxLen ∧ isBytes x.2.2 := by
  obtain ⟨cs, rfl, hsz⟩ := okWide_struct Try.underlying63 hval
  obtain ⟨fuel, hf⟩ := h
  obtain ⟨x, hr, h1, h2, h3, h4⟩ := opens_slot fuel _ _ hf
  obtain ⟨u, hcs, hu⟩ := slot_rd hr
  refine ⟨x, u, ?_, hu, h1, h2, h3, fun y hy => wf_u8 (h4 y hy)⟩
  have hcs' : cs.toList = [.string x.1, .string x.2.1, u] := hcs
  rw [← hcs']
set_option maxRecDepth 100000 in
theorem open_slots {H : Type} {enc : TypeId × Value → H} {W : World} {base : Nat} {v : Value} {d : DataW H} {p : List MemPlace} (hval : Value.okWide Try.prog W .any base 27 v) (h : DataW.Trod enc Try.prog W 0 (fun _ => true) true 27 v d p) :
    ∃ l : List SlotD, SlotsR.rd W.heap.size W [v] l ∧ l.length ≤ maxLen ∧ ∀ x ∈ l, x.1.size ≤ maxLen ∧ x.2.1.size ≤ maxLen ∧ x.2.2.length ≤ maxLen ∧ isBytes x.2.2 := by
  obtain ⟨ao, len, cap, rfl⟩ := okWide_slice Try.underlying27 hval
  obtain ⟨fuel, hf⟩ := h
  have hL := opens_slice (by decide) Try.underlying27 (by kernel_rfl) (opens_slot (enc := enc) (W := W))
  obtain ⟨l, hr, h1, h2⟩ := hL fuel _ _ hf
  exact ⟨l, hr, h1, fun x hx => ⟨(h2 x hx).1, (h2 x hx).2.1, (h2 x hx).2.2.1, fun y hy => wf_u8 ((h2 x hx).2.2.2 y hy)⟩⟩
end Go.Proofs.Ytpeeagkfhdeagaa
