/- An account that a law is given. -/
import Derived.Test.YtpeeagkfhdeagaaOpenHold
import Derived.Test.YtpeeagkfhdeagaaOpenSlot
import Derived.Test.YtpeeagkfhdeagaaAcctE
import Derived.Test.YtpeeagkfhdeagaaRingT
set_option linter.unusedVariables false
namespace Go.Proofs.Ytpeeagkfhdeagaa
open Go.ChangeShapes Go.WideShapes Go.ChangeAt Go.RowKit Go.Deep

set_option maxRecDepth 100000 in
theorem open_acct {H : Type} {enc : TypeId × Value → H} {W : World} {base : Nat} {v : Value} {d : DataW H} {p : List MemPlace} (hval : Value.okWide Try.prog W .any base 29 v) (h : DataW.Trod enc Try.prog W 0 (fun _ => true) true 29 v d p) :
    ∃ (a : AcctD) (vh vc vs vl : Value), v = .agg #[.string (aId a), .int .i64 (aLim a), .int .i64 (aPos a), .int .i64 (aMost a), .int .i64 (aSum a), vh, .int .i64 (aR a).1, .int .i64 (aR a).2.1, vc, vs, vl] ∧ AcctR.rd W.heap.size W (aCells a vh vc vs vl) a ∧ acctBig a := by
  obtain ⟨cs, rfl, hsz⟩ := okWide_struct Try.underlying29 hval
  obtain ⟨fuel, hf⟩ := h
  have hL := opens_slice (by decide) Try.underlying23 (by kernel_rfl) (opens_hold (enc := enc) (W := W))
  have hS := opens_slice (by decide) Try.underlying27 (by kernel_rfl) (opens_slot (enc := enc) (W := W))
  have hI0 : Opens enc Try.prog W (Rep.int .i64) 3 _ := opens_int Try.underlying3
  have hI : Opens enc Try.prog W IntsR 24 _ := opens_slice (by decide) Try.underlying24 (by kernel_rfl) hI0
  have hR : Opens enc Try.prog W RingR 26 _ := opens_struct Try.underlying26 (by kernel_rfl) (opensF_cons hI0 rfl (by kernel_rfl) (opensF_cons hI0 rfl (by kernel_rfl) (opensF_cons hI rfl (by kernel_rfl) (opensF_one hI rfl (by kernel_rfl)))))
  have hA : Opens enc Try.prog W AcctR 29 _ := opens_struct Try.underlying29 (by kernel_rfl) (opensF_cons (opens_str Try.underlying9) rfl (by kernel_rfl) (opensF_cons (opens_int Try.underlying3) rfl (by kernel_rfl) (opensF_cons (opens_int Try.underlying3) rfl (by kernel_rfl) (opensF_cons (opens_int Try.underlying3) rfl (by kernel_rfl) (opensF_cons (opens_int Try.underlying3) rfl (by kernel_rfl) (opensF_cons hL rfl (by kernel_rfl) (opensF_cons hR rfl (by kernel_rfl) (opensF_one hS rfl (by kernel_rfl)))))))))
  obtain ⟨a, hr, h1, h2, h3, h4, h5, ⟨h6, h7⟩, ⟨h8, h9, ⟨h10, h11⟩, h12, h13⟩, h14, h15⟩ := hA fuel _ _ hf
  obtain ⟨vh, vc, vs, vl, hcs, q1, q2, q3, q4⟩ := acct_rd hr
  refine ⟨a, vh, vc, vs, vl, ?_, ?_, ⟨h1, h6, fun x hx => (h7 x hx).1, h10, h12, h14, fun x hx => ⟨(h15 x hx).1, (h15 x hx).2.1, (h15 x hx).2.2.1⟩⟩⟩
  · have hcs' : cs.toList = aCells a vh vc vs vl := hcs
    have : cs = (aCells a vh vc vs vl).toArray := by rw [← hcs']
    rw [this]; rfl
  · exact acct_rd_of q1 q2 q3 q4
end Go.Proofs.Ytpeeagkfhdeagaa
