/-
  No cell of these rows narrows 'for every input' (looked for: loops, veiled, ifaces, maps, wideKeys, modest, calm, conditions, laid).
  DERIVED. THE GIVEN ROWS OF THIS SEAT. 6 by the template 'for every input the law returns true; each argument reads behind the call as it read before'; 0 by the template 'total and deterministic' (their statements: YtbaefbkjobpnnaaTotals.lean).
  GIVEN WITH THE SEED: the statements are not yours to turn. If you find one false, say at which input.
  Laid BY PROGRAM, IN A SANDBOX (cutbox-rows.mjs): the forced cells as the released guide's own fill.sh prints them over the translation 929cee737040da25… (all of the seat's roots in one cut). By AI agents, Wed Nov 11 2026. No macro, syntax, notation, axiom, sorry.
-/
import Derived.Test.YtbaefbkjobpnnaaChecked
import GoSem.Claim
import GoSem.ClaimJoined
import GoSem.ClaimMapViews
import Derived.JoinedTies
import Derived.KernelRfl
namespace Go.Proofs.Ytbaefbkjobpnnaa
/- THE CELL 'sum', in the pinned program and in every row, IS THE sha256 OF THE DUMP (.gsa) THAT YtbaefbkjobpnnaaProg.lean LOADS. Nothing in Lean hashes anything: it is a label: what it is worth is what the hold of that sum in a sandbox is worth. -/
noncomputable def Try.pinned : Pinned := { name := "ytbaefbkjobpnnaa", sum := "929cee737040da2578d6260ccf167e6dfe5f9a4734e6cebd851690a5ba26c2fd", checked := Try.checked }
namespace Rows
def none {H : Type} : Left H := { results := [], args := [] }

/-- 'laws.FnLuhn': WHATEVER THE INPUT: true; the input reads as it did. -/
def fnLuhnSpec : ChangeSpec := { name := "fnLuhn", fn := fun _ => fun
  | [d] => { results := [.lit (.bool true)], args := [d] }
  | _ => none }
def fnLuhnRow : OpenClaim := { program := "ytbaefbkjobpnnaa", sum := "929cee737040da2578d6260ccf167e6dfe5f9a4734e6cebd851690a5ba26c2fd", func := "loop.example/g00735/laws.FnLuhn", spec := "fnLuhn", apart := false }
def FnLuhnSaid : Prop := fnLuhnRow.holds Try.pinned (OpenSpec.ofChange fnLuhnSpec)

/-- ITS FALSE NEIGHBOUR: 'it returns false'. Refute it at one input. -/
def fnLuhnWrong : ChangeSpec := { name := "fnLuhn", fn := fun _ => fun
  | [d] => { results := [.lit (.bool false)], args := [d] }
  | _ => none }
def FnLuhnWrongFalsely : Prop := fnLuhnRow.holds Try.pinned (OpenSpec.ofChange fnLuhnWrong)

/-- 'laws.FnExactSubMoney': WHATEVER THE INPUT: true; the input reads as it did. -/
def fnExactSubMoneySpec : ChangeSpec := { name := "fnExactSubMoney", fn := fun _ => fun
  | [d1, d2] => { results := [.lit (.bool true)], args := [d1, d2] }
  | _ => none }
def fnExactSubMoneyRow : OpenClaim := { program := "ytbaefbkjobpnnaa", sum := "929cee737040da2578d6260ccf167e6dfe5f9a4734e6cebd851690a5ba26c2fd", func := "loop.example/g00735/laws.FnExactSubMoney", spec := "fnExactSubMoney", apart := false }
def FnExactSubMoneySaid : Prop := fnExactSubMoneyRow.holds Try.pinned (OpenSpec.ofChange fnExactSubMoneySpec)

/-- ITS FALSE NEIGHBOUR: 'it returns false'. Refute it at one input. -/
def fnExactSubMoneyWrong : ChangeSpec := { name := "fnExactSubMoney", fn := fun _ => fun
  | [d1, d2] => { results := [.lit (.bool false)], args := [d1, d2] }
  | _ => none }
def FnExactSubMoneyWrongFalsely : Prop := fnExactSubMoneyRow.holds Try.pinned (OpenSpec.ofChange fnExactSubMoneyWrong)

/-- 'laws.FnExactDigits': WHATEVER THE INPUT: true; the input reads as it did. -/
def fnExactDigitsSpec : ChangeSpec := { name := "fnExactDigits", fn := fun _ => fun
  | [d] => { results := [.lit (.bool true)], args := [d] }
  | _ => none }
def fnExactDigitsRow : OpenClaim := { program := "ytbaefbkjobpnnaa", sum := "929cee737040da2578d6260ccf167e6dfe5f9a4734e6cebd851690a5ba26c2fd", func := "loop.example/g00735/laws.FnExactDigits", spec := "fnExactDigits", apart := false }
def FnExactDigitsSaid : Prop := fnExactDigitsRow.holds Try.pinned (OpenSpec.ofChange fnExactDigitsSpec)

/-- ITS FALSE NEIGHBOUR: 'it returns false'. Refute it at one input. -/
def fnExactDigitsWrong : ChangeSpec := { name := "fnExactDigits", fn := fun _ => fun
  | [d] => { results := [.lit (.bool false)], args := [d] }
  | _ => none }
def FnExactDigitsWrongFalsely : Prop := fnExactDigitsRow.holds Try.pinned (OpenSpec.ofChange fnExactDigitsWrong)

/-- 'laws.FnExactFnv': WHATEVER THE INPUT: true; the input reads as it did. -/
def fnExactFnvSpec : ChangeSpec := { name := "fnExactFnv", fn := fun _ => fun
  | [d] => { results := [.lit (.bool true)], args := [d] }
  | _ => none }
def fnExactFnvRow : OpenClaim := { program := "ytbaefbkjobpnnaa", sum := "929cee737040da2578d6260ccf167e6dfe5f9a4734e6cebd851690a5ba26c2fd", func := "loop.example/g00735/laws.FnExactFnv", spec := "fnExactFnv", apart := false }
def FnExactFnvSaid : Prop := fnExactFnvRow.holds Try.pinned (OpenSpec.ofChange fnExactFnvSpec)

/-- ITS FALSE NEIGHBOUR: 'it returns false'. Refute it at one input. -/
def fnExactFnvWrong : ChangeSpec := { name := "fnExactFnv", fn := fun _ => fun
  | [d] => { results := [.lit (.bool false)], args := [d] }
  | _ => none }
def FnExactFnvWrongFalsely : Prop := fnExactFnvRow.holds Try.pinned (OpenSpec.ofChange fnExactFnvWrong)

/-- 'laws.FnExactLuhn': WHATEVER THE INPUT: true; the input reads as it did. -/
def fnExactLuhnSpec : ChangeSpec := { name := "fnExactLuhn", fn := fun _ => fun
  | [d] => { results := [.lit (.bool true)], args := [d] }
  | _ => none }
def fnExactLuhnRow : OpenClaim := { program := "ytbaefbkjobpnnaa", sum := "929cee737040da2578d6260ccf167e6dfe5f9a4734e6cebd851690a5ba26c2fd", func := "loop.example/g00735/laws.FnExactLuhn", spec := "fnExactLuhn", apart := false }
def FnExactLuhnSaid : Prop := fnExactLuhnRow.holds Try.pinned (OpenSpec.ofChange fnExactLuhnSpec)

/-- ITS FALSE NEIGHBOUR: 'it returns false'. Refute it at one input. -/
def fnExactLuhnWrong : ChangeSpec := { name := "fnExactLuhn", fn := fun _ => fun
  | [d] => { results := [.lit (.bool false)], args := [d] }
  | _ => none }
def FnExactLuhnWrongFalsely : Prop := fnExactLuhnRow.holds Try.pinned (OpenSpec.ofChange fnExactLuhnWrong)

/-- 'laws.FnExactLuhnOk': WHATEVER THE INPUT: true; the input reads as it did. -/
def fnExactLuhnOkSpec : ChangeSpec := { name := "fnExactLuhnOk", fn := fun _ => fun
  | [d] => { results := [.lit (.bool true)], args := [d] }
  | _ => none }
def fnExactLuhnOkRow : OpenClaim := { program := "ytbaefbkjobpnnaa", sum := "929cee737040da2578d6260ccf167e6dfe5f9a4734e6cebd851690a5ba26c2fd", func := "loop.example/g00735/laws.FnExactLuhnOk", spec := "fnExactLuhnOk", apart := false }
def FnExactLuhnOkSaid : Prop := fnExactLuhnOkRow.holds Try.pinned (OpenSpec.ofChange fnExactLuhnOkSpec)

/-- ITS FALSE NEIGHBOUR: 'it returns false'. Refute it at one input. -/
def fnExactLuhnOkWrong : ChangeSpec := { name := "fnExactLuhnOk", fn := fun _ => fun
  | [d] => { results := [.lit (.bool false)], args := [d] }
  | _ => none }
def FnExactLuhnOkWrongFalsely : Prop := fnExactLuhnOkRow.holds Try.pinned (OpenSpec.ofChange fnExactLuhnOkWrong)

/- THE SECOND FORM. 'bulk': how many values and letters a reading holds, each counted each time it is reached (what is shared counts as often as it is met; a slice's spare places count too). A statement '..UptoSaid' is the law's where the arguments, and the package variables that the reading takes, are together of bulk at most 1048576: NARROWER than '..Said'. Prove '..Said' where nothing that the law and all that it calls make is longer than what came in: it says more and counts as full. Else prove '..UptoSaid'. A law counts once. -/
mutual
def uptoBulk {H : Type} : DataW H → Nat
  | .lit (.string bytes) => bytes.length + 1
  | .lit _ => 1
  | .nil => 1
  | .ptr d => uptoBulk d + 1
  | .slice elems spare => uptoBulkAll elems + uptoBulkAll spare + 1
  | .agg parts => uptoBulkAll parts + 1
  | .iface _ d => uptoBulk d + 1
  | .map entries => uptoBulkEntries entries + 1
  | .held _ => 1
def uptoBulkAll {H : Type} : List (DataW H) → Nat
  | [] => 0
  | d :: r => uptoBulk d + uptoBulkAll r
def uptoBulkEntries {H : Type} : List (Lit × DataW H) → Nat
  | [] => 0
  | x :: r => uptoBulkEntry x + uptoBulkEntries r
def uptoBulkEntry {H : Type} : Lit × DataW H → Nat
  | (.string bytes, d) => bytes.length + uptoBulk d + 1
  | (_, d) => uptoBulk d + 1
 end
def uptoSmall : (H : Type) → List (DataW H) → Bool := fun _ ds => decide (uptoBulkAll ds ≤ 1048576)
def OpenSpec.upto (s : _root_.Go.ChangeSpec) : _root_.Go.OpenSpec := { _root_.Go.OpenSpec.ofChange s with cond := some uptoSmall }

/-- 'laws.FnLuhn', WHERE WHAT IT READS IS OF BULK AT MOST 1048576: true; the input reads as it did. -/
def fnLuhnUptoRow : OpenClaim := { program := "ytbaefbkjobpnnaa", sum := "929cee737040da2578d6260ccf167e6dfe5f9a4734e6cebd851690a5ba26c2fd", func := "loop.example/g00735/laws.FnLuhn", spec := "fnLuhn", apart := false, narrowed := true }
def FnLuhnUptoSaid : Prop := fnLuhnUptoRow.holds Try.pinned (OpenSpec.upto fnLuhnSpec)

/-- 'laws.FnExactSubMoney', WHERE WHAT IT READS IS OF BULK AT MOST 1048576: true; the input reads as it did. -/
def fnExactSubMoneyUptoRow : OpenClaim := { program := "ytbaefbkjobpnnaa", sum := "929cee737040da2578d6260ccf167e6dfe5f9a4734e6cebd851690a5ba26c2fd", func := "loop.example/g00735/laws.FnExactSubMoney", spec := "fnExactSubMoney", apart := false, narrowed := true }
def FnExactSubMoneyUptoSaid : Prop := fnExactSubMoneyUptoRow.holds Try.pinned (OpenSpec.upto fnExactSubMoneySpec)

/-- 'laws.FnExactDigits', WHERE WHAT IT READS IS OF BULK AT MOST 1048576: true; the input reads as it did. -/
def fnExactDigitsUptoRow : OpenClaim := { program := "ytbaefbkjobpnnaa", sum := "929cee737040da2578d6260ccf167e6dfe5f9a4734e6cebd851690a5ba26c2fd", func := "loop.example/g00735/laws.FnExactDigits", spec := "fnExactDigits", apart := false, narrowed := true }
def FnExactDigitsUptoSaid : Prop := fnExactDigitsUptoRow.holds Try.pinned (OpenSpec.upto fnExactDigitsSpec)

/-- 'laws.FnExactFnv', WHERE WHAT IT READS IS OF BULK AT MOST 1048576: true; the input reads as it did. -/
def fnExactFnvUptoRow : OpenClaim := { program := "ytbaefbkjobpnnaa", sum := "929cee737040da2578d6260ccf167e6dfe5f9a4734e6cebd851690a5ba26c2fd", func := "loop.example/g00735/laws.FnExactFnv", spec := "fnExactFnv", apart := false, narrowed := true }
def FnExactFnvUptoSaid : Prop := fnExactFnvUptoRow.holds Try.pinned (OpenSpec.upto fnExactFnvSpec)

/-- 'laws.FnExactLuhn', WHERE WHAT IT READS IS OF BULK AT MOST 1048576: true; the input reads as it did. -/
def fnExactLuhnUptoRow : OpenClaim := { program := "ytbaefbkjobpnnaa", sum := "929cee737040da2578d6260ccf167e6dfe5f9a4734e6cebd851690a5ba26c2fd", func := "loop.example/g00735/laws.FnExactLuhn", spec := "fnExactLuhn", apart := false, narrowed := true }
def FnExactLuhnUptoSaid : Prop := fnExactLuhnUptoRow.holds Try.pinned (OpenSpec.upto fnExactLuhnSpec)

/-- 'laws.FnExactLuhnOk', WHERE WHAT IT READS IS OF BULK AT MOST 1048576: true; the input reads as it did. -/
def fnExactLuhnOkUptoRow : OpenClaim := { program := "ytbaefbkjobpnnaa", sum := "929cee737040da2578d6260ccf167e6dfe5f9a4734e6cebd851690a5ba26c2fd", func := "loop.example/g00735/laws.FnExactLuhnOk", spec := "fnExactLuhnOk", apart := false, narrowed := true }
def FnExactLuhnOkUptoSaid : Prop := fnExactLuhnOkUptoRow.holds Try.pinned (OpenSpec.upto fnExactLuhnOkSpec)

end Rows
end Go.Proofs.Ytbaefbkjobpnnaa
