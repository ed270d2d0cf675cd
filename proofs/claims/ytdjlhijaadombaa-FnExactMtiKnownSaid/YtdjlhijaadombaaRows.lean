/-
  No cell of these rows narrows 'for every input' (looked for: loops, veiled, ifaces, maps, wideKeys, modest, calm, conditions, laid).
  DERIVED. THE GIVEN ROWS OF THIS SEAT. 2 by the template 'for every input the law returns true; each argument reads behind the call as it read before'; 0 by the template 'total and deterministic' (their statements: YtdjlhijaadombaaTotals.lean).
  GIVEN WITH THE SEED: the statements are not yours to turn. If you find one false, say at which input.
  Laid BY PROGRAM, IN A SANDBOX (cutbox-rows.mjs): the forced cells as the released guide's own fill.sh prints them over the translation aa398f3948ca1850… (all of the seat's roots in one cut). By AI agents, Wed Nov 11 2026. No macro, syntax, notation, axiom, sorry.
-/
import Derived.Test.YtdjlhijaadombaaChecked
import GoSem.Claim
import GoSem.ClaimJoined
import GoSem.ClaimMapViews
import Derived.JoinedTies
import Derived.KernelRfl
namespace Go.Proofs.Ytdjlhijaadombaa
/- THE CELL 'sum', in the pinned program and in every row, IS THE sha256 OF THE DUMP (.gsa) THAT YtdjlhijaadombaaProg.lean LOADS. Nothing in Lean hashes anything: it is a label: what it is worth is what the hold of that sum in a sandbox is worth. -/
noncomputable def Try.pinned : Pinned := { name := "ytdjlhijaadombaa", sum := "aa398f3948ca1850c6d82c1fb895074f0f6fca03aebcb8ea1e8f1408e79f882a", checked := Try.checked }
namespace Rows
def none {H : Type} : Left H := { results := [], args := [] }

/-- 'laws.FnExactMtiKnown': WHATEVER THE INPUT: true; the input reads as it did. -/
def fnExactMtiKnownSpec : ChangeSpec := { name := "fnExactMtiKnown", fn := fun _ => fun
  | [d] => { results := [.lit (.bool true)], args := [d] }
  | _ => none }
def fnExactMtiKnownRow : OpenClaim := { program := "ytdjlhijaadombaa", sum := "aa398f3948ca1850c6d82c1fb895074f0f6fca03aebcb8ea1e8f1408e79f882a", func := "loop.example/g00735/laws.FnExactMtiKnown", spec := "fnExactMtiKnown", apart := false }
def FnExactMtiKnownSaid : Prop := fnExactMtiKnownRow.holds Try.pinned (OpenSpec.ofChange fnExactMtiKnownSpec)

/-- ITS FALSE NEIGHBOUR: 'it returns false'. Refute it at one input. -/
def fnExactMtiKnownWrong : ChangeSpec := { name := "fnExactMtiKnown", fn := fun _ => fun
  | [d] => { results := [.lit (.bool false)], args := [d] }
  | _ => none }
def FnExactMtiKnownWrongFalsely : Prop := fnExactMtiKnownRow.holds Try.pinned (OpenSpec.ofChange fnExactMtiKnownWrong)

/-- 'laws.FnExactReplyMti': WHATEVER THE INPUT: true; the input reads as it did. -/
def fnExactReplyMtiSpec : ChangeSpec := { name := "fnExactReplyMti", fn := fun _ => fun
  | [d] => { results := [.lit (.bool true)], args := [d] }
  | _ => none }
def fnExactReplyMtiRow : OpenClaim := { program := "ytdjlhijaadombaa", sum := "aa398f3948ca1850c6d82c1fb895074f0f6fca03aebcb8ea1e8f1408e79f882a", func := "loop.example/g00735/laws.FnExactReplyMti", spec := "fnExactReplyMti", apart := false }
def FnExactReplyMtiSaid : Prop := fnExactReplyMtiRow.holds Try.pinned (OpenSpec.ofChange fnExactReplyMtiSpec)

/-- ITS FALSE NEIGHBOUR: 'it returns false'. Refute it at one input. -/
def fnExactReplyMtiWrong : ChangeSpec := { name := "fnExactReplyMti", fn := fun _ => fun
  | [d] => { results := [.lit (.bool false)], args := [d] }
  | _ => none }
def FnExactReplyMtiWrongFalsely : Prop := fnExactReplyMtiRow.holds Try.pinned (OpenSpec.ofChange fnExactReplyMtiWrong)

/- THE SECOND FORM. 'bulk': how many values and letters a reading holds, each counted each time it is reached (what is shared counts as often as it is met; a slice's spare places count too). A statement '..UptoSaid' is the law's where the arguments, and the package variables that the reading takes, are together of bulk at most 1048576: NARROWER than '..Said'. Prove '..Said' where nothing that the law and all that it calls make is longer than what came in: it says more and counts as full. Else prove '..UptoSaid'. A law counts once. -/
mutual
def uptoBulk {H : Type} : DataW H → Nat
  | .lit (.string bytes) => bytes.length + 1
  | .lit _ => 1
  | .nil => 1
  | .ptr d => uptoBulk d + 1
  | .slice elems spare => uptoBulkAll elems + uptoBulkAll spare + 1
  | .agg parts => uptoBulkAll parts + 1
  | .iface _ d => uptoBulk d + 1
  | .map entries => uptoBulkEntries entries + 1
  | .held _ => 1
def uptoBulkAll {H : Type} : List (DataW H) → Nat
  | [] => 0
  | d :: r => uptoBulk d + uptoBulkAll r
def uptoBulkEntries {H : Type} : List (Lit × DataW H) → Nat
  | [] => 0
  | x :: r => uptoBulkEntry x + uptoBulkEntries r
def uptoBulkEntry {H : Type} : Lit × DataW H → Nat
  | (.string bytes, d) => bytes.length + uptoBulk d + 1
  | (_, d) => uptoBulk d + 1
 end
def uptoSmall : (H : Type) → List (DataW H) → Bool := fun _ ds => decide (uptoBulkAll ds ≤ 1048576)
def OpenSpec.upto (s : _root_.Go.ChangeSpec) : _root_.Go.OpenSpec := { _root_.Go.OpenSpec.ofChange s with cond := some uptoSmall }

/-- 'laws.FnExactMtiKnown', WHERE WHAT IT READS IS OF BULK AT MOST 1048576: true; the input reads as it did. -/
def fnExactMtiKnownUptoRow : OpenClaim := { program := "ytdjlhijaadombaa", sum := "aa398f3948ca1850c6d82c1fb895074f0f6fca03aebcb8ea1e8f1408e79f882a", func := "loop.example/g00735/laws.FnExactMtiKnown", spec := "fnExactMtiKnown", apart := false, narrowed := true }
def FnExactMtiKnownUptoSaid : Prop := fnExactMtiKnownUptoRow.holds Try.pinned (OpenSpec.upto fnExactMtiKnownSpec)

/-- 'laws.FnExactReplyMti', WHERE WHAT IT READS IS OF BULK AT MOST 1048576: true; the input reads as it did. -/
def fnExactReplyMtiUptoRow : OpenClaim := { program := "ytdjlhijaadombaa", sum := "aa398f3948ca1850c6d82c1fb895074f0f6fca03aebcb8ea1e8f1408e79f882a", func := "loop.example/g00735/laws.FnExactReplyMti", spec := "fnExactReplyMti", apart := false, narrowed := true }
def FnExactReplyMtiUptoSaid : Prop := fnExactReplyMtiUptoRow.holds Try.pinned (OpenSpec.upto fnExactReplyMtiSpec)

end Rows
end Go.Proofs.Ytdjlhijaadombaa
