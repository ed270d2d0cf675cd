/-
  No cell of these rows narrows 'for every input' (looked for: loops, veiled, ifaces, maps, wideKeys, modest, calm, conditions, laid).
  DERIVED. THE GIVEN ROWS OF THIS SEAT. 8 by the template 'for every input the law returns true; each argument reads behind the call as it read before'; 0 by the template 'total and deterministic' (their statements: YtnjpcbmonipaoaaTotals.lean).
  GIVEN WITH THE SEED: the statements are not yours to turn. If you find one false, say at which input.
  Laid BY PROGRAM, IN A SANDBOX (cutbox-rows.mjs): the forced cells as the released guide's own fill.sh prints them over the translation add1e4d428cd31c2… (all of the seat's roots in one cut). By AI agents, Wed Nov 11 2026. No macro, syntax, notation, axiom, sorry.
-/
import Derived.Test.YtnjpcbmonipaoaaChecked
import GoSem.Claim
import GoSem.ClaimJoined
import GoSem.ClaimMapViews
import Derived.JoinedTies
import Derived.KernelRfl
namespace Go.Proofs.Ytnjpcbmonipaoaa
/- THE CELL 'sum', in the pinned program and in every row, IS THE sha256 OF THE DUMP (.gsa) THAT YtnjpcbmonipaoaaProg.lean LOADS. Nothing in Lean hashes anything: it is a label: what it is worth is what the hold of that sum in a sandbox is worth. -/
noncomputable def Try.pinned : Pinned := { name := "ytnjpcbmonipaoaa", sum := "add1e4d428cd31c2dd541d76b065615db690b4b61e9fe852613d916936d63d54", checked := Try.checked }
namespace Rows
def none {H : Type} : Left H := { results := [], args := [] }

/-- 'laws.FnExactHoldIdOk': WHATEVER THE INPUT: true; the input reads as it did. -/
def fnExactHoldIdOkSpec : ChangeSpec := { name := "fnExactHoldIdOk", fn := fun _ => fun
  | [d] => { results := [.lit (.bool true)], args := [d] }
  | _ => none }
def fnExactHoldIdOkRow : OpenClaim := { program := "ytnjpcbmonipaoaa", sum := "add1e4d428cd31c2dd541d76b065615db690b4b61e9fe852613d916936d63d54", func := "loop.example/g00735/laws.FnExactHoldIdOk", spec := "fnExactHoldIdOk", apart := false }
def FnExactHoldIdOkSaid : Prop := fnExactHoldIdOkRow.holds Try.pinned (OpenSpec.ofChange fnExactHoldIdOkSpec)

/-- ITS FALSE NEIGHBOUR: 'it returns false'. Refute it at one input. -/
def fnExactHoldIdOkWrong : ChangeSpec := { name := "fnExactHoldIdOk", fn := fun _ => fun
  | [d] => { results := [.lit (.bool false)], args := [d] }
  | _ => none }
def FnExactHoldIdOkWrongFalsely : Prop := fnExactHoldIdOkRow.holds Try.pinned (OpenSpec.ofChange fnExactHoldIdOkWrong)

/-- 'laws.FnExactHoldOk': WHATEVER THE INPUT: true; the input reads as it did. -/
def fnExactHoldOkSpec : ChangeSpec := { name := "fnExactHoldOk", fn := fun _ => fun
  | [d] => { results := [.lit (.bool true)], args := [d] }
  | _ => none }
def fnExactHoldOkRow : OpenClaim := { program := "ytnjpcbmonipaoaa", sum := "add1e4d428cd31c2dd541d76b065615db690b4b61e9fe852613d916936d63d54", func := "loop.example/g00735/laws.FnExactHoldOk", spec := "fnExactHoldOk", apart := false }
def FnExactHoldOkSaid : Prop := fnExactHoldOkRow.holds Try.pinned (OpenSpec.ofChange fnExactHoldOkSpec)

/-- ITS FALSE NEIGHBOUR: 'it returns false'. Refute it at one input. -/
def fnExactHoldOkWrong : ChangeSpec := { name := "fnExactHoldOk", fn := fun _ => fun
  | [d] => { results := [.lit (.bool false)], args := [d] }
  | _ => none }
def FnExactHoldOkWrongFalsely : Prop := fnExactHoldOkRow.holds Try.pinned (OpenSpec.ofChange fnExactHoldOkWrong)

/-- 'laws.FnExactHoldsOk': WHATEVER THE INPUT: true; the input reads as it did. -/
def fnExactHoldsOkSpec : ChangeSpec := { name := "fnExactHoldsOk", fn := fun _ => fun
  | [d] => { results := [.lit (.bool true)], args := [d] }
  | _ => none }
def fnExactHoldsOkRow : OpenClaim := { program := "ytnjpcbmonipaoaa", sum := "add1e4d428cd31c2dd541d76b065615db690b4b61e9fe852613d916936d63d54", func := "loop.example/g00735/laws.FnExactHoldsOk", spec := "fnExactHoldsOk", apart := false }
def FnExactHoldsOkSaid : Prop := fnExactHoldsOkRow.holds Try.pinned (OpenSpec.ofChange fnExactHoldsOkSpec)

/-- ITS FALSE NEIGHBOUR: 'it returns false'. Refute it at one input. -/
def fnExactHoldsOkWrong : ChangeSpec := { name := "fnExactHoldsOk", fn := fun _ => fun
  | [d] => { results := [.lit (.bool false)], args := [d] }
  | _ => none }
def FnExactHoldsOkWrongFalsely : Prop := fnExactHoldsOkRow.holds Try.pinned (OpenSpec.ofChange fnExactHoldsOkWrong)

/-- 'laws.FnExactLive': WHATEVER THE INPUT: true; the input reads as it did. -/
def fnExactLiveSpec : ChangeSpec := { name := "fnExactLive", fn := fun _ => fun
  | [d1, d2] => { results := [.lit (.bool true)], args := [d1, d2] }
  | _ => none }
def fnExactLiveRow : OpenClaim := { program := "ytnjpcbmonipaoaa", sum := "add1e4d428cd31c2dd541d76b065615db690b4b61e9fe852613d916936d63d54", func := "loop.example/g00735/laws.FnExactLive", spec := "fnExactLive", apart := false }
def FnExactLiveSaid : Prop := fnExactLiveRow.holds Try.pinned (OpenSpec.ofChange fnExactLiveSpec)

/-- ITS FALSE NEIGHBOUR: 'it returns false'. Refute it at one input. -/
def fnExactLiveWrong : ChangeSpec := { name := "fnExactLive", fn := fun _ => fun
  | [d1, d2] => { results := [.lit (.bool false)], args := [d1, d2] }
  | _ => none }
def FnExactLiveWrongFalsely : Prop := fnExactLiveRow.holds Try.pinned (OpenSpec.ofChange fnExactLiveWrong)

/-- 'laws.FnExactHoldAt': WHATEVER THE INPUT: true; the input reads as it did. -/
def fnExactHoldAtSpec : ChangeSpec := { name := "fnExactHoldAt", fn := fun _ => fun
  | [d1, d2] => { results := [.lit (.bool true)], args := [d1, d2] }
  | _ => none }
def fnExactHoldAtRow : OpenClaim := { program := "ytnjpcbmonipaoaa", sum := "add1e4d428cd31c2dd541d76b065615db690b4b61e9fe852613d916936d63d54", func := "loop.example/g00735/laws.FnExactHoldAt", spec := "fnExactHoldAt", inPlace := ["internal/bytealg.abigen_runtime_cmpstring"], unfollowed := true, recurses := true, apart := false }
def FnExactHoldAtSaid : Prop := fnExactHoldAtRow.holds Try.pinned (OpenSpec.ofChange fnExactHoldAtSpec)

/-- ITS FALSE NEIGHBOUR: 'it returns false'. Refute it at one input. -/
def fnExactHoldAtWrong : ChangeSpec := { name := "fnExactHoldAt", fn := fun _ => fun
  | [d1, d2] => { results := [.lit (.bool false)], args := [d1, d2] }
  | _ => none }
def FnExactHoldAtWrongFalsely : Prop := fnExactHoldAtRow.holds Try.pinned (OpenSpec.ofChange fnExactHoldAtWrong)

/-- 'laws.FnExactHoldPut': WHATEVER THE INPUT: true; the input reads as it did. -/
def fnExactHoldPutSpec : ChangeSpec := { name := "fnExactHoldPut", fn := fun _ => fun
  | [d1, d2] => { results := [.lit (.bool true)], args := [d1, d2] }
  | _ => none }
def fnExactHoldPutRow : OpenClaim := { program := "ytnjpcbmonipaoaa", sum := "add1e4d428cd31c2dd541d76b065615db690b4b61e9fe852613d916936d63d54", func := "loop.example/g00735/laws.FnExactHoldPut", spec := "fnExactHoldPut", inPlace := ["internal/bytealg.abigen_runtime_cmpstring"], unfollowed := true, recurses := true, apart := false }
def FnExactHoldPutSaid : Prop := fnExactHoldPutRow.holds Try.pinned (OpenSpec.ofChange fnExactHoldPutSpec)

/-- ITS FALSE NEIGHBOUR: 'it returns false'. Refute it at one input. -/
def fnExactHoldPutWrong : ChangeSpec := { name := "fnExactHoldPut", fn := fun _ => fun
  | [d1, d2] => { results := [.lit (.bool false)], args := [d1, d2] }
  | _ => none }
def FnExactHoldPutWrongFalsely : Prop := fnExactHoldPutRow.holds Try.pinned (OpenSpec.ofChange fnExactHoldPutWrong)

/-- 'laws.FnExactHoldDrop': WHATEVER THE INPUT: true; the input reads as it did. -/
def fnExactHoldDropSpec : ChangeSpec := { name := "fnExactHoldDrop", fn := fun _ => fun
  | [d1, d2] => { results := [.lit (.bool true)], args := [d1, d2] }
  | _ => none }
def fnExactHoldDropRow : OpenClaim := { program := "ytnjpcbmonipaoaa", sum := "add1e4d428cd31c2dd541d76b065615db690b4b61e9fe852613d916936d63d54", func := "loop.example/g00735/laws.FnExactHoldDrop", spec := "fnExactHoldDrop", unfollowed := true, recurses := true, apart := false }
def FnExactHoldDropSaid : Prop := fnExactHoldDropRow.holds Try.pinned (OpenSpec.ofChange fnExactHoldDropSpec)

/-- ITS FALSE NEIGHBOUR: 'it returns false'. Refute it at one input. -/
def fnExactHoldDropWrong : ChangeSpec := { name := "fnExactHoldDrop", fn := fun _ => fun
  | [d1, d2] => { results := [.lit (.bool false)], args := [d1, d2] }
  | _ => none }
def FnExactHoldDropWrongFalsely : Prop := fnExactHoldDropRow.holds Try.pinned (OpenSpec.ofChange fnExactHoldDropWrong)

/-- 'laws.FnExactLiveOnes': WHATEVER THE INPUT: true; the input reads as it did. -/
def fnExactLiveOnesSpec : ChangeSpec := { name := "fnExactLiveOnes", fn := fun _ => fun
  | [d1, d2] => { results := [.lit (.bool true)], args := [d1, d2] }
  | _ => none }
def fnExactLiveOnesRow : OpenClaim := { program := "ytnjpcbmonipaoaa", sum := "add1e4d428cd31c2dd541d76b065615db690b4b61e9fe852613d916936d63d54", func := "loop.example/g00735/laws.FnExactLiveOnes", spec := "fnExactLiveOnes", unfollowed := true, recurses := true, apart := false }
def FnExactLiveOnesSaid : Prop := fnExactLiveOnesRow.holds Try.pinned (OpenSpec.ofChange fnExactLiveOnesSpec)

/-- ITS FALSE NEIGHBOUR: 'it returns false'. Refute it at one input. -/
def fnExactLiveOnesWrong : ChangeSpec := { name := "fnExactLiveOnes", fn := fun _ => fun
  | [d1, d2] => { results := [.lit (.bool false)], args := [d1, d2] }
  | _ => none }
def FnExactLiveOnesWrongFalsely : Prop := fnExactLiveOnesRow.holds Try.pinned (OpenSpec.ofChange fnExactLiveOnesWrong)

/- THE SECOND FORM. 'bulk': how many values and letters a reading holds, each counted each time it is reached (what is shared counts as often as it is met; a slice's spare places count too). A statement '..UptoSaid' is the law's where the arguments, and the package variables that the reading takes, are together of bulk at most 1048576: NARROWER than '..Said'. Prove '..Said' where nothing that the law and all that it calls make is longer than what came in: it says more and counts as full. Else prove '..UptoSaid'. A law counts once. -/
mutual
def uptoBulk {H : Type} : DataW H → Nat
  | .lit (.string bytes) => bytes.length + 1
  | .lit _ => 1
  | .nil => 1
  | .ptr d => uptoBulk d + 1
  | .slice elems spare => uptoBulkAll elems + uptoBulkAll spare + 1
  | .agg parts => uptoBulkAll parts + 1
  | .iface _ d => uptoBulk d + 1
  | .map entries => uptoBulkEntries entries + 1
  | .held _ => 1
def uptoBulkAll {H : Type} : List (DataW H) → Nat
  | [] => 0
  | d :: r => uptoBulk d + uptoBulkAll r
def uptoBulkEntries {H : Type} : List (Lit × DataW H) → Nat
  | [] => 0
  | x :: r => uptoBulkEntry x + uptoBulkEntries r
def uptoBulkEntry {H : Type} : Lit × DataW H → Nat
  | (.string bytes, d) => bytes.length + uptoBulk d + 1
  | (_, d) => uptoBulk d + 1
 end
def uptoSmall : (H : Type) → List (DataW H) → Bool := fun _ ds => decide (uptoBulkAll ds ≤ 1048576)
def OpenSpec.upto (s : _root_.Go.ChangeSpec) : _root_.Go.OpenSpec := { _root_.Go.OpenSpec.ofChange s with cond := some uptoSmall }

/-- 'laws.FnExactHoldIdOk', WHERE WHAT IT READS IS OF BULK AT MOST 1048576: true; the input reads as it did. -/
def fnExactHoldIdOkUptoRow : OpenClaim := { program := "ytnjpcbmonipaoaa", sum := "add1e4d428cd31c2dd541d76b065615db690b4b61e9fe852613d916936d63d54", func := "loop.example/g00735/laws.FnExactHoldIdOk", spec := "fnExactHoldIdOk", apart := false, narrowed := true }
def FnExactHoldIdOkUptoSaid : Prop := fnExactHoldIdOkUptoRow.holds Try.pinned (OpenSpec.upto fnExactHoldIdOkSpec)

/-- 'laws.FnExactHoldOk', WHERE WHAT IT READS IS OF BULK AT MOST 1048576: true; the input reads as it did. -/
def fnExactHoldOkUptoRow : OpenClaim := { program := "ytnjpcbmonipaoaa", sum := "add1e4d428cd31c2dd541d76b065615db690b4b61e9fe852613d916936d63d54", func := "loop.example/g00735/laws.FnExactHoldOk", spec := "fnExactHoldOk", apart := false, narrowed := true }
def FnExactHoldOkUptoSaid : Prop := fnExactHoldOkUptoRow.holds Try.pinned (OpenSpec.upto fnExactHoldOkSpec)

/-- 'laws.FnExactHoldsOk', WHERE WHAT IT READS IS OF BULK AT MOST 1048576: true; the input reads as it did. -/
def fnExactHoldsOkUptoRow : OpenClaim := { program := "ytnjpcbmonipaoaa", sum := "add1e4d428cd31c2dd541d76b065615db690b4b61e9fe852613d916936d63d54", func := "loop.example/g00735/laws.FnExactHoldsOk", spec := "fnExactHoldsOk", apart := false, narrowed := true }
def FnExactHoldsOkUptoSaid : Prop := fnExactHoldsOkUptoRow.holds Try.pinned (OpenSpec.upto fnExactHoldsOkSpec)

/-- 'laws.FnExactLive', WHERE WHAT IT READS IS OF BULK AT MOST 1048576: true; the input reads as it did. -/
def fnExactLiveUptoRow : OpenClaim := { program := "ytnjpcbmonipaoaa", sum := "add1e4d428cd31c2dd541d76b065615db690b4b61e9fe852613d916936d63d54", func := "loop.example/g00735/laws.FnExactLive", spec := "fnExactLive", apart := false, narrowed := true }
def FnExactLiveUptoSaid : Prop := fnExactLiveUptoRow.holds Try.pinned (OpenSpec.upto fnExactLiveSpec)

/-- 'laws.FnExactHoldAt', WHERE WHAT IT READS IS OF BULK AT MOST 1048576: true; the input reads as it did. -/
def fnExactHoldAtUptoRow : OpenClaim := { program := "ytnjpcbmonipaoaa", sum := "add1e4d428cd31c2dd541d76b065615db690b4b61e9fe852613d916936d63d54", func := "loop.example/g00735/laws.FnExactHoldAt", spec := "fnExactHoldAt", inPlace := ["internal/bytealg.abigen_runtime_cmpstring"], unfollowed := true, recurses := true, apart := false, narrowed := true }
def FnExactHoldAtUptoSaid : Prop := fnExactHoldAtUptoRow.holds Try.pinned (OpenSpec.upto fnExactHoldAtSpec)

/-- 'laws.FnExactHoldPut', WHERE WHAT IT READS IS OF BULK AT MOST 1048576: true; the input reads as it did. -/
def fnExactHoldPutUptoRow : OpenClaim := { program := "ytnjpcbmonipaoaa", sum := "add1e4d428cd31c2dd541d76b065615db690b4b61e9fe852613d916936d63d54", func := "loop.example/g00735/laws.FnExactHoldPut", spec := "fnExactHoldPut", inPlace := ["internal/bytealg.abigen_runtime_cmpstring"], unfollowed := true, recurses := true, apart := false, narrowed := true }
def FnExactHoldPutUptoSaid : Prop := fnExactHoldPutUptoRow.holds Try.pinned (OpenSpec.upto fnExactHoldPutSpec)

/-- 'laws.FnExactHoldDrop', WHERE WHAT IT READS IS OF BULK AT MOST 1048576: true; the input reads as it did. -/
def fnExactHoldDropUptoRow : OpenClaim := { program := "ytnjpcbmonipaoaa", sum := "add1e4d428cd31c2dd541d76b065615db690b4b61e9fe852613d916936d63d54", func := "loop.example/g00735/laws.FnExactHoldDrop", spec := "fnExactHoldDrop", unfollowed := true, recurses := true, apart := false, narrowed := true }
def FnExactHoldDropUptoSaid : Prop := fnExactHoldDropUptoRow.holds Try.pinned (OpenSpec.upto fnExactHoldDropSpec)

/-- 'laws.FnExactLiveOnes', WHERE WHAT IT READS IS OF BULK AT MOST 1048576: true; the input reads as it did. -/
def fnExactLiveOnesUptoRow : OpenClaim := { program := "ytnjpcbmonipaoaa", sum := "add1e4d428cd31c2dd541d76b065615db690b4b61e9fe852613d916936d63d54", func := "loop.example/g00735/laws.FnExactLiveOnes", spec := "fnExactLiveOnes", unfollowed := true, recurses := true, apart := false, narrowed := true }
def FnExactLiveOnesUptoSaid : Prop := fnExactLiveOnesUptoRow.holds Try.pinned (OpenSpec.upto fnExactLiveOnesSpec)

end Rows
end Go.Proofs.Ytnjpcbmonipaoaa
