/-
  NARROWER THAN 'FOR EVERY INPUT', by the rows' own cells (each row's printed sentence says how): FnExactReqOk: laid.
  DERIVED. THE GIVEN ROWS OF THIS SEAT. 1 by the template 'for every input the law returns true; each argument reads behind the call as it read before'; 0 by the template 'total and deterministic' (their statements: YtmojpiofdfmdgabDoorTotals.lean).
  GIVEN WITH THE SEED: the statements are not yours to turn. If you find one false, say at which input.
  Laid BY PROGRAM, IN A SANDBOX (cutbox-rows.mjs): the forced cells as the released guide's own fill.sh prints them over the translation e0fb979d769cfb13… (all of the seat's roots in one cut). By AI agents, Wed Nov 11 2026. No macro, syntax, notation, axiom, sorry.
-/
import Derived.Test.YtmojpiofdfmdgabDoorChecked
import GoSem.Claim
import GoSem.ClaimJoined
import GoSem.ClaimMapViews
import Derived.JoinedTies
import Derived.KernelRfl
namespace Go.Proofs.YtmojpiofdfmdgabDoor
/- THE CELL 'sum', in the pinned program and in every row, IS THE sha256 OF THE DUMP (.gsa) THAT YtmojpiofdfmdgabDoorProg.lean LOADS. Nothing in Lean hashes anything: it is a label: what it is worth is what the hold of that sum in a sandbox is worth. -/
noncomputable def Tryd.pinned : Pinned := { name := "ytmojpiofdfmdgabdoor", sum := "e0fb979d769cfb13cf6437f58ce37affea5a01406bdc742c89d5703067d7ba5d", checked := Tryd.checked }
namespace Rows
def none {H : Type} : Left H := { results := [], args := [] }

/- WHAT THE LISTED PACKAGE-LEVEL VARIABLES READ AS WHEN THE CALL BEGINS. Each datum BY PROGRAM (the guide's laid-datum.mjs) off the statement by which the dump's own 'gosem.cut.vars' lays the variable. In a bare row this is a premise. The card (YtmojpiofdfmdgabDoorCards.lean) ties it to the program's text. -/
def laid_loop_example_g00735_impl_opTable {H : Type} : DataW H := .agg [.agg [.lit (.string []), .lit (.string []), .lit (.string [])], .agg [.lit (.string [48, 49, 48, 48]), .lit (.string [48, 48]), .lit (.string [97, 117, 116, 104])], .agg [.lit (.string [48, 49, 48, 48]), .lit (.string [48, 50]), .lit (.string [109, 111, 114, 101])], .agg [.lit (.string [48, 50, 50, 48]), .lit (.string [48, 49]), .lit (.string [112, 97, 114, 116])], .agg [.lit (.string [48, 50, 50, 48]), .lit (.string [48, 48]), .lit (.string [102, 105, 110, 97, 108])], .agg [.lit (.string [48, 50, 50, 48]), .lit (.string [50, 48]), .lit (.string [102, 114, 101, 101])], .agg [.lit (.string [48, 50, 48, 48]), .lit (.string [52, 48]), .lit (.string [109, 111, 118, 101])], .agg [.lit (.string [48, 49, 48, 48]), .lit (.string [51, 49]), .lit (.string [97, 115, 107])], .agg [.lit (.string [48, 50, 48, 48]), .lit (.string [57, 48]), .lit (.string [115, 119, 101, 101, 112])]]

/-- 'laws.FnExactReqOk': WHATEVER THE INPUT: true; the input reads as it did. -/
def fnExactReqOkSpec : ChangeSpec := { name := "fnExactReqOk", vars := ["loop.example/g00735/impl.opTable"], fn := fun _ => fun
  | [d, g1] => { results := [.lit (.bool true)], args := [d], vars := [g1] }
  | _ => none }
def fnExactReqOkRow : OpenClaim := { program := "ytmojpiofdfmdgabdoor", sum := "e0fb979d769cfb13cf6437f58ce37affea5a01406bdc742c89d5703067d7ba5d", func := "loop.example/g00735/laws.FnExactReqOk", spec := "fnExactReqOk", unfollowed := true, recurses := true, named := ["loop.example/g00735/impl.opTable"], apart := false, laid := [("loop.example/g00735/impl.opTable", laid_loop_example_g00735_impl_opTable)] }
def FnExactReqOkSaid : Prop := fnExactReqOkRow.holds Tryd.pinned (OpenSpec.ofChange fnExactReqOkSpec)

/-- ITS FALSE NEIGHBOUR: 'it returns false'. Refute it at one input. -/
def fnExactReqOkWrong : ChangeSpec := { name := "fnExactReqOk", vars := ["loop.example/g00735/impl.opTable"], fn := fun _ => fun
  | [d, g1] => { results := [.lit (.bool false)], args := [d], vars := [g1] }
  | _ => none }
def FnExactReqOkWrongFalsely : Prop := fnExactReqOkRow.holds Tryd.pinned (OpenSpec.ofChange fnExactReqOkWrong)

/- THE SECOND FORM. 'bulk': how many values and letters a reading holds, each counted each time it is reached (what is shared counts as often as it is met; a slice's spare places count too). A statement '..UptoSaid' is the law's where the arguments, and the package variables that the reading takes, are together of bulk at most 1048576: NARROWER than '..Said'. Prove '..Said' where nothing that the law and all that it calls make is longer than what came in: it says more and counts as full. Else prove '..UptoSaid'. A law counts once. -/
mutual
def uptoBulk {H : Type} : DataW H → Nat
  | .lit (.string bytes) => bytes.length + 1
  | .lit _ => 1
  | .nil => 1
  | .ptr d => uptoBulk d + 1
  | .slice elems spare => uptoBulkAll elems + uptoBulkAll spare + 1
  | .agg parts => uptoBulkAll parts + 1
  | .iface _ d => uptoBulk d + 1
  | .map entries => uptoBulkEntries entries + 1
  | .held _ => 1
def uptoBulkAll {H : Type} : List (DataW H) → Nat
  | [] => 0
  | d :: r => uptoBulk d + uptoBulkAll r
def uptoBulkEntries {H : Type} : List (Lit × DataW H) → Nat
  | [] => 0
  | x :: r => uptoBulkEntry x + uptoBulkEntries r
def uptoBulkEntry {H : Type} : Lit × DataW H → Nat
  | (.string bytes, d) => bytes.length + uptoBulk d + 1
  | (_, d) => uptoBulk d + 1
 end
def uptoSmall : (H : Type) → List (DataW H) → Bool := fun _ ds => decide (uptoBulkAll ds ≤ 1048576)
def OpenSpec.upto (s : _root_.Go.ChangeSpec) : _root_.Go.OpenSpec := { _root_.Go.OpenSpec.ofChange s with cond := some uptoSmall }

/-- 'laws.FnExactReqOk', WHERE WHAT IT READS IS OF BULK AT MOST 1048576: true; the input reads as it did. -/
def fnExactReqOkUptoRow : OpenClaim := { program := "ytmojpiofdfmdgabdoor", sum := "e0fb979d769cfb13cf6437f58ce37affea5a01406bdc742c89d5703067d7ba5d", func := "loop.example/g00735/laws.FnExactReqOk", spec := "fnExactReqOk", unfollowed := true, recurses := true, named := ["loop.example/g00735/impl.opTable"], apart := false, laid := [("loop.example/g00735/impl.opTable", laid_loop_example_g00735_impl_opTable)], narrowed := true }
def FnExactReqOkUptoSaid : Prop := fnExactReqOkUptoRow.holds Tryd.pinned (OpenSpec.upto fnExactReqOkSpec)

end Rows
end Go.Proofs.YtmojpiofdfmdgabDoor
