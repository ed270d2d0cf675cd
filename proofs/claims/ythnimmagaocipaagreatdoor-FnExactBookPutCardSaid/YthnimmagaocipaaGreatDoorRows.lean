/-
  NARROWER THAN 'FOR EVERY INPUT', by the rows' own cells (each row's printed sentence says how): FnExactBookOk: ifaces, laid · FnExactBookTime: ifaces, laid · FnExactBookPut: ifaces, laid.
  DERIVED. THE GIVEN ROWS OF THIS SEAT. 3 by the template 'for every input the law returns true; each argument reads behind the call as it read before'; 0 by the template 'total and deterministic' (their statements: YthnimmagaocipaaGreatDoorTotals.lean).
  GIVEN WITH THE SEED: the statements are not yours to turn. If you find one false, say at which input.
  Laid BY PROGRAM, IN A SANDBOX (cutbox-rows.mjs): the forced cells as the released guide's own fill.sh prints them over the translation f4fa3f5692f474f2… (all of the seat's roots in one cut). By AI agents, Wed Nov 11 2026. No macro, syntax, notation, axiom, sorry.
-/
import Derived.Test.YthnimmagaocipaaGreatDoorChecked
import GoSem.Claim
import GoSem.ClaimJoined
import GoSem.ClaimMapViews
import Derived.JoinedTies
import Derived.KernelRfl
namespace Go.Proofs.YthnimmagaocipaaGreatDoor
/- THE CELL 'sum', in the pinned program and in every row, IS THE sha256 OF THE DUMP (.gsa) THAT YthnimmagaocipaaGreatDoorProg.lean LOADS. Nothing in Lean hashes anything: it is a label: what it is worth is what the hold of that sum in a sandbox is worth. -/
noncomputable def Tryz.pinned : Pinned := { name := "ythnimmagaocipaagreatdoor", sum := "f4fa3f5692f474f2c2fdc26e31dab94e946a43b1d479d7c914a6d0a36b01a592", checked := Tryz.checked }
namespace Rows
def none {H : Type} : Left H := { results := [], args := [] }

/- WHAT THE LISTED PACKAGE-LEVEL VARIABLES READ AS WHEN THE CALL BEGINS. Each datum BY PROGRAM (the guide's laid-datum.mjs) off the statement by which the dump's own 'gosem.cut.vars' lays the variable. In a bare row this is a premise. The card (YthnimmagaocipaaGreatDoorCards.lean) ties it to the program's text. -/
def laid_errors_errorType {H : Type} : DataW H := .iface "internal/reflectlite.rtype" (.agg [.ptr (.lit (.string [101, 114, 114, 111, 114]))])
def laid_loop_example_g00735_impl_errNotMoney {H : Type} : DataW H := .iface "*errors.errorString" (.ptr (.agg [.lit (.string [110, 111, 116, 32, 109, 111, 110, 101, 121])]))

/-- 'laws.FnExactBookOk': WHATEVER THE INPUT: true; the input reads as it did. -/
def fnExactBookOkSpec : ChangeSpec := { name := "fnExactBookOk", vars := ["loop.example/g00735/impl.errNotMoney"], fn := fun _ => fun
  | [d, g1] => { results := [.lit (.bool true)], args := [d], vars := [g1] }
  | _ => none }
def fnExactBookOkRow : OpenClaim := { program := "ythnimmagaocipaagreatdoor", sum := "f4fa3f5692f474f2c2fdc26e31dab94e946a43b1d479d7c914a6d0a36b01a592", func := "loop.example/g00735/laws.FnExactBookOk", spec := "fnExactBookOk", inPlace := ["internal/reflectlite.ValueOf", "(internal/reflectlite.Value).Type", "(internal/reflectlite.Value).IsNil", "internal/reflectlite.TypeOf", "(internal/reflectlite.Value).Elem", "(internal/reflectlite.Value).Set"], unfollowed := true, recurses := true, named := ["loop.example/g00735/impl.errNotMoney", "errors.errorType"], ifaces := true, plainKeys := false, apart := false, laid := [("errors.errorType", laid_errors_errorType), ("loop.example/g00735/impl.errNotMoney", laid_loop_example_g00735_impl_errNotMoney)] }
def FnExactBookOkSaid : Prop := fnExactBookOkRow.holds Tryz.pinned (OpenSpec.ofChange fnExactBookOkSpec)

/-- ITS FALSE NEIGHBOUR: 'it returns false'. Refute it at one input. -/
def fnExactBookOkWrong : ChangeSpec := { name := "fnExactBookOk", vars := ["loop.example/g00735/impl.errNotMoney"], fn := fun _ => fun
  | [d, g1] => { results := [.lit (.bool false)], args := [d], vars := [g1] }
  | _ => none }
def FnExactBookOkWrongFalsely : Prop := fnExactBookOkRow.holds Tryz.pinned (OpenSpec.ofChange fnExactBookOkWrong)

/-- 'laws.FnExactBookTime': WHATEVER THE INPUT: true; the input reads as it did. -/
def fnExactBookTimeSpec : ChangeSpec := { name := "fnExactBookTime", vars := ["loop.example/g00735/impl.errNotMoney"], fn := fun _ => fun
  | [d1, d2, g1] => { results := [.lit (.bool true)], args := [d1, d2], vars := [g1] }
  | _ => none }
def fnExactBookTimeRow : OpenClaim := { program := "ythnimmagaocipaagreatdoor", sum := "f4fa3f5692f474f2c2fdc26e31dab94e946a43b1d479d7c914a6d0a36b01a592", func := "loop.example/g00735/laws.FnExactBookTime", spec := "fnExactBookTime", inPlace := ["internal/reflectlite.ValueOf", "(internal/reflectlite.Value).Type", "(internal/reflectlite.Value).IsNil", "internal/reflectlite.TypeOf", "(internal/reflectlite.Value).Elem", "(internal/reflectlite.Value).Set"], unfollowed := true, recurses := true, named := ["loop.example/g00735/impl.errNotMoney", "errors.errorType"], ifaces := true, plainKeys := false, apart := false, laid := [("errors.errorType", laid_errors_errorType), ("loop.example/g00735/impl.errNotMoney", laid_loop_example_g00735_impl_errNotMoney)] }
def FnExactBookTimeSaid : Prop := fnExactBookTimeRow.holds Tryz.pinned (OpenSpec.ofChange fnExactBookTimeSpec)

/-- ITS FALSE NEIGHBOUR: 'it returns false'. Refute it at one input. -/
def fnExactBookTimeWrong : ChangeSpec := { name := "fnExactBookTime", vars := ["loop.example/g00735/impl.errNotMoney"], fn := fun _ => fun
  | [d1, d2, g1] => { results := [.lit (.bool false)], args := [d1, d2], vars := [g1] }
  | _ => none }
def FnExactBookTimeWrongFalsely : Prop := fnExactBookTimeRow.holds Tryz.pinned (OpenSpec.ofChange fnExactBookTimeWrong)

/-- 'laws.FnExactBookPut': WHATEVER THE INPUT: true; the input reads as it did. -/
def fnExactBookPutSpec : ChangeSpec := { name := "fnExactBookPut", vars := ["loop.example/g00735/impl.errNotMoney"], fn := fun _ => fun
  | [d1, d2, g1] => { results := [.lit (.bool true)], args := [d1, d2], vars := [g1] }
  | _ => none }
def fnExactBookPutRow : OpenClaim := { program := "ythnimmagaocipaagreatdoor", sum := "f4fa3f5692f474f2c2fdc26e31dab94e946a43b1d479d7c914a6d0a36b01a592", func := "loop.example/g00735/laws.FnExactBookPut", spec := "fnExactBookPut", inPlace := ["internal/reflectlite.ValueOf", "(internal/reflectlite.Value).Type", "(internal/reflectlite.Value).IsNil", "internal/reflectlite.TypeOf", "(internal/reflectlite.Value).Elem", "(internal/reflectlite.Value).Set"], unfollowed := true, recurses := true, named := ["loop.example/g00735/impl.errNotMoney", "errors.errorType"], ifaces := true, plainKeys := false, apart := false, laid := [("errors.errorType", laid_errors_errorType), ("loop.example/g00735/impl.errNotMoney", laid_loop_example_g00735_impl_errNotMoney)] }
def FnExactBookPutSaid : Prop := fnExactBookPutRow.holds Tryz.pinned (OpenSpec.ofChange fnExactBookPutSpec)

/-- ITS FALSE NEIGHBOUR: 'it returns false'. Refute it at one input. -/
def fnExactBookPutWrong : ChangeSpec := { name := "fnExactBookPut", vars := ["loop.example/g00735/impl.errNotMoney"], fn := fun _ => fun
  | [d1, d2, g1] => { results := [.lit (.bool false)], args := [d1, d2], vars := [g1] }
  | _ => none }
def FnExactBookPutWrongFalsely : Prop := fnExactBookPutRow.holds Tryz.pinned (OpenSpec.ofChange fnExactBookPutWrong)

/- THE SECOND FORM. 'bulk': how many values and letters a reading holds, each counted each time it is reached (what is shared counts as often as it is met; a slice's spare places count too). A statement '..UptoSaid' is the law's where the arguments, and the package variables that the reading takes, are together of bulk at most 1048576: NARROWER than '..Said'. Prove '..Said' where nothing that the law and all that it calls make is longer than what came in: it says more and counts as full. Else prove '..UptoSaid'. A law counts once. -/
mutual
def uptoBulk {H : Type} : DataW H → Nat
  | .lit (.string bytes) => bytes.length + 1
  | .lit _ => 1
  | .nil => 1
  | .ptr d => uptoBulk d + 1
  | .slice elems spare => uptoBulkAll elems + uptoBulkAll spare + 1
  | .agg parts => uptoBulkAll parts + 1
  | .iface _ d => uptoBulk d + 1
  | .map entries => uptoBulkEntries entries + 1
  | .held _ => 1
def uptoBulkAll {H : Type} : List (DataW H) → Nat
  | [] => 0
  | d :: r => uptoBulk d + uptoBulkAll r
def uptoBulkEntries {H : Type} : List (Lit × DataW H) → Nat
  | [] => 0
  | x :: r => uptoBulkEntry x + uptoBulkEntries r
def uptoBulkEntry {H : Type} : Lit × DataW H → Nat
  | (.string bytes, d) => bytes.length + uptoBulk d + 1
  | (_, d) => uptoBulk d + 1
 end
def uptoSmall : (H : Type) → List (DataW H) → Bool := fun _ ds => decide (uptoBulkAll ds ≤ 1048576)
def OpenSpec.upto (s : _root_.Go.ChangeSpec) : _root_.Go.OpenSpec := { _root_.Go.OpenSpec.ofChange s with cond := some uptoSmall }

/-- 'laws.FnExactBookOk', WHERE WHAT IT READS IS OF BULK AT MOST 1048576: true; the input reads as it did. -/
def fnExactBookOkUptoRow : OpenClaim := { program := "ythnimmagaocipaagreatdoor", sum := "f4fa3f5692f474f2c2fdc26e31dab94e946a43b1d479d7c914a6d0a36b01a592", func := "loop.example/g00735/laws.FnExactBookOk", spec := "fnExactBookOk", inPlace := ["internal/reflectlite.ValueOf", "(internal/reflectlite.Value).Type", "(internal/reflectlite.Value).IsNil", "internal/reflectlite.TypeOf", "(internal/reflectlite.Value).Elem", "(internal/reflectlite.Value).Set"], unfollowed := true, recurses := true, named := ["loop.example/g00735/impl.errNotMoney", "errors.errorType"], ifaces := true, plainKeys := false, apart := false, laid := [("errors.errorType", laid_errors_errorType), ("loop.example/g00735/impl.errNotMoney", laid_loop_example_g00735_impl_errNotMoney)], narrowed := true }
def FnExactBookOkUptoSaid : Prop := fnExactBookOkUptoRow.holds Tryz.pinned (OpenSpec.upto fnExactBookOkSpec)

/-- 'laws.FnExactBookTime', WHERE WHAT IT READS IS OF BULK AT MOST 1048576: true; the input reads as it did. -/
def fnExactBookTimeUptoRow : OpenClaim := { program := "ythnimmagaocipaagreatdoor", sum := "f4fa3f5692f474f2c2fdc26e31dab94e946a43b1d479d7c914a6d0a36b01a592", func := "loop.example/g00735/laws.FnExactBookTime", spec := "fnExactBookTime", inPlace := ["internal/reflectlite.ValueOf", "(internal/reflectlite.Value).Type", "(internal/reflectlite.Value).IsNil", "internal/reflectlite.TypeOf", "(internal/reflectlite.Value).Elem", "(internal/reflectlite.Value).Set"], unfollowed := true, recurses := true, named := ["loop.example/g00735/impl.errNotMoney", "errors.errorType"], ifaces := true, plainKeys := false, apart := false, laid := [("errors.errorType", laid_errors_errorType), ("loop.example/g00735/impl.errNotMoney", laid_loop_example_g00735_impl_errNotMoney)], narrowed := true }
def FnExactBookTimeUptoSaid : Prop := fnExactBookTimeUptoRow.holds Tryz.pinned (OpenSpec.upto fnExactBookTimeSpec)

/-- 'laws.FnExactBookPut', WHERE WHAT IT READS IS OF BULK AT MOST 1048576: true; the input reads as it did. -/
def fnExactBookPutUptoRow : OpenClaim := { program := "ythnimmagaocipaagreatdoor", sum := "f4fa3f5692f474f2c2fdc26e31dab94e946a43b1d479d7c914a6d0a36b01a592", func := "loop.example/g00735/laws.FnExactBookPut", spec := "fnExactBookPut", inPlace := ["internal/reflectlite.ValueOf", "(internal/reflectlite.Value).Type", "(internal/reflectlite.Value).IsNil", "internal/reflectlite.TypeOf", "(internal/reflectlite.Value).Elem", "(internal/reflectlite.Value).Set"], unfollowed := true, recurses := true, named := ["loop.example/g00735/impl.errNotMoney", "errors.errorType"], ifaces := true, plainKeys := false, apart := false, laid := [("errors.errorType", laid_errors_errorType), ("loop.example/g00735/impl.errNotMoney", laid_loop_example_g00735_impl_errNotMoney)], narrowed := true }
def FnExactBookPutUptoSaid : Prop := fnExactBookPutUptoRow.holds Tryz.pinned (OpenSpec.upto fnExactBookPutSpec)

end Rows
end Go.Proofs.YthnimmagaocipaaGreatDoor
