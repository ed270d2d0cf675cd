/-
  NARROWER THAN 'FOR EVERY INPUT', by the rows' own cells (each row's printed sentence says how): FnDue: ifaces, laid · FnAuth: ifaces, laid · FnCapture: ifaces, laid · FnMore: ifaces, laid · FnMove: ifaces, laid · FnExactAuthorize: ifaces, laid · FnExactMore: ifaces, laid · FnExactCapture: ifaces, laid · FnExactFree: ifaces, laid · FnExactMove: ifaces, laid · FnExactSweep: ifaces, laid · FnExactAsk: ifaces, laid.
  DERIVED. THE GIVEN ROWS OF THIS SEAT. 12 by the template 'for every input the law returns true; each argument reads behind the call as it read before'; 0 by the template 'total and deterministic' (their statements: YtnmijppppcgobaaGreatDoorTotals.lean).
  GIVEN WITH THE SEED: the statements are not yours to turn. If you find one false, say at which input.
  Laid BY PROGRAM, IN A SANDBOX (cutbox-rows.mjs): the forced cells as the released guide's own fill.sh prints them over the translation f0fe18cb5c1c38fc… (all of the seat's roots in one cut). By AI agents, Wed Nov 11 2026. No macro, syntax, notation, axiom, sorry.
-/
import Derived.Test.YtnmijppppcgobaaGreatDoorChecked
import GoSem.Claim
import GoSem.ClaimJoined
import GoSem.ClaimMapViews
import Derived.JoinedTies
import Derived.KernelRfl
namespace Go.Proofs.YtnmijppppcgobaaGreatDoor
/- THE CELL 'sum', in the pinned program and in every row, IS THE sha256 OF THE DUMP (.gsa) THAT YtnmijppppcgobaaGreatDoorProg.lean LOADS. Nothing in Lean hashes anything: it is a label: what it is worth is what the hold of that sum in a sandbox is worth. -/
noncomputable def Tryz.pinned : Pinned := { name := "ytnmijppppcgobaagreatdoor", sum := "f0fe18cb5c1c38fc660a70b98afb1d075c5e5de9f1b1173c467ee835ac747850", checked := Tryz.checked }
namespace Rows
def none {H : Type} : Left H := { results := [], args := [] }

/- WHAT THE LISTED PACKAGE-LEVEL VARIABLES READ AS WHEN THE CALL BEGINS. Each datum BY PROGRAM (the guide's laid-datum.mjs) off the statement by which the dump's own 'gosem.cut.vars' lays the variable. In a bare row this is a premise. The card (YtnmijppppcgobaaGreatDoorCards.lean) ties it to the program's text. -/
def laid_errors_errorType {H : Type} : DataW H := .iface "internal/reflectlite.rtype" (.agg [.ptr (.lit (.string [101, 114, 114, 111, 114]))])
def laid_loop_example_g00735_impl_errNotMoney {H : Type} : DataW H := .iface "*errors.errorString" (.ptr (.agg [.lit (.string [110, 111, 116, 32, 109, 111, 110, 101, 121])]))
def laid_math_bits_deBruijn32tab {H : Type} : DataW H := .agg [.lit (.int .u8 0), .lit (.int .u8 1), .lit (.int .u8 28), .lit (.int .u8 2), .lit (.int .u8 29), .lit (.int .u8 14), .lit (.int .u8 24), .lit (.int .u8 3), .lit (.int .u8 30), .lit (.int .u8 22), .lit (.int .u8 20), .lit (.int .u8 15), .lit (.int .u8 25), .lit (.int .u8 17), .lit (.int .u8 4), .lit (.int .u8 8), .lit (.int .u8 31), .lit (.int .u8 27), .lit (.int .u8 13), .lit (.int .u8 23), .lit (.int .u8 21), .lit (.int .u8 19), .lit (.int .u8 16), .lit (.int .u8 7), .lit (.int .u8 26), .lit (.int .u8 12), .lit (.int .u8 18), .lit (.int .u8 6), .lit (.int .u8 11), .lit (.int .u8 5), .lit (.int .u8 10), .lit (.int .u8 9)]
def laid_math_bits_deBruijn64tab {H : Type} : DataW H := .agg [.lit (.int .u8 0), .lit (.int .u8 1), .lit (.int .u8 56), .lit (.int .u8 2), .lit (.int .u8 57), .lit (.int .u8 49), .lit (.int .u8 28), .lit (.int .u8 3), .lit (.int .u8 61), .lit (.int .u8 58), .lit (.int .u8 42), .lit (.int .u8 50), .lit (.int .u8 38), .lit (.int .u8 29), .lit (.int .u8 17), .lit (.int .u8 4), .lit (.int .u8 62), .lit (.int .u8 47), .lit (.int .u8 59), .lit (.int .u8 36), .lit (.int .u8 45), .lit (.int .u8 43), .lit (.int .u8 51), .lit (.int .u8 22), .lit (.int .u8 53), .lit (.int .u8 39), .lit (.int .u8 33), .lit (.int .u8 30), .lit (.int .u8 24), .lit (.int .u8 18), .lit (.int .u8 12), .lit (.int .u8 5), .lit (.int .u8 63), .lit (.int .u8 55), .lit (.int .u8 48), .lit (.int .u8 27), .lit (.int .u8 60), .lit (.int .u8 41), .lit (.int .u8 37), .lit (.int .u8 16), .lit (.int .u8 46), .lit (.int .u8 35), .lit (.int .u8 44), .lit (.int .u8 21), .lit (.int .u8 52), .lit (.int .u8 32), .lit (.int .u8 23), .lit (.int .u8 11), .lit (.int .u8 54), .lit (.int .u8 26), .lit (.int .u8 40), .lit (.int .u8 15), .lit (.int .u8 34), .lit (.int .u8 20), .lit (.int .u8 31), .lit (.int .u8 10), .lit (.int .u8 25), .lit (.int .u8 14), .lit (.int .u8 19), .lit (.int .u8 9), .lit (.int .u8 13), .lit (.int .u8 8), .lit (.int .u8 7), .lit (.int .u8 6)]
def laid_internal_strconv_uint64pow10 {H : Type} : DataW H := .agg [.lit (.int .u64 1), .lit (.int .u64 10), .lit (.int .u64 100), .lit (.int .u64 1000), .lit (.int .u64 10000), .lit (.int .u64 100000), .lit (.int .u64 1000000), .lit (.int .u64 10000000), .lit (.int .u64 100000000), .lit (.int .u64 1000000000), .lit (.int .u64 10000000000), .lit (.int .u64 100000000000), .lit (.int .u64 1000000000000), .lit (.int .u64 10000000000000), .lit (.int .u64 100000000000000), .lit (.int .u64 1000000000000000), .lit (.int .u64 10000000000000000), .lit (.int .u64 100000000000000000), .lit (.int .u64 1000000000000000000), .lit (.int .u64 10000000000000000000)]

/-- 'laws.FnDue': WHATEVER THE INPUT: true; the input reads as it did. -/
def fnDueSpec : ChangeSpec := { name := "fnDue", vars := ["loop.example/g00735/impl.errNotMoney"], fn := fun _ => fun
  | [d, g1] => { results := [.lit (.bool true)], args := [d], vars := [g1] }
  | _ => none }
def fnDueRow : OpenClaim := { program := "ytnmijppppcgobaagreatdoor", sum := "f0fe18cb5c1c38fc660a70b98afb1d075c5e5de9f1b1173c467ee835ac747850", func := "loop.example/g00735/laws.FnDue", spec := "fnDue", inPlace := ["internal/reflectlite.ValueOf", "(internal/reflectlite.Value).Type", "(internal/reflectlite.Value).IsNil", "internal/reflectlite.TypeOf", "(internal/reflectlite.Value).Elem", "(internal/reflectlite.Value).Set", "internal/bytealg.abigen_runtime_cmpstring"], unfollowed := true, recurses := true, named := ["loop.example/g00735/impl.errNotMoney", "errors.errorType"], ifaces := true, plainKeys := false, apart := false, laid := [("errors.errorType", laid_errors_errorType), ("loop.example/g00735/impl.errNotMoney", laid_loop_example_g00735_impl_errNotMoney)] }
def FnDueSaid : Prop := fnDueRow.holds Tryz.pinned (OpenSpec.ofChange fnDueSpec)

/-- ITS FALSE NEIGHBOUR: 'it returns false'. Refute it at one input. -/
def fnDueWrong : ChangeSpec := { name := "fnDue", vars := ["loop.example/g00735/impl.errNotMoney"], fn := fun _ => fun
  | [d, g1] => { results := [.lit (.bool false)], args := [d], vars := [g1] }
  | _ => none }
def FnDueWrongFalsely : Prop := fnDueRow.holds Tryz.pinned (OpenSpec.ofChange fnDueWrong)

/-- 'laws.FnAuth': WHATEVER THE INPUT: true; the input reads as it did. -/
def fnAuthSpec : ChangeSpec := { name := "fnAuth", vars := ["loop.example/g00735/impl.errNotMoney"], fn := fun _ => fun
  | [d, g1] => { results := [.lit (.bool true)], args := [d], vars := [g1] }
  | _ => none }
def fnAuthRow : OpenClaim := { program := "ytnmijppppcgobaagreatdoor", sum := "f0fe18cb5c1c38fc660a70b98afb1d075c5e5de9f1b1173c467ee835ac747850", func := "loop.example/g00735/laws.FnAuth", spec := "fnAuth", inPlace := ["internal/reflectlite.ValueOf", "(internal/reflectlite.Value).Type", "(internal/reflectlite.Value).IsNil", "internal/reflectlite.TypeOf", "(internal/reflectlite.Value).Elem", "(internal/reflectlite.Value).Set", "internal/bytealg.abigen_runtime_cmpstring"], unfollowed := true, recurses := true, named := ["loop.example/g00735/impl.errNotMoney", "errors.errorType"], ifaces := true, plainKeys := false, apart := false, laid := [("errors.errorType", laid_errors_errorType), ("loop.example/g00735/impl.errNotMoney", laid_loop_example_g00735_impl_errNotMoney)] }
def FnAuthSaid : Prop := fnAuthRow.holds Tryz.pinned (OpenSpec.ofChange fnAuthSpec)

/-- ITS FALSE NEIGHBOUR: 'it returns false'. Refute it at one input. -/
def fnAuthWrong : ChangeSpec := { name := "fnAuth", vars := ["loop.example/g00735/impl.errNotMoney"], fn := fun _ => fun
  | [d, g1] => { results := [.lit (.bool false)], args := [d], vars := [g1] }
  | _ => none }
def FnAuthWrongFalsely : Prop := fnAuthRow.holds Tryz.pinned (OpenSpec.ofChange fnAuthWrong)

/-- 'laws.FnCapture': WHATEVER THE INPUT: true; the input reads as it did. -/
def fnCaptureSpec : ChangeSpec := { name := "fnCapture", vars := ["loop.example/g00735/impl.errNotMoney"], fn := fun _ => fun
  | [d, g1] => { results := [.lit (.bool true)], args := [d], vars := [g1] }
  | _ => none }
def fnCaptureRow : OpenClaim := { program := "ytnmijppppcgobaagreatdoor", sum := "f0fe18cb5c1c38fc660a70b98afb1d075c5e5de9f1b1173c467ee835ac747850", func := "loop.example/g00735/laws.FnCapture", spec := "fnCapture", inPlace := ["internal/reflectlite.ValueOf", "(internal/reflectlite.Value).Type", "(internal/reflectlite.Value).IsNil", "internal/reflectlite.TypeOf", "(internal/reflectlite.Value).Elem", "(internal/reflectlite.Value).Set", "internal/bytealg.abigen_runtime_cmpstring"], unfollowed := true, recurses := true, named := ["loop.example/g00735/impl.errNotMoney", "errors.errorType"], ifaces := true, plainKeys := false, apart := false, laid := [("errors.errorType", laid_errors_errorType), ("loop.example/g00735/impl.errNotMoney", laid_loop_example_g00735_impl_errNotMoney)] }
def FnCaptureSaid : Prop := fnCaptureRow.holds Tryz.pinned (OpenSpec.ofChange fnCaptureSpec)

/-- ITS FALSE NEIGHBOUR: 'it returns false'. Refute it at one input. -/
def fnCaptureWrong : ChangeSpec := { name := "fnCapture", vars := ["loop.example/g00735/impl.errNotMoney"], fn := fun _ => fun
  | [d, g1] => { results := [.lit (.bool false)], args := [d], vars := [g1] }
  | _ => none }
def FnCaptureWrongFalsely : Prop := fnCaptureRow.holds Tryz.pinned (OpenSpec.ofChange fnCaptureWrong)

/-- 'laws.FnMore': WHATEVER THE INPUT: true; the input reads as it did. -/
def fnMoreSpec : ChangeSpec := { name := "fnMore", vars := ["loop.example/g00735/impl.errNotMoney"], fn := fun _ => fun
  | [d, g1] => { results := [.lit (.bool true)], args := [d], vars := [g1] }
  | _ => none }
def fnMoreRow : OpenClaim := { program := "ytnmijppppcgobaagreatdoor", sum := "f0fe18cb5c1c38fc660a70b98afb1d075c5e5de9f1b1173c467ee835ac747850", func := "loop.example/g00735/laws.FnMore", spec := "fnMore", inPlace := ["internal/reflectlite.ValueOf", "(internal/reflectlite.Value).Type", "(internal/reflectlite.Value).IsNil", "internal/reflectlite.TypeOf", "(internal/reflectlite.Value).Elem", "(internal/reflectlite.Value).Set", "internal/bytealg.abigen_runtime_cmpstring"], unfollowed := true, recurses := true, named := ["loop.example/g00735/impl.errNotMoney", "errors.errorType"], ifaces := true, plainKeys := false, apart := false, laid := [("errors.errorType", laid_errors_errorType), ("loop.example/g00735/impl.errNotMoney", laid_loop_example_g00735_impl_errNotMoney)] }
def FnMoreSaid : Prop := fnMoreRow.holds Tryz.pinned (OpenSpec.ofChange fnMoreSpec)

/-- ITS FALSE NEIGHBOUR: 'it returns false'. Refute it at one input. -/
def fnMoreWrong : ChangeSpec := { name := "fnMore", vars := ["loop.example/g00735/impl.errNotMoney"], fn := fun _ => fun
  | [d, g1] => { results := [.lit (.bool false)], args := [d], vars := [g1] }
  | _ => none }
def FnMoreWrongFalsely : Prop := fnMoreRow.holds Tryz.pinned (OpenSpec.ofChange fnMoreWrong)

/-- 'laws.FnMove': WHATEVER THE INPUT: true; the input reads as it did. -/
def fnMoveSpec : ChangeSpec := { name := "fnMove", vars := ["loop.example/g00735/impl.errNotMoney"], fn := fun _ => fun
  | [d, g1] => { results := [.lit (.bool true)], args := [d], vars := [g1] }
  | _ => none }
def fnMoveRow : OpenClaim := { program := "ytnmijppppcgobaagreatdoor", sum := "f0fe18cb5c1c38fc660a70b98afb1d075c5e5de9f1b1173c467ee835ac747850", func := "loop.example/g00735/laws.FnMove", spec := "fnMove", inPlace := ["internal/reflectlite.ValueOf", "(internal/reflectlite.Value).Type", "(internal/reflectlite.Value).IsNil", "internal/reflectlite.TypeOf", "(internal/reflectlite.Value).Elem", "(internal/reflectlite.Value).Set", "internal/bytealg.abigen_runtime_cmpstring"], unfollowed := true, recurses := true, named := ["loop.example/g00735/impl.errNotMoney", "errors.errorType"], ifaces := true, plainKeys := false, apart := false, laid := [("errors.errorType", laid_errors_errorType), ("loop.example/g00735/impl.errNotMoney", laid_loop_example_g00735_impl_errNotMoney)] }
def FnMoveSaid : Prop := fnMoveRow.holds Tryz.pinned (OpenSpec.ofChange fnMoveSpec)

/-- ITS FALSE NEIGHBOUR: 'it returns false'. Refute it at one input. -/
def fnMoveWrong : ChangeSpec := { name := "fnMove", vars := ["loop.example/g00735/impl.errNotMoney"], fn := fun _ => fun
  | [d, g1] => { results := [.lit (.bool false)], args := [d], vars := [g1] }
  | _ => none }
def FnMoveWrongFalsely : Prop := fnMoveRow.holds Tryz.pinned (OpenSpec.ofChange fnMoveWrong)

/-- 'laws.FnExactAuthorize': WHATEVER THE INPUT: true; the input reads as it did. -/
def fnExactAuthorizeSpec : ChangeSpec := { name := "fnExactAuthorize", vars := ["loop.example/g00735/impl.errNotMoney"], fn := fun _ => fun
  | [d1, d2, d3, d4, d5, g1] => { results := [.lit (.bool true)], args := [d1, d2, d3, d4, d5], vars := [g1] }
  | _ => none }
def fnExactAuthorizeRow : OpenClaim := { program := "ytnmijppppcgobaagreatdoor", sum := "f0fe18cb5c1c38fc660a70b98afb1d075c5e5de9f1b1173c467ee835ac747850", func := "loop.example/g00735/laws.FnExactAuthorize", spec := "fnExactAuthorize", inPlace := ["internal/reflectlite.ValueOf", "(internal/reflectlite.Value).Type", "(internal/reflectlite.Value).IsNil", "internal/reflectlite.TypeOf", "(internal/reflectlite.Value).Elem", "(internal/reflectlite.Value).Set", "internal/bytealg.abigen_runtime_cmpstring"], unfollowed := true, recurses := true, named := ["loop.example/g00735/impl.errNotMoney", "errors.errorType"], ifaces := true, plainKeys := false, apart := false, laid := [("errors.errorType", laid_errors_errorType), ("loop.example/g00735/impl.errNotMoney", laid_loop_example_g00735_impl_errNotMoney)] }
def FnExactAuthorizeSaid : Prop := fnExactAuthorizeRow.holds Tryz.pinned (OpenSpec.ofChange fnExactAuthorizeSpec)

/-- ITS FALSE NEIGHBOUR: 'it returns false'. Refute it at one input. -/
def fnExactAuthorizeWrong : ChangeSpec := { name := "fnExactAuthorize", vars := ["loop.example/g00735/impl.errNotMoney"], fn := fun _ => fun
  | [d1, d2, d3, d4, d5, g1] => { results := [.lit (.bool false)], args := [d1, d2, d3, d4, d5], vars := [g1] }
  | _ => none }
def FnExactAuthorizeWrongFalsely : Prop := fnExactAuthorizeRow.holds Tryz.pinned (OpenSpec.ofChange fnExactAuthorizeWrong)

/-- 'laws.FnExactMore': WHATEVER THE INPUT: true; the input reads as it did. -/
def fnExactMoreSpec : ChangeSpec := { name := "fnExactMore", vars := ["loop.example/g00735/impl.errNotMoney"], fn := fun _ => fun
  | [d1, d2, d3, d4, g1] => { results := [.lit (.bool true)], args := [d1, d2, d3, d4], vars := [g1] }
  | _ => none }
def fnExactMoreRow : OpenClaim := { program := "ytnmijppppcgobaagreatdoor", sum := "f0fe18cb5c1c38fc660a70b98afb1d075c5e5de9f1b1173c467ee835ac747850", func := "loop.example/g00735/laws.FnExactMore", spec := "fnExactMore", inPlace := ["internal/reflectlite.ValueOf", "(internal/reflectlite.Value).Type", "(internal/reflectlite.Value).IsNil", "internal/reflectlite.TypeOf", "(internal/reflectlite.Value).Elem", "(internal/reflectlite.Value).Set", "internal/bytealg.abigen_runtime_cmpstring"], unfollowed := true, recurses := true, named := ["loop.example/g00735/impl.errNotMoney", "errors.errorType"], ifaces := true, plainKeys := false, apart := false, laid := [("errors.errorType", laid_errors_errorType), ("loop.example/g00735/impl.errNotMoney", laid_loop_example_g00735_impl_errNotMoney)] }
def FnExactMoreSaid : Prop := fnExactMoreRow.holds Tryz.pinned (OpenSpec.ofChange fnExactMoreSpec)

/-- ITS FALSE NEIGHBOUR: 'it returns false'. Refute it at one input. -/
def fnExactMoreWrong : ChangeSpec := { name := "fnExactMore", vars := ["loop.example/g00735/impl.errNotMoney"], fn := fun _ => fun
  | [d1, d2, d3, d4, g1] => { results := [.lit (.bool false)], args := [d1, d2, d3, d4], vars := [g1] }
  | _ => none }
def FnExactMoreWrongFalsely : Prop := fnExactMoreRow.holds Tryz.pinned (OpenSpec.ofChange fnExactMoreWrong)

/-- 'laws.FnExactCapture': WHATEVER THE INPUT: true; the input reads as it did. -/
def fnExactCaptureSpec : ChangeSpec := { name := "fnExactCapture", vars := ["loop.example/g00735/impl.errNotMoney"], fn := fun _ => fun
  | [d1, d2, d3, d4, d5, g1] => { results := [.lit (.bool true)], args := [d1, d2, d3, d4, d5], vars := [g1] }
  | _ => none }
def fnExactCaptureRow : OpenClaim := { program := "ytnmijppppcgobaagreatdoor", sum := "f0fe18cb5c1c38fc660a70b98afb1d075c5e5de9f1b1173c467ee835ac747850", func := "loop.example/g00735/laws.FnExactCapture", spec := "fnExactCapture", inPlace := ["internal/reflectlite.ValueOf", "(internal/reflectlite.Value).Type", "(internal/reflectlite.Value).IsNil", "internal/reflectlite.TypeOf", "(internal/reflectlite.Value).Elem", "(internal/reflectlite.Value).Set", "internal/bytealg.abigen_runtime_cmpstring"], unfollowed := true, recurses := true, named := ["loop.example/g00735/impl.errNotMoney", "errors.errorType"], ifaces := true, plainKeys := false, apart := false, laid := [("errors.errorType", laid_errors_errorType), ("loop.example/g00735/impl.errNotMoney", laid_loop_example_g00735_impl_errNotMoney)] }
def FnExactCaptureSaid : Prop := fnExactCaptureRow.holds Tryz.pinned (OpenSpec.ofChange fnExactCaptureSpec)

/-- ITS FALSE NEIGHBOUR: 'it returns false'. Refute it at one input. -/
def fnExactCaptureWrong : ChangeSpec := { name := "fnExactCapture", vars := ["loop.example/g00735/impl.errNotMoney"], fn := fun _ => fun
  | [d1, d2, d3, d4, d5, g1] => { results := [.lit (.bool false)], args := [d1, d2, d3, d4, d5], vars := [g1] }
  | _ => none }
def FnExactCaptureWrongFalsely : Prop := fnExactCaptureRow.holds Tryz.pinned (OpenSpec.ofChange fnExactCaptureWrong)

/-- 'laws.FnExactFree': WHATEVER THE INPUT: true; the input reads as it did. -/
def fnExactFreeSpec : ChangeSpec := { name := "fnExactFree", vars := ["loop.example/g00735/impl.errNotMoney"], fn := fun _ => fun
  | [d1, d2, d3, g1] => { results := [.lit (.bool true)], args := [d1, d2, d3], vars := [g1] }
  | _ => none }
def fnExactFreeRow : OpenClaim := { program := "ytnmijppppcgobaagreatdoor", sum := "f0fe18cb5c1c38fc660a70b98afb1d075c5e5de9f1b1173c467ee835ac747850", func := "loop.example/g00735/laws.FnExactFree", spec := "fnExactFree", inPlace := ["internal/reflectlite.ValueOf", "(internal/reflectlite.Value).Type", "(internal/reflectlite.Value).IsNil", "internal/reflectlite.TypeOf", "(internal/reflectlite.Value).Elem", "(internal/reflectlite.Value).Set", "internal/bytealg.abigen_runtime_cmpstring"], unfollowed := true, recurses := true, named := ["loop.example/g00735/impl.errNotMoney", "errors.errorType"], ifaces := true, plainKeys := false, apart := false, laid := [("errors.errorType", laid_errors_errorType), ("loop.example/g00735/impl.errNotMoney", laid_loop_example_g00735_impl_errNotMoney)] }
def FnExactFreeSaid : Prop := fnExactFreeRow.holds Tryz.pinned (OpenSpec.ofChange fnExactFreeSpec)

/-- ITS FALSE NEIGHBOUR: 'it returns false'. Refute it at one input. -/
def fnExactFreeWrong : ChangeSpec := { name := "fnExactFree", vars := ["loop.example/g00735/impl.errNotMoney"], fn := fun _ => fun
  | [d1, d2, d3, g1] => { results := [.lit (.bool false)], args := [d1, d2, d3], vars := [g1] }
  | _ => none }
def FnExactFreeWrongFalsely : Prop := fnExactFreeRow.holds Tryz.pinned (OpenSpec.ofChange fnExactFreeWrong)

/-- 'laws.FnExactMove': WHATEVER THE INPUT: true; the input reads as it did. -/
def fnExactMoveSpec : ChangeSpec := { name := "fnExactMove", vars := ["loop.example/g00735/impl.errNotMoney"], fn := fun _ => fun
  | [d1, d2, d3, d4, g1] => { results := [.lit (.bool true)], args := [d1, d2, d3, d4], vars := [g1] }
  | _ => none }
def fnExactMoveRow : OpenClaim := { program := "ytnmijppppcgobaagreatdoor", sum := "f0fe18cb5c1c38fc660a70b98afb1d075c5e5de9f1b1173c467ee835ac747850", func := "loop.example/g00735/laws.FnExactMove", spec := "fnExactMove", inPlace := ["internal/reflectlite.ValueOf", "(internal/reflectlite.Value).Type", "(internal/reflectlite.Value).IsNil", "internal/reflectlite.TypeOf", "(internal/reflectlite.Value).Elem", "(internal/reflectlite.Value).Set", "internal/bytealg.abigen_runtime_cmpstring"], unfollowed := true, recurses := true, named := ["loop.example/g00735/impl.errNotMoney", "errors.errorType"], ifaces := true, plainKeys := false, apart := false, laid := [("errors.errorType", laid_errors_errorType), ("loop.example/g00735/impl.errNotMoney", laid_loop_example_g00735_impl_errNotMoney)] }
def FnExactMoveSaid : Prop := fnExactMoveRow.holds Tryz.pinned (OpenSpec.ofChange fnExactMoveSpec)

/-- ITS FALSE NEIGHBOUR: 'it returns false'. Refute it at one input. -/
def fnExactMoveWrong : ChangeSpec := { name := "fnExactMove", vars := ["loop.example/g00735/impl.errNotMoney"], fn := fun _ => fun
  | [d1, d2, d3, d4, g1] => { results := [.lit (.bool false)], args := [d1, d2, d3, d4], vars := [g1] }
  | _ => none }
def FnExactMoveWrongFalsely : Prop := fnExactMoveRow.holds Tryz.pinned (OpenSpec.ofChange fnExactMoveWrong)

/-- 'laws.FnExactSweep': WHATEVER THE INPUT: true; the input reads as it did. -/
def fnExactSweepSpec : ChangeSpec := { name := "fnExactSweep", vars := ["loop.example/g00735/impl.errNotMoney"], fn := fun _ => fun
  | [d1, d2, g1] => { results := [.lit (.bool true)], args := [d1, d2], vars := [g1] }
  | _ => none }
def fnExactSweepRow : OpenClaim := { program := "ytnmijppppcgobaagreatdoor", sum := "f0fe18cb5c1c38fc660a70b98afb1d075c5e5de9f1b1173c467ee835ac747850", func := "loop.example/g00735/laws.FnExactSweep", spec := "fnExactSweep", inPlace := ["internal/reflectlite.ValueOf", "(internal/reflectlite.Value).Type", "(internal/reflectlite.Value).IsNil", "internal/reflectlite.TypeOf", "(internal/reflectlite.Value).Elem", "(internal/reflectlite.Value).Set"], unfollowed := true, recurses := true, named := ["loop.example/g00735/impl.errNotMoney", "errors.errorType"], ifaces := true, plainKeys := false, apart := false, laid := [("errors.errorType", laid_errors_errorType), ("loop.example/g00735/impl.errNotMoney", laid_loop_example_g00735_impl_errNotMoney)] }
def FnExactSweepSaid : Prop := fnExactSweepRow.holds Tryz.pinned (OpenSpec.ofChange fnExactSweepSpec)

/-- ITS FALSE NEIGHBOUR: 'it returns false'. Refute it at one input. -/
def fnExactSweepWrong : ChangeSpec := { name := "fnExactSweep", vars := ["loop.example/g00735/impl.errNotMoney"], fn := fun _ => fun
  | [d1, d2, g1] => { results := [.lit (.bool false)], args := [d1, d2], vars := [g1] }
  | _ => none }
def FnExactSweepWrongFalsely : Prop := fnExactSweepRow.holds Tryz.pinned (OpenSpec.ofChange fnExactSweepWrong)

/-- 'laws.FnExactAsk': WHATEVER THE INPUT: true; the input reads as it did. -/
def fnExactAskSpec : ChangeSpec := { name := "fnExactAsk", vars := ["loop.example/g00735/impl.errNotMoney"], fn := fun _ => fun
  | [d1, d2, g1] => { results := [.lit (.bool true)], args := [d1, d2], vars := [g1] }
  | _ => none }
def fnExactAskRow : OpenClaim := { program := "ytnmijppppcgobaagreatdoor", sum := "f0fe18cb5c1c38fc660a70b98afb1d075c5e5de9f1b1173c467ee835ac747850", func := "loop.example/g00735/laws.FnExactAsk", spec := "fnExactAsk", inPlace := ["internal/reflectlite.ValueOf", "(internal/reflectlite.Value).Type", "(internal/reflectlite.Value).IsNil", "internal/reflectlite.TypeOf", "(internal/reflectlite.Value).Elem", "(internal/reflectlite.Value).Set", "internal/abi.NoEscape", "internal/bytealg.MakeNoZero"], unfollowed := true, recurses := true, named := ["loop.example/g00735/impl.errNotMoney", "errors.errorType", "internal/strconv.uint64pow10", "math/bits.deBruijn32tab", "math/bits.deBruijn64tab"], ifaces := true, plainKeys := false, apart := false, laid := [("math/bits.deBruijn32tab", laid_math_bits_deBruijn32tab), ("math/bits.deBruijn64tab", laid_math_bits_deBruijn64tab), ("internal/strconv.uint64pow10", laid_internal_strconv_uint64pow10), ("errors.errorType", laid_errors_errorType), ("loop.example/g00735/impl.errNotMoney", laid_loop_example_g00735_impl_errNotMoney)] }
def FnExactAskSaid : Prop := fnExactAskRow.holds Tryz.pinned (OpenSpec.ofChange fnExactAskSpec)

/-- ITS FALSE NEIGHBOUR: 'it returns false'. Refute it at one input. -/
def fnExactAskWrong : ChangeSpec := { name := "fnExactAsk", vars := ["loop.example/g00735/impl.errNotMoney"], fn := fun _ => fun
  | [d1, d2, g1] => { results := [.lit (.bool false)], args := [d1, d2], vars := [g1] }
  | _ => none }
def FnExactAskWrongFalsely : Prop := fnExactAskRow.holds Tryz.pinned (OpenSpec.ofChange fnExactAskWrong)

/- THE SECOND FORM. 'bulk': how many values and letters a reading holds, each counted each time it is reached (what is shared counts as often as it is met; a slice's spare places count too). A statement '..UptoSaid' is the law's where the arguments, and the package variables that the reading takes, are together of bulk at most 1048576: NARROWER than '..Said'. Prove '..Said' where nothing that the law and all that it calls make is longer than what came in: it says more and counts as full. Else prove '..UptoSaid'. A law counts once. -/
mutual
def uptoBulk {H : Type} : DataW H → Nat
  | .lit (.string bytes) => bytes.length + 1
  | .lit _ => 1
  | .nil => 1
  | .ptr d => uptoBulk d + 1
  | .slice elems spare => uptoBulkAll elems + uptoBulkAll spare + 1
  | .agg parts => uptoBulkAll parts + 1
  | .iface _ d => uptoBulk d + 1
  | .map entries => uptoBulkEntries entries + 1
  | .held _ => 1
def uptoBulkAll {H : Type} : List (DataW H) → Nat
  | [] => 0
  | d :: r => uptoBulk d + uptoBulkAll r
def uptoBulkEntries {H : Type} : List (Lit × DataW H) → Nat
  | [] => 0
  | x :: r => uptoBulkEntry x + uptoBulkEntries r
def uptoBulkEntry {H : Type} : Lit × DataW H → Nat
  | (.string bytes, d) => bytes.length + uptoBulk d + 1
  | (_, d) => uptoBulk d + 1
 end
def uptoSmall : (H : Type) → List (DataW H) → Bool := fun _ ds => decide (uptoBulkAll ds ≤ 1048576)
def OpenSpec.upto (s : _root_.Go.ChangeSpec) : _root_.Go.OpenSpec := { _root_.Go.OpenSpec.ofChange s with cond := some uptoSmall }

/-- 'laws.FnDue', WHERE WHAT IT READS IS OF BULK AT MOST 1048576: true; the input reads as it did. -/
def fnDueUptoRow : OpenClaim := { program := "ytnmijppppcgobaagreatdoor", sum := "f0fe18cb5c1c38fc660a70b98afb1d075c5e5de9f1b1173c467ee835ac747850", func := "loop.example/g00735/laws.FnDue", spec := "fnDue", inPlace := ["internal/reflectlite.ValueOf", "(internal/reflectlite.Value).Type", "(internal/reflectlite.Value).IsNil", "internal/reflectlite.TypeOf", "(internal/reflectlite.Value).Elem", "(internal/reflectlite.Value).Set", "internal/bytealg.abigen_runtime_cmpstring"], unfollowed := true, recurses := true, named := ["loop.example/g00735/impl.errNotMoney", "errors.errorType"], ifaces := true, plainKeys := false, apart := false, laid := [("errors.errorType", laid_errors_errorType), ("loop.example/g00735/impl.errNotMoney", laid_loop_example_g00735_impl_errNotMoney)], narrowed := true }
def FnDueUptoSaid : Prop := fnDueUptoRow.holds Tryz.pinned (OpenSpec.upto fnDueSpec)

/-- 'laws.FnAuth', WHERE WHAT IT READS IS OF BULK AT MOST 1048576: true; the input reads as it did. -/
def fnAuthUptoRow : OpenClaim := { program := "ytnmijppppcgobaagreatdoor", sum := "f0fe18cb5c1c38fc660a70b98afb1d075c5e5de9f1b1173c467ee835ac747850", func := "loop.example/g00735/laws.FnAuth", spec := "fnAuth", inPlace := ["internal/reflectlite.ValueOf", "(internal/reflectlite.Value).Type", "(internal/reflectlite.Value).IsNil", "internal/reflectlite.TypeOf", "(internal/reflectlite.Value).Elem", "(internal/reflectlite.Value).Set", "internal/bytealg.abigen_runtime_cmpstring"], unfollowed := true, recurses := true, named := ["loop.example/g00735/impl.errNotMoney", "errors.errorType"], ifaces := true, plainKeys := false, apart := false, laid := [("errors.errorType", laid_errors_errorType), ("loop.example/g00735/impl.errNotMoney", laid_loop_example_g00735_impl_errNotMoney)], narrowed := true }
def FnAuthUptoSaid : Prop := fnAuthUptoRow.holds Tryz.pinned (OpenSpec.upto fnAuthSpec)

/-- 'laws.FnCapture', WHERE WHAT IT READS IS OF BULK AT MOST 1048576: true; the input reads as it did. -/
def fnCaptureUptoRow : OpenClaim := { program := "ytnmijppppcgobaagreatdoor", sum := "f0fe18cb5c1c38fc660a70b98afb1d075c5e5de9f1b1173c467ee835ac747850", func := "loop.example/g00735/laws.FnCapture", spec := "fnCapture", inPlace := ["internal/reflectlite.ValueOf", "(internal/reflectlite.Value).Type", "(internal/reflectlite.Value).IsNil", "internal/reflectlite.TypeOf", "(internal/reflectlite.Value).Elem", "(internal/reflectlite.Value).Set", "internal/bytealg.abigen_runtime_cmpstring"], unfollowed := true, recurses := true, named := ["loop.example/g00735/impl.errNotMoney", "errors.errorType"], ifaces := true, plainKeys := false, apart := false, laid := [("errors.errorType", laid_errors_errorType), ("loop.example/g00735/impl.errNotMoney", laid_loop_example_g00735_impl_errNotMoney)], narrowed := true }
def FnCaptureUptoSaid : Prop := fnCaptureUptoRow.holds Tryz.pinned (OpenSpec.upto fnCaptureSpec)

/-- 'laws.FnMore', WHERE WHAT IT READS IS OF BULK AT MOST 1048576: true; the input reads as it did. -/
def fnMoreUptoRow : OpenClaim := { program := "ytnmijppppcgobaagreatdoor", sum := "f0fe18cb5c1c38fc660a70b98afb1d075c5e5de9f1b1173c467ee835ac747850", func := "loop.example/g00735/laws.FnMore", spec := "fnMore", inPlace := ["internal/reflectlite.ValueOf", "(internal/reflectlite.Value).Type", "(internal/reflectlite.Value).IsNil", "internal/reflectlite.TypeOf", "(internal/reflectlite.Value).Elem", "(internal/reflectlite.Value).Set", "internal/bytealg.abigen_runtime_cmpstring"], unfollowed := true, recurses := true, named := ["loop.example/g00735/impl.errNotMoney", "errors.errorType"], ifaces := true, plainKeys := false, apart := false, laid := [("errors.errorType", laid_errors_errorType), ("loop.example/g00735/impl.errNotMoney", laid_loop_example_g00735_impl_errNotMoney)], narrowed := true }
def FnMoreUptoSaid : Prop := fnMoreUptoRow.holds Tryz.pinned (OpenSpec.upto fnMoreSpec)

/-- 'laws.FnMove', WHERE WHAT IT READS IS OF BULK AT MOST 1048576: true; the input reads as it did. -/
def fnMoveUptoRow : OpenClaim := { program := "ytnmijppppcgobaagreatdoor", sum := "f0fe18cb5c1c38fc660a70b98afb1d075c5e5de9f1b1173c467ee835ac747850", func := "loop.example/g00735/laws.FnMove", spec := "fnMove", inPlace := ["internal/reflectlite.ValueOf", "(internal/reflectlite.Value).Type", "(internal/reflectlite.Value).IsNil", "internal/reflectlite.TypeOf", "(internal/reflectlite.Value).Elem", "(internal/reflectlite.Value).Set", "internal/bytealg.abigen_runtime_cmpstring"], unfollowed := true, recurses := true, named := ["loop.example/g00735/impl.errNotMoney", "errors.errorType"], ifaces := true, plainKeys := false, apart := false, laid := [("errors.errorType", laid_errors_errorType), ("loop.example/g00735/impl.errNotMoney", laid_loop_example_g00735_impl_errNotMoney)], narrowed := true }
def FnMoveUptoSaid : Prop := fnMoveUptoRow.holds Tryz.pinned (OpenSpec.upto fnMoveSpec)

/-- 'laws.FnExactAuthorize', WHERE WHAT IT READS IS OF BULK AT MOST 1048576: true; the input reads as it did. -/
def fnExactAuthorizeUptoRow : OpenClaim := { program := "ytnmijppppcgobaagreatdoor", sum := "f0fe18cb5c1c38fc660a70b98afb1d075c5e5de9f1b1173c467ee835ac747850", func := "loop.example/g00735/laws.FnExactAuthorize", spec := "fnExactAuthorize", inPlace := ["internal/reflectlite.ValueOf", "(internal/reflectlite.Value).Type", "(internal/reflectlite.Value).IsNil", "internal/reflectlite.TypeOf", "(internal/reflectlite.Value).Elem", "(internal/reflectlite.Value).Set", "internal/bytealg.abigen_runtime_cmpstring"], unfollowed := true, recurses := true, named := ["loop.example/g00735/impl.errNotMoney", "errors.errorType"], ifaces := true, plainKeys := false, apart := false, laid := [("errors.errorType", laid_errors_errorType), ("loop.example/g00735/impl.errNotMoney", laid_loop_example_g00735_impl_errNotMoney)], narrowed := true }
def FnExactAuthorizeUptoSaid : Prop := fnExactAuthorizeUptoRow.holds Tryz.pinned (OpenSpec.upto fnExactAuthorizeSpec)

/-- 'laws.FnExactMore', WHERE WHAT IT READS IS OF BULK AT MOST 1048576: true; the input reads as it did. -/
def fnExactMoreUptoRow : OpenClaim := { program := "ytnmijppppcgobaagreatdoor", sum := "f0fe18cb5c1c38fc660a70b98afb1d075c5e5de9f1b1173c467ee835ac747850", func := "loop.example/g00735/laws.FnExactMore", spec := "fnExactMore", inPlace := ["internal/reflectlite.ValueOf", "(internal/reflectlite.Value).Type", "(internal/reflectlite.Value).IsNil", "internal/reflectlite.TypeOf", "(internal/reflectlite.Value).Elem", "(internal/reflectlite.Value).Set", "internal/bytealg.abigen_runtime_cmpstring"], unfollowed := true, recurses := true, named := ["loop.example/g00735/impl.errNotMoney", "errors.errorType"], ifaces := true, plainKeys := false, apart := false, laid := [("errors.errorType", laid_errors_errorType), ("loop.example/g00735/impl.errNotMoney", laid_loop_example_g00735_impl_errNotMoney)], narrowed := true }
def FnExactMoreUptoSaid : Prop := fnExactMoreUptoRow.holds Tryz.pinned (OpenSpec.upto fnExactMoreSpec)

/-- 'laws.FnExactCapture', WHERE WHAT IT READS IS OF BULK AT MOST 1048576: true; the input reads as it did. -/
def fnExactCaptureUptoRow : OpenClaim := { program := "ytnmijppppcgobaagreatdoor", sum := "f0fe18cb5c1c38fc660a70b98afb1d075c5e5de9f1b1173c467ee835ac747850", func := "loop.example/g00735/laws.FnExactCapture", spec := "fnExactCapture", inPlace := ["internal/reflectlite.ValueOf", "(internal/reflectlite.Value).Type", "(internal/reflectlite.Value).IsNil", "internal/reflectlite.TypeOf", "(internal/reflectlite.Value).Elem", "(internal/reflectlite.Value).Set", "internal/bytealg.abigen_runtime_cmpstring"], unfollowed := true, recurses := true, named := ["loop.example/g00735/impl.errNotMoney", "errors.errorType"], ifaces := true, plainKeys := false, apart := false, laid := [("errors.errorType", laid_errors_errorType), ("loop.example/g00735/impl.errNotMoney", laid_loop_example_g00735_impl_errNotMoney)], narrowed := true }
def FnExactCaptureUptoSaid : Prop := fnExactCaptureUptoRow.holds Tryz.pinned (OpenSpec.upto fnExactCaptureSpec)

/-- 'laws.FnExactFree', WHERE WHAT IT READS IS OF BULK AT MOST 1048576: true; the input reads as it did. -/
def fnExactFreeUptoRow : OpenClaim := { program := "ytnmijppppcgobaagreatdoor", sum := "f0fe18cb5c1c38fc660a70b98afb1d075c5e5de9f1b1173c467ee835ac747850", func := "loop.example/g00735/laws.FnExactFree", spec := "fnExactFree", inPlace := ["internal/reflectlite.ValueOf", "(internal/reflectlite.Value).Type", "(internal/reflectlite.Value).IsNil", "internal/reflectlite.TypeOf", "(internal/reflectlite.Value).Elem", "(internal/reflectlite.Value).Set", "internal/bytealg.abigen_runtime_cmpstring"], unfollowed := true, recurses := true, named := ["loop.example/g00735/impl.errNotMoney", "errors.errorType"], ifaces := true, plainKeys := false, apart := false, laid := [("errors.errorType", laid_errors_errorType), ("loop.example/g00735/impl.errNotMoney", laid_loop_example_g00735_impl_errNotMoney)], narrowed := true }
def FnExactFreeUptoSaid : Prop := fnExactFreeUptoRow.holds Tryz.pinned (OpenSpec.upto fnExactFreeSpec)

/-- 'laws.FnExactMove', WHERE WHAT IT READS IS OF BULK AT MOST 1048576: true; the input reads as it did. -/
def fnExactMoveUptoRow : OpenClaim := { program := "ytnmijppppcgobaagreatdoor", sum := "f0fe18cb5c1c38fc660a70b98afb1d075c5e5de9f1b1173c467ee835ac747850", func := "loop.example/g00735/laws.FnExactMove", spec := "fnExactMove", inPlace := ["internal/reflectlite.ValueOf", "(internal/reflectlite.Value).Type", "(internal/reflectlite.Value).IsNil", "internal/reflectlite.TypeOf", "(internal/reflectlite.Value).Elem", "(internal/reflectlite.Value).Set", "internal/bytealg.abigen_runtime_cmpstring"], unfollowed := true, recurses := true, named := ["loop.example/g00735/impl.errNotMoney", "errors.errorType"], ifaces := true, plainKeys := false, apart := false, laid := [("errors.errorType", laid_errors_errorType), ("loop.example/g00735/impl.errNotMoney", laid_loop_example_g00735_impl_errNotMoney)], narrowed := true }
def FnExactMoveUptoSaid : Prop := fnExactMoveUptoRow.holds Tryz.pinned (OpenSpec.upto fnExactMoveSpec)

/-- 'laws.FnExactSweep', WHERE WHAT IT READS IS OF BULK AT MOST 1048576: true; the input reads as it did. -/
def fnExactSweepUptoRow : OpenClaim := { program := "ytnmijppppcgobaagreatdoor", sum := "f0fe18cb5c1c38fc660a70b98afb1d075c5e5de9f1b1173c467ee835ac747850", func := "loop.example/g00735/laws.FnExactSweep", spec := "fnExactSweep", inPlace := ["internal/reflectlite.ValueOf", "(internal/reflectlite.Value).Type", "(internal/reflectlite.Value).IsNil", "internal/reflectlite.TypeOf", "(internal/reflectlite.Value).Elem", "(internal/reflectlite.Value).Set"], unfollowed := true, recurses := true, named := ["loop.example/g00735/impl.errNotMoney", "errors.errorType"], ifaces := true, plainKeys := false, apart := false, laid := [("errors.errorType", laid_errors_errorType), ("loop.example/g00735/impl.errNotMoney", laid_loop_example_g00735_impl_errNotMoney)], narrowed := true }
def FnExactSweepUptoSaid : Prop := fnExactSweepUptoRow.holds Tryz.pinned (OpenSpec.upto fnExactSweepSpec)

/-- 'laws.FnExactAsk', WHERE WHAT IT READS IS OF BULK AT MOST 1048576: true; the input reads as it did. -/
def fnExactAskUptoRow : OpenClaim := { program := "ytnmijppppcgobaagreatdoor", sum := "f0fe18cb5c1c38fc660a70b98afb1d075c5e5de9f1b1173c467ee835ac747850", func := "loop.example/g00735/laws.FnExactAsk", spec := "fnExactAsk", inPlace := ["internal/reflectlite.ValueOf", "(internal/reflectlite.Value).Type", "(internal/reflectlite.Value).IsNil", "internal/reflectlite.TypeOf", "(internal/reflectlite.Value).Elem", "(internal/reflectlite.Value).Set", "internal/abi.NoEscape", "internal/bytealg.MakeNoZero"], unfollowed := true, recurses := true, named := ["loop.example/g00735/impl.errNotMoney", "errors.errorType", "internal/strconv.uint64pow10", "math/bits.deBruijn32tab", "math/bits.deBruijn64tab"], ifaces := true, plainKeys := false, apart := false, laid := [("math/bits.deBruijn32tab", laid_math_bits_deBruijn32tab), ("math/bits.deBruijn64tab", laid_math_bits_deBruijn64tab), ("internal/strconv.uint64pow10", laid_internal_strconv_uint64pow10), ("errors.errorType", laid_errors_errorType), ("loop.example/g00735/impl.errNotMoney", laid_loop_example_g00735_impl_errNotMoney)], narrowed := true }
def FnExactAskUptoSaid : Prop := fnExactAskUptoRow.holds Tryz.pinned (OpenSpec.upto fnExactAskSpec)

end Rows
end Go.Proofs.YtnmijppppcgobaaGreatDoor
