/-
  No cell of these rows narrows 'for every input' (looked for: loops, veiled, ifaces, maps, wideKeys, modest, calm, conditions, laid).
  DERIVED. THE GIVEN ROWS OF THIS SEAT. 7 by the template 'for every input the law returns true; each argument reads behind the call as it read before'; 0 by the template 'total and deterministic' (their statements: YtdenopiailffcaaTotals.lean).
  GIVEN WITH THE SEED: the statements are not yours to turn. If you find one false, say at which input.
  Laid BY PROGRAM, IN A SANDBOX (cutbox-rows.mjs): the forced cells as the released guide's own fill.sh prints them over the translation 189a5351ab696063… (all of the seat's roots in one cut). By AI agents, Wed Nov 11 2026. No macro, syntax, notation, axiom, sorry.
-/
import Derived.Test.YtdenopiailffcaaChecked
import GoSem.Claim
import GoSem.ClaimJoined
import GoSem.ClaimMapViews
import Derived.JoinedTies
import Derived.KernelRfl
namespace Go.Proofs.Ytdenopiailffcaa
/- THE CELL 'sum', in the pinned program and in every row, IS THE sha256 OF THE DUMP (.gsa) THAT YtdenopiailffcaaProg.lean LOADS. Nothing in Lean hashes anything: it is a label: what it is worth is what the hold of that sum in a sandbox is worth. -/
noncomputable def Try.pinned : Pinned := { name := "ytdenopiailffcaa", sum := "189a5351ab6960638d89f3400d1697a16f3d9667c5c1d5aeac3971f16f2dd99d", checked := Try.checked }
namespace Rows
def none {H : Type} : Left H := { results := [], args := [] }

/-- 'laws.FnExactPutBcd': WHATEVER THE INPUT: true; the input reads as it did. -/
def fnExactPutBcdSpec : ChangeSpec := { name := "fnExactPutBcd", fn := fun _ => fun
  | [d] => { results := [.lit (.bool true)], args := [d] }
  | _ => none }
def fnExactPutBcdRow : OpenClaim := { program := "ytdenopiailffcaa", sum := "189a5351ab6960638d89f3400d1697a16f3d9667c5c1d5aeac3971f16f2dd99d", func := "loop.example/g00735/laws.FnExactPutBcd", spec := "fnExactPutBcd", inPlace := ["internal/bytealg.IndexByteString"], apart := false }
def FnExactPutBcdSaid : Prop := fnExactPutBcdRow.holds Try.pinned (OpenSpec.ofChange fnExactPutBcdSpec)

/-- ITS FALSE NEIGHBOUR: 'it returns false'. Refute it at one input. -/
def fnExactPutBcdWrong : ChangeSpec := { name := "fnExactPutBcd", fn := fun _ => fun
  | [d] => { results := [.lit (.bool false)], args := [d] }
  | _ => none }
def FnExactPutBcdWrongFalsely : Prop := fnExactPutBcdRow.holds Try.pinned (OpenSpec.ofChange fnExactPutBcdWrong)

/-- 'laws.FnExactGetBcd': WHATEVER THE INPUT: true; the input reads as it did. -/
def fnExactGetBcdSpec : ChangeSpec := { name := "fnExactGetBcd", fn := fun _ => fun
  | [d1, d2, d3] => { results := [.lit (.bool true)], args := [d1, d2, d3] }
  | _ => none }
def fnExactGetBcdRow : OpenClaim := { program := "ytdenopiailffcaa", sum := "189a5351ab6960638d89f3400d1697a16f3d9667c5c1d5aeac3971f16f2dd99d", func := "loop.example/g00735/laws.FnExactGetBcd", spec := "fnExactGetBcd", apart := false }
def FnExactGetBcdSaid : Prop := fnExactGetBcdRow.holds Try.pinned (OpenSpec.ofChange fnExactGetBcdSpec)

/-- ITS FALSE NEIGHBOUR: 'it returns false'. Refute it at one input. -/
def fnExactGetBcdWrong : ChangeSpec := { name := "fnExactGetBcd", fn := fun _ => fun
  | [d1, d2, d3] => { results := [.lit (.bool false)], args := [d1, d2, d3] }
  | _ => none }
def FnExactGetBcdWrongFalsely : Prop := fnExactGetBcdRow.holds Try.pinned (OpenSpec.ofChange fnExactGetBcdWrong)

/-- 'laws.FnExactPutBits': WHATEVER THE INPUT: true; the input reads as it did. -/
def fnExactPutBitsSpec : ChangeSpec := { name := "fnExactPutBits", fn := fun _ => fun
  | [d] => { results := [.lit (.bool true)], args := [d] }
  | _ => none }
def fnExactPutBitsRow : OpenClaim := { program := "ytdenopiailffcaa", sum := "189a5351ab6960638d89f3400d1697a16f3d9667c5c1d5aeac3971f16f2dd99d", func := "loop.example/g00735/laws.FnExactPutBits", spec := "fnExactPutBits", apart := false }
def FnExactPutBitsSaid : Prop := fnExactPutBitsRow.holds Try.pinned (OpenSpec.ofChange fnExactPutBitsSpec)

/-- ITS FALSE NEIGHBOUR: 'it returns false'. Refute it at one input. -/
def fnExactPutBitsWrong : ChangeSpec := { name := "fnExactPutBits", fn := fun _ => fun
  | [d] => { results := [.lit (.bool false)], args := [d] }
  | _ => none }
def FnExactPutBitsWrongFalsely : Prop := fnExactPutBitsRow.holds Try.pinned (OpenSpec.ofChange fnExactPutBitsWrong)

/-- 'laws.FnExactGetBits': WHATEVER THE INPUT: true; the input reads as it did. -/
def fnExactGetBitsSpec : ChangeSpec := { name := "fnExactGetBits", fn := fun _ => fun
  | [d1, d2] => { results := [.lit (.bool true)], args := [d1, d2] }
  | _ => none }
def fnExactGetBitsRow : OpenClaim := { program := "ytdenopiailffcaa", sum := "189a5351ab6960638d89f3400d1697a16f3d9667c5c1d5aeac3971f16f2dd99d", func := "loop.example/g00735/laws.FnExactGetBits", spec := "fnExactGetBits", apart := false }
def FnExactGetBitsSaid : Prop := fnExactGetBitsRow.holds Try.pinned (OpenSpec.ofChange fnExactGetBitsSpec)

/-- ITS FALSE NEIGHBOUR: 'it returns false'. Refute it at one input. -/
def fnExactGetBitsWrong : ChangeSpec := { name := "fnExactGetBits", fn := fun _ => fun
  | [d1, d2] => { results := [.lit (.bool false)], args := [d1, d2] }
  | _ => none }
def FnExactGetBitsWrongFalsely : Prop := fnExactGetBitsRow.holds Try.pinned (OpenSpec.ofChange fnExactGetBitsWrong)

/-- 'laws.FnExactPrintable': WHATEVER THE INPUT: true; the input reads as it did. -/
def fnExactPrintableSpec : ChangeSpec := { name := "fnExactPrintable", fn := fun _ => fun
  | [d] => { results := [.lit (.bool true)], args := [d] }
  | _ => none }
def fnExactPrintableRow : OpenClaim := { program := "ytdenopiailffcaa", sum := "189a5351ab6960638d89f3400d1697a16f3d9667c5c1d5aeac3971f16f2dd99d", func := "loop.example/g00735/laws.FnExactPrintable", spec := "fnExactPrintable", apart := false }
def FnExactPrintableSaid : Prop := fnExactPrintableRow.holds Try.pinned (OpenSpec.ofChange fnExactPrintableSpec)

/-- ITS FALSE NEIGHBOUR: 'it returns false'. Refute it at one input. -/
def fnExactPrintableWrong : ChangeSpec := { name := "fnExactPrintable", fn := fun _ => fun
  | [d] => { results := [.lit (.bool false)], args := [d] }
  | _ => none }
def FnExactPrintableWrongFalsely : Prop := fnExactPrintableRow.holds Try.pinned (OpenSpec.ofChange fnExactPrintableWrong)

/-- 'laws.FnExactHexText': WHATEVER THE INPUT: true; the input reads as it did. -/
def fnExactHexTextSpec : ChangeSpec := { name := "fnExactHexText", fn := fun _ => fun
  | [d] => { results := [.lit (.bool true)], args := [d] }
  | _ => none }
def fnExactHexTextRow : OpenClaim := { program := "ytdenopiailffcaa", sum := "189a5351ab6960638d89f3400d1697a16f3d9667c5c1d5aeac3971f16f2dd99d", func := "loop.example/g00735/laws.FnExactHexText", spec := "fnExactHexText", apart := false }
def FnExactHexTextSaid : Prop := fnExactHexTextRow.holds Try.pinned (OpenSpec.ofChange fnExactHexTextSpec)

/-- ITS FALSE NEIGHBOUR: 'it returns false'. Refute it at one input. -/
def fnExactHexTextWrong : ChangeSpec := { name := "fnExactHexText", fn := fun _ => fun
  | [d] => { results := [.lit (.bool false)], args := [d] }
  | _ => none }
def FnExactHexTextWrongFalsely : Prop := fnExactHexTextRow.holds Try.pinned (OpenSpec.ofChange fnExactHexTextWrong)

/-- 'laws.FnExactTextHex': WHATEVER THE INPUT: true; the input reads as it did. -/
def fnExactTextHexSpec : ChangeSpec := { name := "fnExactTextHex", fn := fun _ => fun
  | [d] => { results := [.lit (.bool true)], args := [d] }
  | _ => none }
def fnExactTextHexRow : OpenClaim := { program := "ytdenopiailffcaa", sum := "189a5351ab6960638d89f3400d1697a16f3d9667c5c1d5aeac3971f16f2dd99d", func := "loop.example/g00735/laws.FnExactTextHex", spec := "fnExactTextHex", inPlace := ["internal/bytealg.IndexByteString"], apart := false }
def FnExactTextHexSaid : Prop := fnExactTextHexRow.holds Try.pinned (OpenSpec.ofChange fnExactTextHexSpec)

/-- ITS FALSE NEIGHBOUR: 'it returns false'. Refute it at one input. -/
def fnExactTextHexWrong : ChangeSpec := { name := "fnExactTextHex", fn := fun _ => fun
  | [d] => { results := [.lit (.bool false)], args := [d] }
  | _ => none }
def FnExactTextHexWrongFalsely : Prop := fnExactTextHexRow.holds Try.pinned (OpenSpec.ofChange fnExactTextHexWrong)

/- THE SECOND FORM. 'bulk': how many values and letters a reading holds, each counted each time it is reached (what is shared counts as often as it is met; a slice's spare places count too). A statement '..UptoSaid' is the law's where the arguments, and the package variables that the reading takes, are together of bulk at most 1048576: NARROWER than '..Said'. Prove '..Said' where nothing that the law and all that it calls make is longer than what came in: it says more and counts as full. Else prove '..UptoSaid'. A law counts once. -/
mutual
def uptoBulk {H : Type} : DataW H → Nat
  | .lit (.string bytes) => bytes.length + 1
  | .lit _ => 1
  | .nil => 1
  | .ptr d => uptoBulk d + 1
  | .slice elems spare => uptoBulkAll elems + uptoBulkAll spare + 1
  | .agg parts => uptoBulkAll parts + 1
  | .iface _ d => uptoBulk d + 1
  | .map entries => uptoBulkEntries entries + 1
  | .held _ => 1
def uptoBulkAll {H : Type} : List (DataW H) → Nat
  | [] => 0
  | d :: r => uptoBulk d + uptoBulkAll r
def uptoBulkEntries {H : Type} : List (Lit × DataW H) → Nat
  | [] => 0
  | x :: r => uptoBulkEntry x + uptoBulkEntries r
def uptoBulkEntry {H : Type} : Lit × DataW H → Nat
  | (.string bytes, d) => bytes.length + uptoBulk d + 1
  | (_, d) => uptoBulk d + 1
 end
def uptoSmall : (H : Type) → List (DataW H) → Bool := fun _ ds => decide (uptoBulkAll ds ≤ 1048576)
def OpenSpec.upto (s : _root_.Go.ChangeSpec) : _root_.Go.OpenSpec := { _root_.Go.OpenSpec.ofChange s with cond := some uptoSmall }

/-- 'laws.FnExactPutBcd', WHERE WHAT IT READS IS OF BULK AT MOST 1048576: true; the input reads as it did. -/
def fnExactPutBcdUptoRow : OpenClaim := { program := "ytdenopiailffcaa", sum := "189a5351ab6960638d89f3400d1697a16f3d9667c5c1d5aeac3971f16f2dd99d", func := "loop.example/g00735/laws.FnExactPutBcd", spec := "fnExactPutBcd", inPlace := ["internal/bytealg.IndexByteString"], apart := false, narrowed := true }
def FnExactPutBcdUptoSaid : Prop := fnExactPutBcdUptoRow.holds Try.pinned (OpenSpec.upto fnExactPutBcdSpec)

/-- 'laws.FnExactGetBcd', WHERE WHAT IT READS IS OF BULK AT MOST 1048576: true; the input reads as it did. -/
def fnExactGetBcdUptoRow : OpenClaim := { program := "ytdenopiailffcaa", sum := "189a5351ab6960638d89f3400d1697a16f3d9667c5c1d5aeac3971f16f2dd99d", func := "loop.example/g00735/laws.FnExactGetBcd", spec := "fnExactGetBcd", apart := false, narrowed := true }
def FnExactGetBcdUptoSaid : Prop := fnExactGetBcdUptoRow.holds Try.pinned (OpenSpec.upto fnExactGetBcdSpec)

/-- 'laws.FnExactPutBits', WHERE WHAT IT READS IS OF BULK AT MOST 1048576: true; the input reads as it did. -/
def fnExactPutBitsUptoRow : OpenClaim := { program := "ytdenopiailffcaa", sum := "189a5351ab6960638d89f3400d1697a16f3d9667c5c1d5aeac3971f16f2dd99d", func := "loop.example/g00735/laws.FnExactPutBits", spec := "fnExactPutBits", apart := false, narrowed := true }
def FnExactPutBitsUptoSaid : Prop := fnExactPutBitsUptoRow.holds Try.pinned (OpenSpec.upto fnExactPutBitsSpec)

/-- 'laws.FnExactGetBits', WHERE WHAT IT READS IS OF BULK AT MOST 1048576: true; the input reads as it did. -/
def fnExactGetBitsUptoRow : OpenClaim := { program := "ytdenopiailffcaa", sum := "189a5351ab6960638d89f3400d1697a16f3d9667c5c1d5aeac3971f16f2dd99d", func := "loop.example/g00735/laws.FnExactGetBits", spec := "fnExactGetBits", apart := false, narrowed := true }
def FnExactGetBitsUptoSaid : Prop := fnExactGetBitsUptoRow.holds Try.pinned (OpenSpec.upto fnExactGetBitsSpec)

/-- 'laws.FnExactPrintable', WHERE WHAT IT READS IS OF BULK AT MOST 1048576: true; the input reads as it did. -/
def fnExactPrintableUptoRow : OpenClaim := { program := "ytdenopiailffcaa", sum := "189a5351ab6960638d89f3400d1697a16f3d9667c5c1d5aeac3971f16f2dd99d", func := "loop.example/g00735/laws.FnExactPrintable", spec := "fnExactPrintable", apart := false, narrowed := true }
def FnExactPrintableUptoSaid : Prop := fnExactPrintableUptoRow.holds Try.pinned (OpenSpec.upto fnExactPrintableSpec)

/-- 'laws.FnExactHexText', WHERE WHAT IT READS IS OF BULK AT MOST 1048576: true; the input reads as it did. -/
def fnExactHexTextUptoRow : OpenClaim := { program := "ytdenopiailffcaa", sum := "189a5351ab6960638d89f3400d1697a16f3d9667c5c1d5aeac3971f16f2dd99d", func := "loop.example/g00735/laws.FnExactHexText", spec := "fnExactHexText", apart := false, narrowed := true }
def FnExactHexTextUptoSaid : Prop := fnExactHexTextUptoRow.holds Try.pinned (OpenSpec.upto fnExactHexTextSpec)

/-- 'laws.FnExactTextHex', WHERE WHAT IT READS IS OF BULK AT MOST 1048576: true; the input reads as it did. -/
def fnExactTextHexUptoRow : OpenClaim := { program := "ytdenopiailffcaa", sum := "189a5351ab6960638d89f3400d1697a16f3d9667c5c1d5aeac3971f16f2dd99d", func := "loop.example/g00735/laws.FnExactTextHex", spec := "fnExactTextHex", inPlace := ["internal/bytealg.IndexByteString"], apart := false, narrowed := true }
def FnExactTextHexUptoSaid : Prop := fnExactTextHexUptoRow.holds Try.pinned (OpenSpec.upto fnExactTextHexSpec)

end Rows
end Go.Proofs.Ytdenopiailffcaa
