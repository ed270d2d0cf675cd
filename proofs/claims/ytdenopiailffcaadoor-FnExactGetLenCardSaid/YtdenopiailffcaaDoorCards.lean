/-
  DERIVED. GIVEN WITH THE SEED: THE CARDS: each row of YtdenopiailffcaaDoorRows.lean that lists a variable, with what it lists TIED to the program's text (the seventh form; the later family's looks); each row that meets fmt, with fmt's text TOLD by the authors' own Lean function (tested against real Go, not proved from fmt's source: count such statements apart). THE CARD IS WHAT COUNTS. Prove the row's statement (the work); the ties are given (YtdenopiailffcaaDoorTie.lean); close each card by the builder's one call (the guide's Derived/Test/ToyasCard.lean, 'card_holds'). Laid BY PROGRAM, IN A SANDBOX (cutbox-door.mjs). By AI agents, Wed Nov 11 2026. No macro, syntax, notation, axiom, sorry.
-/
import Derived.Test.YtdenopiailffcaaDoorRows
import GoSem.ClaimSeven
namespace Go.Proofs.YtdenopiailffcaaDoor
namespace Rows

/-- THE TIED CARD OF 'laws.FnExactPutLen'. -/
def fnExactPutLenCard : Claim7 := { stood := { row := fnExactPutLenRow, standIns := [], harness := (true, "3792eae3ea5a08b2884e06449e1e93a14352898e36ef328a8b54cb42cd3bc95c"), looks := false }, kinds := [], alts := [], laidByText := true, laidKinds := [.data, .data, .data], laidTests := true, laidLooks := .later }
def FnExactPutLenCardSaid : Prop := Claim7.holds Tryd.pinned (.plain (OpenSpec.ofChange fnExactPutLenSpec)) fnExactPutLenCard

/-- THE TIED CARD OF 'laws.FnExactGetLen'. -/
def fnExactGetLenCard : Claim7 := { stood := { row := fnExactGetLenRow, standIns := [], harness := (true, "3792eae3ea5a08b2884e06449e1e93a14352898e36ef328a8b54cb42cd3bc95c"), looks := false }, kinds := [], alts := [], laidByText := true, laidKinds := [.sentinel], laidTests := true, laidLooks := .later }
def FnExactGetLenCardSaid : Prop := Claim7.holds Tryd.pinned (.plain (OpenSpec.ofChange fnExactGetLenSpec)) fnExactGetLenCard

/-- THE SECOND FORM's CARD OF 'laws.FnExactPutLen'. -/
def fnExactPutLenUptoCard : Claim7 := { stood := { row := fnExactPutLenUptoRow, standIns := [], harness := (true, "3792eae3ea5a08b2884e06449e1e93a14352898e36ef328a8b54cb42cd3bc95c"), looks := false }, kinds := [], alts := [], laidByText := true, laidKinds := [.data, .data, .data], laidTests := true, laidLooks := .later }
def FnExactPutLenUptoCardSaid : Prop := Claim7.holds Tryd.pinned (.plain (OpenSpec.upto fnExactPutLenSpec)) fnExactPutLenUptoCard

/-- THE SECOND FORM's CARD OF 'laws.FnExactGetLen'. -/
def fnExactGetLenUptoCard : Claim7 := { stood := { row := fnExactGetLenUptoRow, standIns := [], harness := (true, "3792eae3ea5a08b2884e06449e1e93a14352898e36ef328a8b54cb42cd3bc95c"), looks := false }, kinds := [], alts := [], laidByText := true, laidKinds := [.sentinel], laidTests := true, laidLooks := .later }
def FnExactGetLenUptoCardSaid : Prop := Claim7.holds Tryd.pinned (.plain (OpenSpec.upto fnExactGetLenSpec)) fnExactGetLenUptoCard
end Rows
end Go.Proofs.YtdenopiailffcaaDoor
