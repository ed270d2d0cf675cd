/-
  DERIVED. GIVEN WITH THE SEED: THE CARDS: each row of YtiolebpoofkpmaaGreatDoorRows.lean that lists a variable, with what it lists TIED to the program's text (the seventh form; the later family's looks); each row that meets fmt, with fmt's text TOLD by the authors' own Lean function (tested against real Go, not proved from fmt's source: count such statements apart). THE CARD IS WHAT COUNTS. Prove the row's statement (the work); the ties are given (YtiolebpoofkpmaaGreatDoorTie.lean); close each card by the builder's one call (the guide's Derived/Test/ToyasCard.lean, 'card_holds'). Laid BY PROGRAM, IN A SANDBOX (cutbox-door.mjs). By AI agents, Wed Nov 11 2026. No macro, syntax, notation, axiom, sorry.
-/
import Derived.Test.YtiolebpoofkpmaaGreatDoorRows
import GoSem.ClaimSeven
namespace Go.Proofs.YtiolebpoofkpmaaGreatDoor
namespace Rows

/-- THE TIED CARD OF 'laws.FnExactAsks'. -/
def fnExactAsksCard : Claim7 := { stood := { row := fnExactAsksRow, standIns := [], harness := (true, "4baf89d0c30da7798ac892917fc89a3b06e7cc361d38fc06c2f6900bbf40f82d"), looks := true }, kinds := [], alts := [], laidByText := true, laidKinds := [.data, .data, .data, .data, .sentinel, .data, .pinned], laidTests := true, laidLooks := .later }
def FnExactAsksCardSaid : Prop := Claim7.holds Tryz.pinned (.plain (OpenSpec.ofChange fnExactAsksSpec)) fnExactAsksCard

/-- THE SECOND FORM's CARD OF 'laws.FnExactAsks'. -/
def fnExactAsksUptoCard : Claim7 := { stood := { row := fnExactAsksUptoRow, standIns := [], harness := (true, "4baf89d0c30da7798ac892917fc89a3b06e7cc361d38fc06c2f6900bbf40f82d"), looks := true }, kinds := [], alts := [], laidByText := true, laidKinds := [.data, .data, .data, .data, .sentinel, .data, .pinned], laidTests := true, laidLooks := .later }
def FnExactAsksUptoCardSaid : Prop := Claim7.holds Tryz.pinned (.plain (OpenSpec.upto fnExactAsksSpec)) fnExactAsksUptoCard
end Rows
end Go.Proofs.YtiolebpoofkpmaaGreatDoor
