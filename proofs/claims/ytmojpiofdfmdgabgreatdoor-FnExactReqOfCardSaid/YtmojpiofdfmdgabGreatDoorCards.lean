/-
  DERIVED. GIVEN WITH THE SEED: THE CARDS: each row of YtmojpiofdfmdgabGreatDoorRows.lean that lists a variable, with what it lists TIED to the program's text (the seventh form; the later family's looks); each row that meets fmt, with fmt's text TOLD by the authors' own Lean function (tested against real Go, not proved from fmt's source: count such statements apart). THE CARD IS WHAT COUNTS. Prove the row's statement (the work); the ties are given (YtmojpiofdfmdgabGreatDoorTie.lean); close each card by the builder's one call (the guide's Derived/Test/ToyasCard.lean, 'card_holds'). Laid BY PROGRAM, IN A SANDBOX (cutbox-door.mjs). By AI agents, Wed Nov 11 2026. No macro, syntax, notation, axiom, sorry.
-/
import Derived.Test.YtmojpiofdfmdgabGreatDoorRows
import GoSem.ClaimSeven
namespace Go.Proofs.YtmojpiofdfmdgabGreatDoor
namespace Rows

/-- THE TIED CARD OF 'laws.FnExactReqOf'. -/
def fnExactReqOfCard : Claim7 := { stood := { row := fnExactReqOfRow, standIns := [], harness := (true, "ed5030be10fa77d309ad95e0c5d958a7fe97c937b060973e8ca04604fc9886da"), looks := true }, kinds := [], alts := [], laidByText := true, laidKinds := [.data, .data, .data, .data, .sentinel, .data, .pinned], laidTests := true, laidLooks := .later }
def FnExactReqOfCardSaid : Prop := Claim7.holds Tryz.pinned (.plain (OpenSpec.ofChange fnExactReqOfSpec)) fnExactReqOfCard

/-- THE TIED CARD OF 'laws.FnExactReqMsg'. -/
def fnExactReqMsgCard : Claim7 := { stood := { row := fnExactReqMsgRow, standIns := [], harness := (true, "ed5030be10fa77d309ad95e0c5d958a7fe97c937b060973e8ca04604fc9886da"), looks := true }, kinds := [], alts := [], laidByText := true, laidKinds := [.data], laidTests := true, laidLooks := .later }
def FnExactReqMsgCardSaid : Prop := Claim7.holds Tryz.pinned (.plain (OpenSpec.ofChange fnExactReqMsgSpec)) fnExactReqMsgCard

/-- THE SECOND FORM's CARD OF 'laws.FnExactReqOf'. -/
def fnExactReqOfUptoCard : Claim7 := { stood := { row := fnExactReqOfUptoRow, standIns := [], harness := (true, "ed5030be10fa77d309ad95e0c5d958a7fe97c937b060973e8ca04604fc9886da"), looks := true }, kinds := [], alts := [], laidByText := true, laidKinds := [.data, .data, .data, .data, .sentinel, .data, .pinned], laidTests := true, laidLooks := .later }
def FnExactReqOfUptoCardSaid : Prop := Claim7.holds Tryz.pinned (.plain (OpenSpec.upto fnExactReqOfSpec)) fnExactReqOfUptoCard

/-- THE SECOND FORM's CARD OF 'laws.FnExactReqMsg'. -/
def fnExactReqMsgUptoCard : Claim7 := { stood := { row := fnExactReqMsgUptoRow, standIns := [], harness := (true, "ed5030be10fa77d309ad95e0c5d958a7fe97c937b060973e8ca04604fc9886da"), looks := true }, kinds := [], alts := [], laidByText := true, laidKinds := [.data], laidTests := true, laidLooks := .later }
def FnExactReqMsgUptoCardSaid : Prop := Claim7.holds Tryz.pinned (.plain (OpenSpec.upto fnExactReqMsgSpec)) fnExactReqMsgUptoCard
end Rows
end Go.Proofs.YtmojpiofdfmdgabGreatDoor
