/-
  DERIVED. GIVEN WITH THE SEED: THE CARDS: each row of YtpeeagkfhdeagaaGreatDoorRows.lean that lists a variable, with what it lists TIED to the program's text (the seventh form; the later family's looks); each row that meets fmt, with fmt's text TOLD by the authors' own Lean function (tested against real Go, not proved from fmt's source: count such statements apart). THE CARD IS WHAT COUNTS. Prove the row's statement (the work); the ties are given (YtpeeagkfhdeagaaGreatDoorTie.lean); close each card by the builder's one call (the guide's Derived/Test/ToyasCard.lean, 'card_holds'). Laid BY PROGRAM, IN A SANDBOX (cutbox-door.mjs). By AI agents, Wed Nov 11 2026. No macro, syntax, notation, axiom, sorry.
-/
import Derived.Test.YtpeeagkfhdeagaaGreatDoorRows
import GoSem.ClaimSeven
namespace Go.Proofs.YtpeeagkfhdeagaaGreatDoor
namespace Rows

/-- THE TIED CARD OF 'laws.FnExactRoom'. -/
def fnExactRoomCard : Claim7 := { stood := { row := fnExactRoomRow, standIns := [], harness := (true, "b5d56b4d773f7f1893a0ef5352315775f26e451d66b3a00a297e6d64078ae194"), looks := true }, kinds := [], alts := [], laidByText := true, laidKinds := [.handle, .sentinel], laidTests := true, laidLooks := .later }
def FnExactRoomCardSaid : Prop := Claim7.holds Tryz.pinned (.plain (OpenSpec.ofChange fnExactRoomSpec)) fnExactRoomCard

/-- THE TIED CARD OF 'laws.FnExactAcctSwept'. -/
def fnExactAcctSweptCard : Claim7 := { stood := { row := fnExactAcctSweptRow, standIns := [], harness := (true, "b5d56b4d773f7f1893a0ef5352315775f26e451d66b3a00a297e6d64078ae194"), looks := true }, kinds := [], alts := [], laidByText := true, laidKinds := [.handle, .sentinel], laidTests := true, laidLooks := .later }
def FnExactAcctSweptCardSaid : Prop := Claim7.holds Tryz.pinned (.plain (OpenSpec.ofChange fnExactAcctSweptSpec)) fnExactAcctSweptCard

/-- THE TIED CARD OF 'laws.FnExactAcctAt'. -/
def fnExactAcctAtCard : Claim7 := { stood := { row := fnExactAcctAtRow, standIns := [], harness := (true, "b5d56b4d773f7f1893a0ef5352315775f26e451d66b3a00a297e6d64078ae194"), looks := true }, kinds := [], alts := [], laidByText := true, laidKinds := [.handle, .sentinel], laidTests := true, laidLooks := .later }
def FnExactAcctAtCardSaid : Prop := Claim7.holds Tryz.pinned (.plain (OpenSpec.ofChange fnExactAcctAtSpec)) fnExactAcctAtCard

/-- THE SECOND FORM's CARD OF 'laws.FnExactRoom'. -/
def fnExactRoomUptoCard : Claim7 := { stood := { row := fnExactRoomUptoRow, standIns := [], harness := (true, "b5d56b4d773f7f1893a0ef5352315775f26e451d66b3a00a297e6d64078ae194"), looks := true }, kinds := [], alts := [], laidByText := true, laidKinds := [.handle, .sentinel], laidTests := true, laidLooks := .later }
def FnExactRoomUptoCardSaid : Prop := Claim7.holds Tryz.pinned (.plain (OpenSpec.upto fnExactRoomSpec)) fnExactRoomUptoCard

/-- THE SECOND FORM's CARD OF 'laws.FnExactAcctSwept'. -/
def fnExactAcctSweptUptoCard : Claim7 := { stood := { row := fnExactAcctSweptUptoRow, standIns := [], harness := (true, "b5d56b4d773f7f1893a0ef5352315775f26e451d66b3a00a297e6d64078ae194"), looks := true }, kinds := [], alts := [], laidByText := true, laidKinds := [.handle, .sentinel], laidTests := true, laidLooks := .later }
def FnExactAcctSweptUptoCardSaid : Prop := Claim7.holds Tryz.pinned (.plain (OpenSpec.upto fnExactAcctSweptSpec)) fnExactAcctSweptUptoCard

/-- THE SECOND FORM's CARD OF 'laws.FnExactAcctAt'. -/
def fnExactAcctAtUptoCard : Claim7 := { stood := { row := fnExactAcctAtUptoRow, standIns := [], harness := (true, "b5d56b4d773f7f1893a0ef5352315775f26e451d66b3a00a297e6d64078ae194"), looks := true }, kinds := [], alts := [], laidByText := true, laidKinds := [.handle, .sentinel], laidTests := true, laidLooks := .later }
def FnExactAcctAtUptoCardSaid : Prop := Claim7.holds Tryz.pinned (.plain (OpenSpec.upto fnExactAcctAtSpec)) fnExactAcctAtUptoCard
end Rows
end Go.Proofs.YtpeeagkfhdeagaaGreatDoor
