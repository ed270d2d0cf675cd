/-
  DERIVED. GIVEN WITH THE SEED: THE CARDS: each row of YthnimmagaocipaaGreatDoorRows.lean that lists a variable, with what it lists TIED to the program's text (the seventh form; the later family's looks); each row that meets fmt, with fmt's text TOLD by the authors' own Lean function (tested against real Go, not proved from fmt's source: count such statements apart). THE CARD IS WHAT COUNTS. Prove the row's statement (the work); the ties are given (YthnimmagaocipaaGreatDoorTie.lean); close each card by the builder's one call (the guide's Derived/Test/ToyasCard.lean, 'card_holds'). Laid BY PROGRAM, IN A SANDBOX (cutbox-door.mjs). By AI agents, Wed Nov 11 2026. No macro, syntax, notation, axiom, sorry.
-/
import Derived.Test.YthnimmagaocipaaGreatDoorRows
import GoSem.ClaimSeven
namespace Go.Proofs.YthnimmagaocipaaGreatDoor
namespace Rows

/-- THE TIED CARD OF 'laws.FnExactBookOk'. -/
def fnExactBookOkCard : Claim7 := { stood := { row := fnExactBookOkRow, standIns := [], harness := (true, "132ba99e8003cf1e9fdffeeff9da4f094789b791a8a9a32babfbe17fd220b5a6"), looks := true }, kinds := [], alts := [], laidByText := true, laidKinds := [.handle, .sentinel], laidTests := true, laidLooks := .later }
def FnExactBookOkCardSaid : Prop := Claim7.holds Tryz.pinned (.plain (OpenSpec.ofChange fnExactBookOkSpec)) fnExactBookOkCard

/-- THE TIED CARD OF 'laws.FnExactBookTime'. -/
def fnExactBookTimeCard : Claim7 := { stood := { row := fnExactBookTimeRow, standIns := [], harness := (true, "132ba99e8003cf1e9fdffeeff9da4f094789b791a8a9a32babfbe17fd220b5a6"), looks := true }, kinds := [], alts := [], laidByText := true, laidKinds := [.handle, .sentinel], laidTests := true, laidLooks := .later }
def FnExactBookTimeCardSaid : Prop := Claim7.holds Tryz.pinned (.plain (OpenSpec.ofChange fnExactBookTimeSpec)) fnExactBookTimeCard

/-- THE TIED CARD OF 'laws.FnExactBookPut'. -/
def fnExactBookPutCard : Claim7 := { stood := { row := fnExactBookPutRow, standIns := [], harness := (true, "132ba99e8003cf1e9fdffeeff9da4f094789b791a8a9a32babfbe17fd220b5a6"), looks := true }, kinds := [], alts := [], laidByText := true, laidKinds := [.handle, .sentinel], laidTests := true, laidLooks := .later }
def FnExactBookPutCardSaid : Prop := Claim7.holds Tryz.pinned (.plain (OpenSpec.ofChange fnExactBookPutSpec)) fnExactBookPutCard

/-- THE SECOND FORM's CARD OF 'laws.FnExactBookOk'. -/
def fnExactBookOkUptoCard : Claim7 := { stood := { row := fnExactBookOkUptoRow, standIns := [], harness := (true, "132ba99e8003cf1e9fdffeeff9da4f094789b791a8a9a32babfbe17fd220b5a6"), looks := true }, kinds := [], alts := [], laidByText := true, laidKinds := [.handle, .sentinel], laidTests := true, laidLooks := .later }
def FnExactBookOkUptoCardSaid : Prop := Claim7.holds Tryz.pinned (.plain (OpenSpec.upto fnExactBookOkSpec)) fnExactBookOkUptoCard

/-- THE SECOND FORM's CARD OF 'laws.FnExactBookTime'. -/
def fnExactBookTimeUptoCard : Claim7 := { stood := { row := fnExactBookTimeUptoRow, standIns := [], harness := (true, "132ba99e8003cf1e9fdffeeff9da4f094789b791a8a9a32babfbe17fd220b5a6"), looks := true }, kinds := [], alts := [], laidByText := true, laidKinds := [.handle, .sentinel], laidTests := true, laidLooks := .later }
def FnExactBookTimeUptoCardSaid : Prop := Claim7.holds Tryz.pinned (.plain (OpenSpec.upto fnExactBookTimeSpec)) fnExactBookTimeUptoCard

/-- THE SECOND FORM's CARD OF 'laws.FnExactBookPut'. -/
def fnExactBookPutUptoCard : Claim7 := { stood := { row := fnExactBookPutUptoRow, standIns := [], harness := (true, "132ba99e8003cf1e9fdffeeff9da4f094789b791a8a9a32babfbe17fd220b5a6"), looks := true }, kinds := [], alts := [], laidByText := true, laidKinds := [.handle, .sentinel], laidTests := true, laidLooks := .later }
def FnExactBookPutUptoCardSaid : Prop := Claim7.holds Tryz.pinned (.plain (OpenSpec.upto fnExactBookPutSpec)) fnExactBookPutUptoCard
end Rows
end Go.Proofs.YthnimmagaocipaaGreatDoor
