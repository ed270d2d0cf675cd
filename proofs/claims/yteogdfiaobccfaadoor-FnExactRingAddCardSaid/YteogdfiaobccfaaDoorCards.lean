/-
  DERIVED. GIVEN WITH THE SEED: THE CARDS: each row of YteogdfiaobccfaaDoorRows.lean that lists a variable, with what it lists TIED to the program's text (the seventh form; the later family's looks); each row that meets fmt, with fmt's text TOLD by the authors' own Lean function (tested against real Go, not proved from fmt's source: count such statements apart). THE CARD IS WHAT COUNTS. Prove the row's statement (the work); the ties are given (YteogdfiaobccfaaDoorTie.lean); close each card by the builder's one call (the guide's Derived/Test/ToyasCard.lean, 'card_holds'). Laid BY PROGRAM, IN A SANDBOX (cutbox-door.mjs). By AI agents, Wed Nov 11 2026. No macro, syntax, notation, axiom, sorry.
-/
import Derived.Test.YteogdfiaobccfaaDoorRows
import GoSem.ClaimSeven
namespace Go.Proofs.YteogdfiaobccfaaDoor
namespace Rows

/-- THE TIED CARD OF 'laws.FnRing'. -/
def fnRingCard : Claim7 := { stood := { row := fnRingRow, standIns := [], harness := (true, "aff46de792151a7b1a71388a468e7aa73cad7f7859f095fc965fa671fa5b409f"), looks := true }, kinds := [], alts := [], laidByText := true, laidKinds := [.handle, .sentinel], laidTests := true, laidLooks := .later }
def FnRingCardSaid : Prop := Claim7.holds Tryd.pinned (.plain (OpenSpec.ofChange fnRingSpec)) fnRingCard

/-- THE TIED CARD OF 'laws.FnExactRingAdd'. -/
def fnExactRingAddCard : Claim7 := { stood := { row := fnExactRingAddRow, standIns := [], harness := (true, "aff46de792151a7b1a71388a468e7aa73cad7f7859f095fc965fa671fa5b409f"), looks := true }, kinds := [], alts := [], laidByText := true, laidKinds := [.handle, .sentinel], laidTests := true, laidLooks := .later }
def FnExactRingAddCardSaid : Prop := Claim7.holds Tryd.pinned (.plain (OpenSpec.ofChange fnExactRingAddSpec)) fnExactRingAddCard

/-- THE TIED CARD OF 'laws.FnExactRingCount'. -/
def fnExactRingCountCard : Claim7 := { stood := { row := fnExactRingCountRow, standIns := [], harness := (true, "aff46de792151a7b1a71388a468e7aa73cad7f7859f095fc965fa671fa5b409f"), looks := true }, kinds := [], alts := [], laidByText := true, laidKinds := [.handle, .sentinel], laidTests := true, laidLooks := .later }
def FnExactRingCountCardSaid : Prop := Claim7.holds Tryd.pinned (.plain (OpenSpec.ofChange fnExactRingCountSpec)) fnExactRingCountCard

/-- THE TIED CARD OF 'laws.FnExactRingSum'. -/
def fnExactRingSumCard : Claim7 := { stood := { row := fnExactRingSumRow, standIns := [], harness := (true, "aff46de792151a7b1a71388a468e7aa73cad7f7859f095fc965fa671fa5b409f"), looks := true }, kinds := [], alts := [], laidByText := true, laidKinds := [.handle, .sentinel], laidTests := true, laidLooks := .later }
def FnExactRingSumCardSaid : Prop := Claim7.holds Tryd.pinned (.plain (OpenSpec.ofChange fnExactRingSumSpec)) fnExactRingSumCard

/-- THE SECOND FORM's CARD OF 'laws.FnRing'. -/
def fnRingUptoCard : Claim7 := { stood := { row := fnRingUptoRow, standIns := [], harness := (true, "aff46de792151a7b1a71388a468e7aa73cad7f7859f095fc965fa671fa5b409f"), looks := true }, kinds := [], alts := [], laidByText := true, laidKinds := [.handle, .sentinel], laidTests := true, laidLooks := .later }
def FnRingUptoCardSaid : Prop := Claim7.holds Tryd.pinned (.plain (OpenSpec.upto fnRingSpec)) fnRingUptoCard

/-- THE SECOND FORM's CARD OF 'laws.FnExactRingAdd'. -/
def fnExactRingAddUptoCard : Claim7 := { stood := { row := fnExactRingAddUptoRow, standIns := [], harness := (true, "aff46de792151a7b1a71388a468e7aa73cad7f7859f095fc965fa671fa5b409f"), looks := true }, kinds := [], alts := [], laidByText := true, laidKinds := [.handle, .sentinel], laidTests := true, laidLooks := .later }
def FnExactRingAddUptoCardSaid : Prop := Claim7.holds Tryd.pinned (.plain (OpenSpec.upto fnExactRingAddSpec)) fnExactRingAddUptoCard

/-- THE SECOND FORM's CARD OF 'laws.FnExactRingCount'. -/
def fnExactRingCountUptoCard : Claim7 := { stood := { row := fnExactRingCountUptoRow, standIns := [], harness := (true, "aff46de792151a7b1a71388a468e7aa73cad7f7859f095fc965fa671fa5b409f"), looks := true }, kinds := [], alts := [], laidByText := true, laidKinds := [.handle, .sentinel], laidTests := true, laidLooks := .later }
def FnExactRingCountUptoCardSaid : Prop := Claim7.holds Tryd.pinned (.plain (OpenSpec.upto fnExactRingCountSpec)) fnExactRingCountUptoCard

/-- THE SECOND FORM's CARD OF 'laws.FnExactRingSum'. -/
def fnExactRingSumUptoCard : Claim7 := { stood := { row := fnExactRingSumUptoRow, standIns := [], harness := (true, "aff46de792151a7b1a71388a468e7aa73cad7f7859f095fc965fa671fa5b409f"), looks := true }, kinds := [], alts := [], laidByText := true, laidKinds := [.handle, .sentinel], laidTests := true, laidLooks := .later }
def FnExactRingSumUptoCardSaid : Prop := Claim7.holds Tryd.pinned (.plain (OpenSpec.upto fnExactRingSumSpec)) fnExactRingSumUptoCard
end Rows
end Go.Proofs.YteogdfiaobccfaaDoor
