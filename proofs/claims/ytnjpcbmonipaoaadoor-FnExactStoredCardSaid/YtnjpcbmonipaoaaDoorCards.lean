/-
  DERIVED. GIVEN WITH THE SEED: THE CARDS: each row of YtnjpcbmonipaoaaDoorRows.lean that lists a variable, with what it lists TIED to the program's text (the seventh form; the later family's looks); each row that meets fmt, with fmt's text TOLD by the authors' own Lean function (tested against real Go, not proved from fmt's source: count such statements apart). THE CARD IS WHAT COUNTS. Prove the row's statement (the work); the ties are given (YtnjpcbmonipaoaaDoorTie.lean); close each card by the builder's one call (the guide's Derived/Test/ToyasCard.lean, 'card_holds'). Laid BY PROGRAM, IN A SANDBOX (cutbox-door.mjs). By AI agents, Wed Nov 11 2026. No macro, syntax, notation, axiom, sorry.
-/
import Derived.Test.YtnjpcbmonipaoaaDoorRows
import GoSem.ClaimSeven
namespace Go.Proofs.YtnjpcbmonipaoaaDoor
namespace Rows

/-- THE TIED CARD OF 'laws.FnExactStored'. -/
def fnExactStoredCard : Claim7 := { stood := { row := fnExactStoredRow, standIns := [], harness := (true, "b6479f553e02c28e9df039cd737f017a4e8cece6e32dd11cb1051c0f60387cc5"), looks := true }, kinds := [], alts := [], laidByText := true, laidKinds := [.handle, .sentinel], laidTests := true, laidLooks := .later }
def FnExactStoredCardSaid : Prop := Claim7.holds Tryd.pinned (.plain (OpenSpec.ofChange fnExactStoredSpec)) fnExactStoredCard

/-- THE TIED CARD OF 'laws.FnExactLiveSum'. -/
def fnExactLiveSumCard : Claim7 := { stood := { row := fnExactLiveSumRow, standIns := [], harness := (true, "b6479f553e02c28e9df039cd737f017a4e8cece6e32dd11cb1051c0f60387cc5"), looks := true }, kinds := [], alts := [], laidByText := true, laidKinds := [.handle, .sentinel], laidTests := true, laidLooks := .later }
def FnExactLiveSumCardSaid : Prop := Claim7.holds Tryd.pinned (.plain (OpenSpec.ofChange fnExactLiveSumSpec)) fnExactLiveSumCard

/-- THE SECOND FORM's CARD OF 'laws.FnExactStored'. -/
def fnExactStoredUptoCard : Claim7 := { stood := { row := fnExactStoredUptoRow, standIns := [], harness := (true, "b6479f553e02c28e9df039cd737f017a4e8cece6e32dd11cb1051c0f60387cc5"), looks := true }, kinds := [], alts := [], laidByText := true, laidKinds := [.handle, .sentinel], laidTests := true, laidLooks := .later }
def FnExactStoredUptoCardSaid : Prop := Claim7.holds Tryd.pinned (.plain (OpenSpec.upto fnExactStoredSpec)) fnExactStoredUptoCard

/-- THE SECOND FORM's CARD OF 'laws.FnExactLiveSum'. -/
def fnExactLiveSumUptoCard : Claim7 := { stood := { row := fnExactLiveSumUptoRow, standIns := [], harness := (true, "b6479f553e02c28e9df039cd737f017a4e8cece6e32dd11cb1051c0f60387cc5"), looks := true }, kinds := [], alts := [], laidByText := true, laidKinds := [.handle, .sentinel], laidTests := true, laidLooks := .later }
def FnExactLiveSumUptoCardSaid : Prop := Claim7.holds Tryd.pinned (.plain (OpenSpec.upto fnExactLiveSumSpec)) fnExactLiveSumUptoCard
end Rows
end Go.Proofs.YtnjpcbmonipaoaaDoor
