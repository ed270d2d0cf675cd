/-
  DERIVED. GIVEN WITH THE SEED: THE CARDS: each row of YtpeeagkfhdeagaaDoorRows.lean that lists a variable, with what it lists TIED to the program's text (the seventh form; the later family's looks); each row that meets fmt, with fmt's text TOLD by the authors' own Lean function (tested against real Go, not proved from fmt's source: count such statements apart). THE CARD IS WHAT COUNTS. Prove the row's statement (the work); the ties are given (YtpeeagkfhdeagaaDoorTie.lean); close each card by the builder's one call (the guide's Derived/Test/ToyasCard.lean, 'card_holds'). Laid BY PROGRAM, IN A SANDBOX (cutbox-door.mjs). By AI agents, Wed Nov 11 2026. No macro, syntax, notation, axiom, sorry.
-/
import Derived.Test.YtpeeagkfhdeagaaDoorRows
import GoSem.ClaimSeven
namespace Go.Proofs.YtpeeagkfhdeagaaDoor
namespace Rows

/-- THE TIED CARD OF 'laws.FnExactAcctNew'. -/
def fnExactAcctNewCard : Claim7 := { stood := { row := fnExactAcctNewRow, standIns := [], harness := (true, "769ecf938927854bbd9fcf27ef5eff84bd3f1afe4d3f639cca4c47869e6ab278"), looks := true }, kinds := [], alts := [], laidByText := true, laidKinds := [.handle, .sentinel], laidTests := true, laidLooks := .later }
def FnExactAcctNewCardSaid : Prop := Claim7.holds Tryd.pinned (.plain (OpenSpec.ofChange fnExactAcctNewSpec)) fnExactAcctNewCard

/-- THE TIED CARD OF 'laws.FnExactAcctOk'. -/
def fnExactAcctOkCard : Claim7 := { stood := { row := fnExactAcctOkRow, standIns := [], harness := (true, "769ecf938927854bbd9fcf27ef5eff84bd3f1afe4d3f639cca4c47869e6ab278"), looks := true }, kinds := [], alts := [], laidByText := true, laidKinds := [.handle, .sentinel], laidTests := true, laidLooks := .later }
def FnExactAcctOkCardSaid : Prop := Claim7.holds Tryd.pinned (.plain (OpenSpec.ofChange fnExactAcctOkSpec)) fnExactAcctOkCard

/-- THE SECOND FORM's CARD OF 'laws.FnExactAcctNew'. -/
def fnExactAcctNewUptoCard : Claim7 := { stood := { row := fnExactAcctNewUptoRow, standIns := [], harness := (true, "769ecf938927854bbd9fcf27ef5eff84bd3f1afe4d3f639cca4c47869e6ab278"), looks := true }, kinds := [], alts := [], laidByText := true, laidKinds := [.handle, .sentinel], laidTests := true, laidLooks := .later }
def FnExactAcctNewUptoCardSaid : Prop := Claim7.holds Tryd.pinned (.plain (OpenSpec.upto fnExactAcctNewSpec)) fnExactAcctNewUptoCard

/-- THE SECOND FORM's CARD OF 'laws.FnExactAcctOk'. -/
def fnExactAcctOkUptoCard : Claim7 := { stood := { row := fnExactAcctOkUptoRow, standIns := [], harness := (true, "769ecf938927854bbd9fcf27ef5eff84bd3f1afe4d3f639cca4c47869e6ab278"), looks := true }, kinds := [], alts := [], laidByText := true, laidKinds := [.handle, .sentinel], laidTests := true, laidLooks := .later }
def FnExactAcctOkUptoCardSaid : Prop := Claim7.holds Tryd.pinned (.plain (OpenSpec.upto fnExactAcctOkSpec)) fnExactAcctOkUptoCard
end Rows
end Go.Proofs.YtpeeagkfhdeagaaDoor
