/-
  DERIVED. GIVEN WITH THE SEED: THE CARDS: each row of YtmojpiofdfmdgaaDoorRows.lean that lists a variable, with what it lists TIED to the program's text (the seventh form; the later family's looks); each row that meets fmt, with fmt's text TOLD by the authors' own Lean function (tested against real Go, not proved from fmt's source: count such statements apart). THE CARD IS WHAT COUNTS. Prove the row's statement (the work); the ties are given (YtmojpiofdfmdgaaDoorTie.lean); close each card by the builder's one call (the guide's Derived/Test/ToyasCard.lean, 'card_holds'). Laid BY PROGRAM, IN A SANDBOX (cutbox-door.mjs). By AI agents, Wed Nov 11 2026. No macro, syntax, notation, axiom, sorry.
-/
import Derived.Test.YtmojpiofdfmdgaaDoorRows
import GoSem.ClaimSeven
namespace Go.Proofs.YtmojpiofdfmdgaaDoor
namespace Rows

/-- THE TIED CARD OF 'laws.FnExactOpMti'. -/
def fnExactOpMtiCard : Claim7 := { stood := { row := fnExactOpMtiRow, standIns := [], harness := (true, "3a36c4ec0f56e2d509e482e94e4cbb3a4fe22f60394b266d1993a8ef05b3a326"), looks := false }, kinds := [], alts := [], laidByText := true, laidKinds := [.data], laidTests := true, laidLooks := .later }
def FnExactOpMtiCardSaid : Prop := Claim7.holds Tryd.pinned (.plain (OpenSpec.ofChange fnExactOpMtiSpec)) fnExactOpMtiCard

/-- THE TIED CARD OF 'laws.FnExactOpCode'. -/
def fnExactOpCodeCard : Claim7 := { stood := { row := fnExactOpCodeRow, standIns := [], harness := (true, "3a36c4ec0f56e2d509e482e94e4cbb3a4fe22f60394b266d1993a8ef05b3a326"), looks := false }, kinds := [], alts := [], laidByText := true, laidKinds := [.data], laidTests := true, laidLooks := .later }
def FnExactOpCodeCardSaid : Prop := Claim7.holds Tryd.pinned (.plain (OpenSpec.ofChange fnExactOpCodeSpec)) fnExactOpCodeCard

/-- THE TIED CARD OF 'laws.FnExactOpName'. -/
def fnExactOpNameCard : Claim7 := { stood := { row := fnExactOpNameRow, standIns := [], harness := (true, "3a36c4ec0f56e2d509e482e94e4cbb3a4fe22f60394b266d1993a8ef05b3a326"), looks := false }, kinds := [], alts := [], laidByText := true, laidKinds := [.data], laidTests := true, laidLooks := .later }
def FnExactOpNameCardSaid : Prop := Claim7.holds Tryd.pinned (.plain (OpenSpec.ofChange fnExactOpNameSpec)) fnExactOpNameCard

/-- THE TIED CARD OF 'laws.FnExactNameOp'. -/
def fnExactNameOpCard : Claim7 := { stood := { row := fnExactNameOpRow, standIns := [], harness := (true, "3a36c4ec0f56e2d509e482e94e4cbb3a4fe22f60394b266d1993a8ef05b3a326"), looks := false }, kinds := [], alts := [], laidByText := true, laidKinds := [.data], laidTests := true, laidLooks := .later }
def FnExactNameOpCardSaid : Prop := Claim7.holds Tryd.pinned (.plain (OpenSpec.ofChange fnExactNameOpSpec)) fnExactNameOpCard

/-- THE SECOND FORM's CARD OF 'laws.FnExactOpMti'. -/
def fnExactOpMtiUptoCard : Claim7 := { stood := { row := fnExactOpMtiUptoRow, standIns := [], harness := (true, "3a36c4ec0f56e2d509e482e94e4cbb3a4fe22f60394b266d1993a8ef05b3a326"), looks := false }, kinds := [], alts := [], laidByText := true, laidKinds := [.data], laidTests := true, laidLooks := .later }
def FnExactOpMtiUptoCardSaid : Prop := Claim7.holds Tryd.pinned (.plain (OpenSpec.upto fnExactOpMtiSpec)) fnExactOpMtiUptoCard

/-- THE SECOND FORM's CARD OF 'laws.FnExactOpCode'. -/
def fnExactOpCodeUptoCard : Claim7 := { stood := { row := fnExactOpCodeUptoRow, standIns := [], harness := (true, "3a36c4ec0f56e2d509e482e94e4cbb3a4fe22f60394b266d1993a8ef05b3a326"), looks := false }, kinds := [], alts := [], laidByText := true, laidKinds := [.data], laidTests := true, laidLooks := .later }
def FnExactOpCodeUptoCardSaid : Prop := Claim7.holds Tryd.pinned (.plain (OpenSpec.upto fnExactOpCodeSpec)) fnExactOpCodeUptoCard

/-- THE SECOND FORM's CARD OF 'laws.FnExactOpName'. -/
def fnExactOpNameUptoCard : Claim7 := { stood := { row := fnExactOpNameUptoRow, standIns := [], harness := (true, "3a36c4ec0f56e2d509e482e94e4cbb3a4fe22f60394b266d1993a8ef05b3a326"), looks := false }, kinds := [], alts := [], laidByText := true, laidKinds := [.data], laidTests := true, laidLooks := .later }
def FnExactOpNameUptoCardSaid : Prop := Claim7.holds Tryd.pinned (.plain (OpenSpec.upto fnExactOpNameSpec)) fnExactOpNameUptoCard

/-- THE SECOND FORM's CARD OF 'laws.FnExactNameOp'. -/
def fnExactNameOpUptoCard : Claim7 := { stood := { row := fnExactNameOpUptoRow, standIns := [], harness := (true, "3a36c4ec0f56e2d509e482e94e4cbb3a4fe22f60394b266d1993a8ef05b3a326"), looks := false }, kinds := [], alts := [], laidByText := true, laidKinds := [.data], laidTests := true, laidLooks := .later }
def FnExactNameOpUptoCardSaid : Prop := Claim7.holds Tryd.pinned (.plain (OpenSpec.upto fnExactNameOpSpec)) fnExactNameOpUptoCard
end Rows
end Go.Proofs.YtmojpiofdfmdgaaDoor
