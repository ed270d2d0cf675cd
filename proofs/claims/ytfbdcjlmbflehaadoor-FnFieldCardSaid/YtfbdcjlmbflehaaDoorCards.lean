/-
  DERIVED. GIVEN WITH THE SEED: THE CARDS: each row of YtfbdcjlmbflehaaDoorRows.lean that lists a variable, with what it lists TIED to the program's text (the seventh form; the later family's looks); each row that meets fmt, with fmt's text TOLD by the authors' own Lean function (tested against real Go, not proved from fmt's source: count such statements apart). THE CARD IS WHAT COUNTS. Prove the row's statement (the work); the ties are given (YtfbdcjlmbflehaaDoorTie.lean); close each card by the builder's one call (the guide's Derived/Test/ToyasCard.lean, 'card_holds'). Laid BY PROGRAM, IN A SANDBOX (cutbox-door.mjs). By AI agents, Wed Nov 11 2026. No macro, syntax, notation, axiom, sorry.
-/
import Derived.Test.YtfbdcjlmbflehaaDoorRows
import GoSem.ClaimSeven
namespace Go.Proofs.YtfbdcjlmbflehaaDoor
namespace Rows

/-- THE TIED CARD OF 'laws.FnField'. -/
def fnFieldCard : Claim7 := { stood := { row := fnFieldRow, standIns := [], harness := (true, "c0ee0c6679fec3355c27e054827077dcad69f30eaadaf9ce8354138c42a4cbb7"), looks := false }, kinds := [], alts := [], laidByText := true, laidKinds := [.data, .data, .data, .sentinel], laidTests := true, laidLooks := .later }
def FnFieldCardSaid : Prop := Claim7.holds Tryd.pinned (.plain (OpenSpec.ofChange fnFieldSpec)) fnFieldCard

/-- THE TIED CARD OF 'laws.FnExactFieldKind'. -/
def fnExactFieldKindCard : Claim7 := { stood := { row := fnExactFieldKindRow, standIns := [], harness := (true, "c0ee0c6679fec3355c27e054827077dcad69f30eaadaf9ce8354138c42a4cbb7"), looks := false }, kinds := [], alts := [], laidByText := true, laidKinds := [.data, .data, .data, .sentinel], laidTests := true, laidLooks := .later }
def FnExactFieldKindCardSaid : Prop := Claim7.holds Tryd.pinned (.plain (OpenSpec.ofChange fnExactFieldKindSpec)) fnExactFieldKindCard

/-- THE TIED CARD OF 'laws.FnExactFieldSize'. -/
def fnExactFieldSizeCard : Claim7 := { stood := { row := fnExactFieldSizeRow, standIns := [], harness := (true, "c0ee0c6679fec3355c27e054827077dcad69f30eaadaf9ce8354138c42a4cbb7"), looks := false }, kinds := [], alts := [], laidByText := true, laidKinds := [.data, .data, .data, .sentinel], laidTests := true, laidLooks := .later }
def FnExactFieldSizeCardSaid : Prop := Claim7.holds Tryd.pinned (.plain (OpenSpec.ofChange fnExactFieldSizeSpec)) fnExactFieldSizeCard

/-- THE TIED CARD OF 'laws.FnExactFieldNos'. -/
def fnExactFieldNosCard : Claim7 := { stood := { row := fnExactFieldNosRow, standIns := [], harness := (true, "c0ee0c6679fec3355c27e054827077dcad69f30eaadaf9ce8354138c42a4cbb7"), looks := false }, kinds := [], alts := [], laidByText := true, laidKinds := [.data, .data, .data, .sentinel], laidTests := true, laidLooks := .later }
def FnExactFieldNosCardSaid : Prop := Claim7.holds Tryd.pinned (.plain (OpenSpec.ofChange fnExactFieldNosSpec)) fnExactFieldNosCard

/-- THE TIED CARD OF 'laws.FnExactFieldOk'. -/
def fnExactFieldOkCard : Claim7 := { stood := { row := fnExactFieldOkRow, standIns := [], harness := (true, "c0ee0c6679fec3355c27e054827077dcad69f30eaadaf9ce8354138c42a4cbb7"), looks := false }, kinds := [], alts := [], laidByText := true, laidKinds := [.data, .data, .data, .sentinel], laidTests := true, laidLooks := .later }
def FnExactFieldOkCardSaid : Prop := Claim7.holds Tryd.pinned (.plain (OpenSpec.ofChange fnExactFieldOkSpec)) fnExactFieldOkCard

/-- THE TIED CARD OF 'laws.FnExactPutField'. -/
def fnExactPutFieldCard : Claim7 := { stood := { row := fnExactPutFieldRow, standIns := [], harness := (true, "c0ee0c6679fec3355c27e054827077dcad69f30eaadaf9ce8354138c42a4cbb7"), looks := false }, kinds := [], alts := [], laidByText := true, laidKinds := [.data, .data, .data, .sentinel], laidTests := true, laidLooks := .later }
def FnExactPutFieldCardSaid : Prop := Claim7.holds Tryd.pinned (.plain (OpenSpec.ofChange fnExactPutFieldSpec)) fnExactPutFieldCard

/-- THE TIED CARD OF 'laws.FnExactGetField'. -/
def fnExactGetFieldCard : Claim7 := { stood := { row := fnExactGetFieldRow, standIns := [], harness := (true, "c0ee0c6679fec3355c27e054827077dcad69f30eaadaf9ce8354138c42a4cbb7"), looks := false }, kinds := [], alts := [], laidByText := true, laidKinds := [.data, .data, .data, .sentinel], laidTests := true, laidLooks := .later }
def FnExactGetFieldCardSaid : Prop := Claim7.holds Tryd.pinned (.plain (OpenSpec.ofChange fnExactGetFieldSpec)) fnExactGetFieldCard

/-- THE TIED CARD OF 'laws.FnExactFieldFit'. -/
def fnExactFieldFitCard : Claim7 := { stood := { row := fnExactFieldFitRow, standIns := [], harness := (true, "c0ee0c6679fec3355c27e054827077dcad69f30eaadaf9ce8354138c42a4cbb7"), looks := false }, kinds := [], alts := [], laidByText := true, laidKinds := [.data, .data, .data, .sentinel], laidTests := true, laidLooks := .later }
def FnExactFieldFitCardSaid : Prop := Claim7.holds Tryd.pinned (.plain (OpenSpec.ofChange fnExactFieldFitSpec)) fnExactFieldFitCard

/-- THE TIED CARD OF 'laws.FnExactFieldBare'. -/
def fnExactFieldBareCard : Claim7 := { stood := { row := fnExactFieldBareRow, standIns := [], harness := (true, "c0ee0c6679fec3355c27e054827077dcad69f30eaadaf9ce8354138c42a4cbb7"), looks := false }, kinds := [], alts := [], laidByText := true, laidKinds := [.data, .pinned], laidTests := true, laidLooks := .later }
def FnExactFieldBareCardSaid : Prop := Claim7.holds Tryd.pinned (.plain (OpenSpec.ofChange fnExactFieldBareSpec)) fnExactFieldBareCard

/-- THE SECOND FORM's CARD OF 'laws.FnField'. -/
def fnFieldUptoCard : Claim7 := { stood := { row := fnFieldUptoRow, standIns := [], harness := (true, "c0ee0c6679fec3355c27e054827077dcad69f30eaadaf9ce8354138c42a4cbb7"), looks := false }, kinds := [], alts := [], laidByText := true, laidKinds := [.data, .data, .data, .sentinel], laidTests := true, laidLooks := .later }
def FnFieldUptoCardSaid : Prop := Claim7.holds Tryd.pinned (.plain (OpenSpec.upto fnFieldSpec)) fnFieldUptoCard

/-- THE SECOND FORM's CARD OF 'laws.FnExactFieldKind'. -/
def fnExactFieldKindUptoCard : Claim7 := { stood := { row := fnExactFieldKindUptoRow, standIns := [], harness := (true, "c0ee0c6679fec3355c27e054827077dcad69f30eaadaf9ce8354138c42a4cbb7"), looks := false }, kinds := [], alts := [], laidByText := true, laidKinds := [.data, .data, .data, .sentinel], laidTests := true, laidLooks := .later }
def FnExactFieldKindUptoCardSaid : Prop := Claim7.holds Tryd.pinned (.plain (OpenSpec.upto fnExactFieldKindSpec)) fnExactFieldKindUptoCard

/-- THE SECOND FORM's CARD OF 'laws.FnExactFieldSize'. -/
def fnExactFieldSizeUptoCard : Claim7 := { stood := { row := fnExactFieldSizeUptoRow, standIns := [], harness := (true, "c0ee0c6679fec3355c27e054827077dcad69f30eaadaf9ce8354138c42a4cbb7"), looks := false }, kinds := [], alts := [], laidByText := true, laidKinds := [.data, .data, .data, .sentinel], laidTests := true, laidLooks := .later }
def FnExactFieldSizeUptoCardSaid : Prop := Claim7.holds Tryd.pinned (.plain (OpenSpec.upto fnExactFieldSizeSpec)) fnExactFieldSizeUptoCard

/-- THE SECOND FORM's CARD OF 'laws.FnExactFieldNos'. -/
def fnExactFieldNosUptoCard : Claim7 := { stood := { row := fnExactFieldNosUptoRow, standIns := [], harness := (true, "c0ee0c6679fec3355c27e054827077dcad69f30eaadaf9ce8354138c42a4cbb7"), looks := false }, kinds := [], alts := [], laidByText := true, laidKinds := [.data, .data, .data, .sentinel], laidTests := true, laidLooks := .later }
def FnExactFieldNosUptoCardSaid : Prop := Claim7.holds Tryd.pinned (.plain (OpenSpec.upto fnExactFieldNosSpec)) fnExactFieldNosUptoCard

/-- THE SECOND FORM's CARD OF 'laws.FnExactFieldOk'. -/
def fnExactFieldOkUptoCard : Claim7 := { stood := { row := fnExactFieldOkUptoRow, standIns := [], harness := (true, "c0ee0c6679fec3355c27e054827077dcad69f30eaadaf9ce8354138c42a4cbb7"), looks := false }, kinds := [], alts := [], laidByText := true, laidKinds := [.data, .data, .data, .sentinel], laidTests := true, laidLooks := .later }
def FnExactFieldOkUptoCardSaid : Prop := Claim7.holds Tryd.pinned (.plain (OpenSpec.upto fnExactFieldOkSpec)) fnExactFieldOkUptoCard

/-- THE SECOND FORM's CARD OF 'laws.FnExactPutField'. -/
def fnExactPutFieldUptoCard : Claim7 := { stood := { row := fnExactPutFieldUptoRow, standIns := [], harness := (true, "c0ee0c6679fec3355c27e054827077dcad69f30eaadaf9ce8354138c42a4cbb7"), looks := false }, kinds := [], alts := [], laidByText := true, laidKinds := [.data, .data, .data, .sentinel], laidTests := true, laidLooks := .later }
def FnExactPutFieldUptoCardSaid : Prop := Claim7.holds Tryd.pinned (.plain (OpenSpec.upto fnExactPutFieldSpec)) fnExactPutFieldUptoCard

/-- THE SECOND FORM's CARD OF 'laws.FnExactGetField'. -/
def fnExactGetFieldUptoCard : Claim7 := { stood := { row := fnExactGetFieldUptoRow, standIns := [], harness := (true, "c0ee0c6679fec3355c27e054827077dcad69f30eaadaf9ce8354138c42a4cbb7"), looks := false }, kinds := [], alts := [], laidByText := true, laidKinds := [.data, .data, .data, .sentinel], laidTests := true, laidLooks := .later }
def FnExactGetFieldUptoCardSaid : Prop := Claim7.holds Tryd.pinned (.plain (OpenSpec.upto fnExactGetFieldSpec)) fnExactGetFieldUptoCard

/-- THE SECOND FORM's CARD OF 'laws.FnExactFieldFit'. -/
def fnExactFieldFitUptoCard : Claim7 := { stood := { row := fnExactFieldFitUptoRow, standIns := [], harness := (true, "c0ee0c6679fec3355c27e054827077dcad69f30eaadaf9ce8354138c42a4cbb7"), looks := false }, kinds := [], alts := [], laidByText := true, laidKinds := [.data, .data, .data, .sentinel], laidTests := true, laidLooks := .later }
def FnExactFieldFitUptoCardSaid : Prop := Claim7.holds Tryd.pinned (.plain (OpenSpec.upto fnExactFieldFitSpec)) fnExactFieldFitUptoCard

/-- THE SECOND FORM's CARD OF 'laws.FnExactFieldBare'. -/
def fnExactFieldBareUptoCard : Claim7 := { stood := { row := fnExactFieldBareUptoRow, standIns := [], harness := (true, "c0ee0c6679fec3355c27e054827077dcad69f30eaadaf9ce8354138c42a4cbb7"), looks := false }, kinds := [], alts := [], laidByText := true, laidKinds := [.data, .pinned], laidTests := true, laidLooks := .later }
def FnExactFieldBareUptoCardSaid : Prop := Claim7.holds Tryd.pinned (.plain (OpenSpec.upto fnExactFieldBareSpec)) fnExactFieldBareUptoCard
end Rows
end Go.Proofs.YtfbdcjlmbflehaaDoor
