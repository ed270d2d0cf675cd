/-
  DERIVED. GIVEN WITH THE SEED: THE CARDS: each row of YtdjlhijaadombaaDoorRows.lean that lists a variable, with what it lists TIED to the program's text (the seventh form; the later family's looks); each row that meets fmt, with fmt's text TOLD by the authors' own Lean function (tested against real Go, not proved from fmt's source: count such statements apart). THE CARD IS WHAT COUNTS. Prove the row's statement (the work); the ties are given (YtdjlhijaadombaaDoorTie.lean); close each card by the builder's one call (the guide's Derived/Test/ToyasCard.lean, 'card_holds'). Laid BY PROGRAM, IN A SANDBOX (cutbox-door.mjs). By AI agents, Wed Nov 11 2026. No macro, syntax, notation, axiom, sorry.
-/
import Derived.Test.YtdjlhijaadombaaDoorRows
import GoSem.ClaimSeven
namespace Go.Proofs.YtdjlhijaadombaaDoor
namespace Rows

/-- THE TIED CARD OF 'laws.FnExactRsText'. -/
def fnExactRsTextCard : Claim7 := { stood := { row := fnExactRsTextRow, standIns := [], harness := (true, "9cf0c0d74e07b99f66d09840b6cae875067930243fa370fd7e00086e3012db14"), looks := false }, kinds := [], alts := [], laidByText := true, laidKinds := [.data], laidTests := true, laidLooks := .later }
def FnExactRsTextCardSaid : Prop := Claim7.holds Tryd.pinned (.plain (OpenSpec.ofChange fnExactRsTextSpec)) fnExactRsTextCard

/-- THE TIED CARD OF 'laws.FnExactTextRs'. -/
def fnExactTextRsCard : Claim7 := { stood := { row := fnExactTextRsRow, standIns := [], harness := (true, "9cf0c0d74e07b99f66d09840b6cae875067930243fa370fd7e00086e3012db14"), looks := false }, kinds := [], alts := [], laidByText := true, laidKinds := [.data], laidTests := true, laidLooks := .later }
def FnExactTextRsCardSaid : Prop := Claim7.holds Tryd.pinned (.plain (OpenSpec.ofChange fnExactTextRsSpec)) fnExactTextRsCard

/-- THE TIED CARD OF 'laws.FnExactBare'. -/
def fnExactBareCard : Claim7 := { stood := { row := fnExactBareRow, standIns := [], harness := (true, "9cf0c0d74e07b99f66d09840b6cae875067930243fa370fd7e00086e3012db14"), looks := false }, kinds := [], alts := [], laidByText := true, laidKinds := [.data, .data, .data, .sentinel, .data], laidTests := true, laidLooks := .later }
def FnExactBareCardSaid : Prop := Claim7.holds Tryd.pinned (.plain (OpenSpec.ofChange fnExactBareSpec)) fnExactBareCard

/-- THE SECOND FORM's CARD OF 'laws.FnExactRsText'. -/
def fnExactRsTextUptoCard : Claim7 := { stood := { row := fnExactRsTextUptoRow, standIns := [], harness := (true, "9cf0c0d74e07b99f66d09840b6cae875067930243fa370fd7e00086e3012db14"), looks := false }, kinds := [], alts := [], laidByText := true, laidKinds := [.data], laidTests := true, laidLooks := .later }
def FnExactRsTextUptoCardSaid : Prop := Claim7.holds Tryd.pinned (.plain (OpenSpec.upto fnExactRsTextSpec)) fnExactRsTextUptoCard

/-- THE SECOND FORM's CARD OF 'laws.FnExactTextRs'. -/
def fnExactTextRsUptoCard : Claim7 := { stood := { row := fnExactTextRsUptoRow, standIns := [], harness := (true, "9cf0c0d74e07b99f66d09840b6cae875067930243fa370fd7e00086e3012db14"), looks := false }, kinds := [], alts := [], laidByText := true, laidKinds := [.data], laidTests := true, laidLooks := .later }
def FnExactTextRsUptoCardSaid : Prop := Claim7.holds Tryd.pinned (.plain (OpenSpec.upto fnExactTextRsSpec)) fnExactTextRsUptoCard

/-- THE SECOND FORM's CARD OF 'laws.FnExactBare'. -/
def fnExactBareUptoCard : Claim7 := { stood := { row := fnExactBareUptoRow, standIns := [], harness := (true, "9cf0c0d74e07b99f66d09840b6cae875067930243fa370fd7e00086e3012db14"), looks := false }, kinds := [], alts := [], laidByText := true, laidKinds := [.data, .data, .data, .sentinel, .data], laidTests := true, laidLooks := .later }
def FnExactBareUptoCardSaid : Prop := Claim7.holds Tryd.pinned (.plain (OpenSpec.upto fnExactBareSpec)) fnExactBareUptoCard
end Rows
end Go.Proofs.YtdjlhijaadombaaDoor
