/-
  DERIVED. GIVEN WITH THE SEED: THE CARDS: each row of YtbaefbkjobpnnaaDoorRows.lean that lists a variable, with what it lists TIED to the program's text (the seventh form; the later family's looks); each row that meets fmt, with fmt's text TOLD by the authors' own Lean function (tested against real Go, not proved from fmt's source: count such statements apart). THE CARD IS WHAT COUNTS. Prove the row's statement (the work); the ties are given (YtbaefbkjobpnnaaDoorTie.lean); close each card by the builder's one call (the guide's Derived/Test/ToyasCard.lean, 'card_holds'). Laid BY PROGRAM, IN A SANDBOX (cutbox-door.mjs). By AI agents, Wed Nov 11 2026. No macro, syntax, notation, axiom, sorry.
-/
import Derived.Test.YtbaefbkjobpnnaaDoorRows
import GoSem.ClaimSeven
namespace Go.Proofs.YtbaefbkjobpnnaaDoor
namespace Rows

/-- THE TIED CARD OF 'laws.FnMoney'. -/
def fnMoneyCard : Claim7 := { stood := { row := fnMoneyRow, standIns := [], harness := (true, "51b0e4b7f6fd94b379ac54be415246aa1e03bbc785c0df3700d47cf1f71ce71c"), looks := true }, kinds := [], alts := [], laidByText := true, laidKinds := [.data, .data, .data, .handle, .sentinel, .sentinel], laidTests := true, laidLooks := .later }
def FnMoneyCardSaid : Prop := Claim7.holds Tryd.pinned (.plain (OpenSpec.ofChange fnMoneySpec)) fnMoneyCard

/-- THE TIED CARD OF 'laws.FnExactAddMoney'. -/
def fnExactAddMoneyCard : Claim7 := { stood := { row := fnExactAddMoneyRow, standIns := [], harness := (true, "51b0e4b7f6fd94b379ac54be415246aa1e03bbc785c0df3700d47cf1f71ce71c"), looks := true }, kinds := [], alts := [], laidByText := true, laidKinds := [.sentinel], laidTests := true, laidLooks := .later }
def FnExactAddMoneyCardSaid : Prop := Claim7.holds Tryd.pinned (.plain (OpenSpec.ofChange fnExactAddMoneySpec)) fnExactAddMoneyCard

/-- THE TIED CARD OF 'laws.FnExactAddSat'. -/
def fnExactAddSatCard : Claim7 := { stood := { row := fnExactAddSatRow, standIns := [], harness := (true, "51b0e4b7f6fd94b379ac54be415246aa1e03bbc785c0df3700d47cf1f71ce71c"), looks := true }, kinds := [], alts := [], laidByText := true, laidKinds := [.handle, .sentinel], laidTests := true, laidLooks := .later }
def FnExactAddSatCardSaid : Prop := Claim7.holds Tryd.pinned (.plain (OpenSpec.ofChange fnExactAddSatSpec)) fnExactAddSatCard

/-- THE TIED CARD OF 'laws.FnExactNumText'. -/
def fnExactNumTextCard : Claim7 := { stood := { row := fnExactNumTextRow, standIns := [], harness := (true, "51b0e4b7f6fd94b379ac54be415246aa1e03bbc785c0df3700d47cf1f71ce71c"), looks := true }, kinds := [], alts := [], laidByText := true, laidKinds := [.data, .data, .data], laidTests := true, laidLooks := .later }
def FnExactNumTextCardSaid : Prop := Claim7.holds Tryd.pinned (.plain (OpenSpec.ofChange fnExactNumTextSpec)) fnExactNumTextCard

/-- THE TIED CARD OF 'laws.FnExactTextNum'. -/
def fnExactTextNumCard : Claim7 := { stood := { row := fnExactTextNumRow, standIns := [], harness := (true, "51b0e4b7f6fd94b379ac54be415246aa1e03bbc785c0df3700d47cf1f71ce71c"), looks := true }, kinds := [], alts := [], laidByText := true, laidKinds := [.sentinel], laidTests := true, laidLooks := .later }
def FnExactTextNumCardSaid : Prop := Claim7.holds Tryd.pinned (.plain (OpenSpec.ofChange fnExactTextNumSpec)) fnExactTextNumCard

/-- THE TIED CARD OF 'laws.FnExactWide'. -/
def fnExactWideCard : Claim7 := { stood := { row := fnExactWideRow, standIns := [], harness := (true, "51b0e4b7f6fd94b379ac54be415246aa1e03bbc785c0df3700d47cf1f71ce71c"), looks := true }, kinds := [], alts := [], laidByText := true, laidKinds := [.data, .data, .data], laidTests := true, laidLooks := .later }
def FnExactWideCardSaid : Prop := Claim7.holds Tryd.pinned (.plain (OpenSpec.ofChange fnExactWideSpec)) fnExactWideCard

/-- THE TIED CARD OF 'laws.FnExactNarrow'. -/
def fnExactNarrowCard : Claim7 := { stood := { row := fnExactNarrowRow, standIns := [], harness := (true, "51b0e4b7f6fd94b379ac54be415246aa1e03bbc785c0df3700d47cf1f71ce71c"), looks := true }, kinds := [], alts := [], laidByText := true, laidKinds := [.sentinel], laidTests := true, laidLooks := .later }
def FnExactNarrowCardSaid : Prop := Claim7.holds Tryd.pinned (.plain (OpenSpec.ofChange fnExactNarrowSpec)) fnExactNarrowCard

/-- THE TIED CARD OF 'laws.FnExactCut'. -/
def fnExactCutCard : Claim7 := { stood := { row := fnExactCutRow, standIns := [], harness := (true, "51b0e4b7f6fd94b379ac54be415246aa1e03bbc785c0df3700d47cf1f71ce71c"), looks := true }, kinds := [], alts := [], laidByText := true, laidKinds := [.data, .pinned], laidTests := true, laidLooks := .later }
def FnExactCutCardSaid : Prop := Claim7.holds Tryd.pinned (.plain (OpenSpec.ofChange fnExactCutSpec)) fnExactCutCard

/-- THE TIED CARD OF 'laws.FnExactLines'. -/
def fnExactLinesCard : Claim7 := { stood := { row := fnExactLinesRow, standIns := [], harness := (true, "51b0e4b7f6fd94b379ac54be415246aa1e03bbc785c0df3700d47cf1f71ce71c"), looks := true }, kinds := [], alts := [], laidByText := true, laidKinds := [.data, .pinned], laidTests := true, laidLooks := .later }
def FnExactLinesCardSaid : Prop := Claim7.holds Tryd.pinned (.plain (OpenSpec.ofChange fnExactLinesSpec)) fnExactLinesCard

/-- THE SECOND FORM's CARD OF 'laws.FnMoney'. -/
def fnMoneyUptoCard : Claim7 := { stood := { row := fnMoneyUptoRow, standIns := [], harness := (true, "51b0e4b7f6fd94b379ac54be415246aa1e03bbc785c0df3700d47cf1f71ce71c"), looks := true }, kinds := [], alts := [], laidByText := true, laidKinds := [.data, .data, .data, .handle, .sentinel, .sentinel], laidTests := true, laidLooks := .later }
def FnMoneyUptoCardSaid : Prop := Claim7.holds Tryd.pinned (.plain (OpenSpec.upto fnMoneySpec)) fnMoneyUptoCard

/-- THE SECOND FORM's CARD OF 'laws.FnExactAddMoney'. -/
def fnExactAddMoneyUptoCard : Claim7 := { stood := { row := fnExactAddMoneyUptoRow, standIns := [], harness := (true, "51b0e4b7f6fd94b379ac54be415246aa1e03bbc785c0df3700d47cf1f71ce71c"), looks := true }, kinds := [], alts := [], laidByText := true, laidKinds := [.sentinel], laidTests := true, laidLooks := .later }
def FnExactAddMoneyUptoCardSaid : Prop := Claim7.holds Tryd.pinned (.plain (OpenSpec.upto fnExactAddMoneySpec)) fnExactAddMoneyUptoCard

/-- THE SECOND FORM's CARD OF 'laws.FnExactAddSat'. -/
def fnExactAddSatUptoCard : Claim7 := { stood := { row := fnExactAddSatUptoRow, standIns := [], harness := (true, "51b0e4b7f6fd94b379ac54be415246aa1e03bbc785c0df3700d47cf1f71ce71c"), looks := true }, kinds := [], alts := [], laidByText := true, laidKinds := [.handle, .sentinel], laidTests := true, laidLooks := .later }
def FnExactAddSatUptoCardSaid : Prop := Claim7.holds Tryd.pinned (.plain (OpenSpec.upto fnExactAddSatSpec)) fnExactAddSatUptoCard

/-- THE SECOND FORM's CARD OF 'laws.FnExactNumText'. -/
def fnExactNumTextUptoCard : Claim7 := { stood := { row := fnExactNumTextUptoRow, standIns := [], harness := (true, "51b0e4b7f6fd94b379ac54be415246aa1e03bbc785c0df3700d47cf1f71ce71c"), looks := true }, kinds := [], alts := [], laidByText := true, laidKinds := [.data, .data, .data], laidTests := true, laidLooks := .later }
def FnExactNumTextUptoCardSaid : Prop := Claim7.holds Tryd.pinned (.plain (OpenSpec.upto fnExactNumTextSpec)) fnExactNumTextUptoCard

/-- THE SECOND FORM's CARD OF 'laws.FnExactTextNum'. -/
def fnExactTextNumUptoCard : Claim7 := { stood := { row := fnExactTextNumUptoRow, standIns := [], harness := (true, "51b0e4b7f6fd94b379ac54be415246aa1e03bbc785c0df3700d47cf1f71ce71c"), looks := true }, kinds := [], alts := [], laidByText := true, laidKinds := [.sentinel], laidTests := true, laidLooks := .later }
def FnExactTextNumUptoCardSaid : Prop := Claim7.holds Tryd.pinned (.plain (OpenSpec.upto fnExactTextNumSpec)) fnExactTextNumUptoCard

/-- THE SECOND FORM's CARD OF 'laws.FnExactWide'. -/
def fnExactWideUptoCard : Claim7 := { stood := { row := fnExactWideUptoRow, standIns := [], harness := (true, "51b0e4b7f6fd94b379ac54be415246aa1e03bbc785c0df3700d47cf1f71ce71c"), looks := true }, kinds := [], alts := [], laidByText := true, laidKinds := [.data, .data, .data], laidTests := true, laidLooks := .later }
def FnExactWideUptoCardSaid : Prop := Claim7.holds Tryd.pinned (.plain (OpenSpec.upto fnExactWideSpec)) fnExactWideUptoCard

/-- THE SECOND FORM's CARD OF 'laws.FnExactNarrow'. -/
def fnExactNarrowUptoCard : Claim7 := { stood := { row := fnExactNarrowUptoRow, standIns := [], harness := (true, "51b0e4b7f6fd94b379ac54be415246aa1e03bbc785c0df3700d47cf1f71ce71c"), looks := true }, kinds := [], alts := [], laidByText := true, laidKinds := [.sentinel], laidTests := true, laidLooks := .later }
def FnExactNarrowUptoCardSaid : Prop := Claim7.holds Tryd.pinned (.plain (OpenSpec.upto fnExactNarrowSpec)) fnExactNarrowUptoCard

/-- THE SECOND FORM's CARD OF 'laws.FnExactCut'. -/
def fnExactCutUptoCard : Claim7 := { stood := { row := fnExactCutUptoRow, standIns := [], harness := (true, "51b0e4b7f6fd94b379ac54be415246aa1e03bbc785c0df3700d47cf1f71ce71c"), looks := true }, kinds := [], alts := [], laidByText := true, laidKinds := [.data, .pinned], laidTests := true, laidLooks := .later }
def FnExactCutUptoCardSaid : Prop := Claim7.holds Tryd.pinned (.plain (OpenSpec.upto fnExactCutSpec)) fnExactCutUptoCard

/-- THE SECOND FORM's CARD OF 'laws.FnExactLines'. -/
def fnExactLinesUptoCard : Claim7 := { stood := { row := fnExactLinesUptoRow, standIns := [], harness := (true, "51b0e4b7f6fd94b379ac54be415246aa1e03bbc785c0df3700d47cf1f71ce71c"), looks := true }, kinds := [], alts := [], laidByText := true, laidKinds := [.data, .pinned], laidTests := true, laidLooks := .later }
def FnExactLinesUptoCardSaid : Prop := Claim7.holds Tryd.pinned (.plain (OpenSpec.upto fnExactLinesSpec)) fnExactLinesUptoCard
end Rows
end Go.Proofs.YtbaefbkjobpnnaaDoor
