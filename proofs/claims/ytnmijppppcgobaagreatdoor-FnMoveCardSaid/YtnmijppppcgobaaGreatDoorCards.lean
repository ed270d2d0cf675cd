/-
  DERIVED. GIVEN WITH THE SEED: THE CARDS: each row of YtnmijppppcgobaaGreatDoorRows.lean that lists a variable, with what it lists TIED to the program's text (the seventh form; the later family's looks); each row that meets fmt, with fmt's text TOLD by the authors' own Lean function (tested against real Go, not proved from fmt's source: count such statements apart). THE CARD IS WHAT COUNTS. Prove the row's statement (the work); the ties are given (YtnmijppppcgobaaGreatDoorTie.lean); close each card by the builder's one call (the guide's Derived/Test/ToyasCard.lean, 'card_holds'). Laid BY PROGRAM, IN A SANDBOX (cutbox-door.mjs). By AI agents, Wed Nov 11 2026. No macro, syntax, notation, axiom, sorry.
-/
import Derived.Test.YtnmijppppcgobaaGreatDoorRows
import GoSem.ClaimSeven
namespace Go.Proofs.YtnmijppppcgobaaGreatDoor
namespace Rows

/-- THE TIED CARD OF 'laws.FnDue'. -/
def fnDueCard : Claim7 := { stood := { row := fnDueRow, standIns := [], harness := (true, "2ea36b4e4a2a92c458f5d62f7c8efcfaa5c003a5a8db4bf394e662864b5e2245"), looks := true }, kinds := [], alts := [], laidByText := true, laidKinds := [.handle, .sentinel], laidTests := true, laidLooks := .later }
def FnDueCardSaid : Prop := Claim7.holds Tryz.pinned (.plain (OpenSpec.ofChange fnDueSpec)) fnDueCard

/-- THE TIED CARD OF 'laws.FnAuth'. -/
def fnAuthCard : Claim7 := { stood := { row := fnAuthRow, standIns := [], harness := (true, "2ea36b4e4a2a92c458f5d62f7c8efcfaa5c003a5a8db4bf394e662864b5e2245"), looks := true }, kinds := [], alts := [], laidByText := true, laidKinds := [.handle, .sentinel], laidTests := true, laidLooks := .later }
def FnAuthCardSaid : Prop := Claim7.holds Tryz.pinned (.plain (OpenSpec.ofChange fnAuthSpec)) fnAuthCard

/-- THE TIED CARD OF 'laws.FnCapture'. -/
def fnCaptureCard : Claim7 := { stood := { row := fnCaptureRow, standIns := [], harness := (true, "2ea36b4e4a2a92c458f5d62f7c8efcfaa5c003a5a8db4bf394e662864b5e2245"), looks := true }, kinds := [], alts := [], laidByText := true, laidKinds := [.handle, .sentinel], laidTests := true, laidLooks := .later }
def FnCaptureCardSaid : Prop := Claim7.holds Tryz.pinned (.plain (OpenSpec.ofChange fnCaptureSpec)) fnCaptureCard

/-- THE TIED CARD OF 'laws.FnMore'. -/
def fnMoreCard : Claim7 := { stood := { row := fnMoreRow, standIns := [], harness := (true, "2ea36b4e4a2a92c458f5d62f7c8efcfaa5c003a5a8db4bf394e662864b5e2245"), looks := true }, kinds := [], alts := [], laidByText := true, laidKinds := [.handle, .sentinel], laidTests := true, laidLooks := .later }
def FnMoreCardSaid : Prop := Claim7.holds Tryz.pinned (.plain (OpenSpec.ofChange fnMoreSpec)) fnMoreCard

/-- THE TIED CARD OF 'laws.FnMove'. -/
def fnMoveCard : Claim7 := { stood := { row := fnMoveRow, standIns := [], harness := (true, "2ea36b4e4a2a92c458f5d62f7c8efcfaa5c003a5a8db4bf394e662864b5e2245"), looks := true }, kinds := [], alts := [], laidByText := true, laidKinds := [.handle, .sentinel], laidTests := true, laidLooks := .later }
def FnMoveCardSaid : Prop := Claim7.holds Tryz.pinned (.plain (OpenSpec.ofChange fnMoveSpec)) fnMoveCard

/-- THE TIED CARD OF 'laws.FnExactAuthorize'. -/
def fnExactAuthorizeCard : Claim7 := { stood := { row := fnExactAuthorizeRow, standIns := [], harness := (true, "2ea36b4e4a2a92c458f5d62f7c8efcfaa5c003a5a8db4bf394e662864b5e2245"), looks := true }, kinds := [], alts := [], laidByText := true, laidKinds := [.handle, .sentinel], laidTests := true, laidLooks := .later }
def FnExactAuthorizeCardSaid : Prop := Claim7.holds Tryz.pinned (.plain (OpenSpec.ofChange fnExactAuthorizeSpec)) fnExactAuthorizeCard

/-- THE TIED CARD OF 'laws.FnExactMore'. -/
def fnExactMoreCard : Claim7 := { stood := { row := fnExactMoreRow, standIns := [], harness := (true, "2ea36b4e4a2a92c458f5d62f7c8efcfaa5c003a5a8db4bf394e662864b5e2245"), looks := true }, kinds := [], alts := [], laidByText := true, laidKinds := [.handle, .sentinel], laidTests := true, laidLooks := .later }
def FnExactMoreCardSaid : Prop := Claim7.holds Tryz.pinned (.plain (OpenSpec.ofChange fnExactMoreSpec)) fnExactMoreCard

/-- THE TIED CARD OF 'laws.FnExactCapture'. -/
def fnExactCaptureCard : Claim7 := { stood := { row := fnExactCaptureRow, standIns := [], harness := (true, "2ea36b4e4a2a92c458f5d62f7c8efcfaa5c003a5a8db4bf394e662864b5e2245"), looks := true }, kinds := [], alts := [], laidByText := true, laidKinds := [.handle, .sentinel], laidTests := true, laidLooks := .later }
def FnExactCaptureCardSaid : Prop := Claim7.holds Tryz.pinned (.plain (OpenSpec.ofChange fnExactCaptureSpec)) fnExactCaptureCard

/-- THE TIED CARD OF 'laws.FnExactFree'. -/
def fnExactFreeCard : Claim7 := { stood := { row := fnExactFreeRow, standIns := [], harness := (true, "2ea36b4e4a2a92c458f5d62f7c8efcfaa5c003a5a8db4bf394e662864b5e2245"), looks := true }, kinds := [], alts := [], laidByText := true, laidKinds := [.handle, .sentinel], laidTests := true, laidLooks := .later }
def FnExactFreeCardSaid : Prop := Claim7.holds Tryz.pinned (.plain (OpenSpec.ofChange fnExactFreeSpec)) fnExactFreeCard

/-- THE TIED CARD OF 'laws.FnExactMove'. -/
def fnExactMoveCard : Claim7 := { stood := { row := fnExactMoveRow, standIns := [], harness := (true, "2ea36b4e4a2a92c458f5d62f7c8efcfaa5c003a5a8db4bf394e662864b5e2245"), looks := true }, kinds := [], alts := [], laidByText := true, laidKinds := [.handle, .sentinel], laidTests := true, laidLooks := .later }
def FnExactMoveCardSaid : Prop := Claim7.holds Tryz.pinned (.plain (OpenSpec.ofChange fnExactMoveSpec)) fnExactMoveCard

/-- THE TIED CARD OF 'laws.FnExactSweep'. -/
def fnExactSweepCard : Claim7 := { stood := { row := fnExactSweepRow, standIns := [], harness := (true, "2ea36b4e4a2a92c458f5d62f7c8efcfaa5c003a5a8db4bf394e662864b5e2245"), looks := true }, kinds := [], alts := [], laidByText := true, laidKinds := [.handle, .sentinel], laidTests := true, laidLooks := .later }
def FnExactSweepCardSaid : Prop := Claim7.holds Tryz.pinned (.plain (OpenSpec.ofChange fnExactSweepSpec)) fnExactSweepCard

/-- THE TIED CARD OF 'laws.FnExactAsk'. -/
def fnExactAskCard : Claim7 := { stood := { row := fnExactAskRow, standIns := [], harness := (true, "2ea36b4e4a2a92c458f5d62f7c8efcfaa5c003a5a8db4bf394e662864b5e2245"), looks := true }, kinds := [], alts := [], laidByText := true, laidKinds := [.data, .data, .data, .handle, .sentinel], laidTests := true, laidLooks := .later }
def FnExactAskCardSaid : Prop := Claim7.holds Tryz.pinned (.plain (OpenSpec.ofChange fnExactAskSpec)) fnExactAskCard

/-- THE SECOND FORM's CARD OF 'laws.FnDue'. -/
def fnDueUptoCard : Claim7 := { stood := { row := fnDueUptoRow, standIns := [], harness := (true, "2ea36b4e4a2a92c458f5d62f7c8efcfaa5c003a5a8db4bf394e662864b5e2245"), looks := true }, kinds := [], alts := [], laidByText := true, laidKinds := [.handle, .sentinel], laidTests := true, laidLooks := .later }
def FnDueUptoCardSaid : Prop := Claim7.holds Tryz.pinned (.plain (OpenSpec.upto fnDueSpec)) fnDueUptoCard

/-- THE SECOND FORM's CARD OF 'laws.FnAuth'. -/
def fnAuthUptoCard : Claim7 := { stood := { row := fnAuthUptoRow, standIns := [], harness := (true, "2ea36b4e4a2a92c458f5d62f7c8efcfaa5c003a5a8db4bf394e662864b5e2245"), looks := true }, kinds := [], alts := [], laidByText := true, laidKinds := [.handle, .sentinel], laidTests := true, laidLooks := .later }
def FnAuthUptoCardSaid : Prop := Claim7.holds Tryz.pinned (.plain (OpenSpec.upto fnAuthSpec)) fnAuthUptoCard

/-- THE SECOND FORM's CARD OF 'laws.FnCapture'. -/
def fnCaptureUptoCard : Claim7 := { stood := { row := fnCaptureUptoRow, standIns := [], harness := (true, "2ea36b4e4a2a92c458f5d62f7c8efcfaa5c003a5a8db4bf394e662864b5e2245"), looks := true }, kinds := [], alts := [], laidByText := true, laidKinds := [.handle, .sentinel], laidTests := true, laidLooks := .later }
def FnCaptureUptoCardSaid : Prop := Claim7.holds Tryz.pinned (.plain (OpenSpec.upto fnCaptureSpec)) fnCaptureUptoCard

/-- THE SECOND FORM's CARD OF 'laws.FnMore'. -/
def fnMoreUptoCard : Claim7 := { stood := { row := fnMoreUptoRow, standIns := [], harness := (true, "2ea36b4e4a2a92c458f5d62f7c8efcfaa5c003a5a8db4bf394e662864b5e2245"), looks := true }, kinds := [], alts := [], laidByText := true, laidKinds := [.handle, .sentinel], laidTests := true, laidLooks := .later }
def FnMoreUptoCardSaid : Prop := Claim7.holds Tryz.pinned (.plain (OpenSpec.upto fnMoreSpec)) fnMoreUptoCard

/-- THE SECOND FORM's CARD OF 'laws.FnMove'. -/
def fnMoveUptoCard : Claim7 := { stood := { row := fnMoveUptoRow, standIns := [], harness := (true, "2ea36b4e4a2a92c458f5d62f7c8efcfaa5c003a5a8db4bf394e662864b5e2245"), looks := true }, kinds := [], alts := [], laidByText := true, laidKinds := [.handle, .sentinel], laidTests := true, laidLooks := .later }
def FnMoveUptoCardSaid : Prop := Claim7.holds Tryz.pinned (.plain (OpenSpec.upto fnMoveSpec)) fnMoveUptoCard

/-- THE SECOND FORM's CARD OF 'laws.FnExactAuthorize'. -/
def fnExactAuthorizeUptoCard : Claim7 := { stood := { row := fnExactAuthorizeUptoRow, standIns := [], harness := (true, "2ea36b4e4a2a92c458f5d62f7c8efcfaa5c003a5a8db4bf394e662864b5e2245"), looks := true }, kinds := [], alts := [], laidByText := true, laidKinds := [.handle, .sentinel], laidTests := true, laidLooks := .later }
def FnExactAuthorizeUptoCardSaid : Prop := Claim7.holds Tryz.pinned (.plain (OpenSpec.upto fnExactAuthorizeSpec)) fnExactAuthorizeUptoCard

/-- THE SECOND FORM's CARD OF 'laws.FnExactMore'. -/
def fnExactMoreUptoCard : Claim7 := { stood := { row := fnExactMoreUptoRow, standIns := [], harness := (true, "2ea36b4e4a2a92c458f5d62f7c8efcfaa5c003a5a8db4bf394e662864b5e2245"), looks := true }, kinds := [], alts := [], laidByText := true, laidKinds := [.handle, .sentinel], laidTests := true, laidLooks := .later }
def FnExactMoreUptoCardSaid : Prop := Claim7.holds Tryz.pinned (.plain (OpenSpec.upto fnExactMoreSpec)) fnExactMoreUptoCard

/-- THE SECOND FORM's CARD OF 'laws.FnExactCapture'. -/
def fnExactCaptureUptoCard : Claim7 := { stood := { row := fnExactCaptureUptoRow, standIns := [], harness := (true, "2ea36b4e4a2a92c458f5d62f7c8efcfaa5c003a5a8db4bf394e662864b5e2245"), looks := true }, kinds := [], alts := [], laidByText := true, laidKinds := [.handle, .sentinel], laidTests := true, laidLooks := .later }
def FnExactCaptureUptoCardSaid : Prop := Claim7.holds Tryz.pinned (.plain (OpenSpec.upto fnExactCaptureSpec)) fnExactCaptureUptoCard

/-- THE SECOND FORM's CARD OF 'laws.FnExactFree'. -/
def fnExactFreeUptoCard : Claim7 := { stood := { row := fnExactFreeUptoRow, standIns := [], harness := (true, "2ea36b4e4a2a92c458f5d62f7c8efcfaa5c003a5a8db4bf394e662864b5e2245"), looks := true }, kinds := [], alts := [], laidByText := true, laidKinds := [.handle, .sentinel], laidTests := true, laidLooks := .later }
def FnExactFreeUptoCardSaid : Prop := Claim7.holds Tryz.pinned (.plain (OpenSpec.upto fnExactFreeSpec)) fnExactFreeUptoCard

/-- THE SECOND FORM's CARD OF 'laws.FnExactMove'. -/
def fnExactMoveUptoCard : Claim7 := { stood := { row := fnExactMoveUptoRow, standIns := [], harness := (true, "2ea36b4e4a2a92c458f5d62f7c8efcfaa5c003a5a8db4bf394e662864b5e2245"), looks := true }, kinds := [], alts := [], laidByText := true, laidKinds := [.handle, .sentinel], laidTests := true, laidLooks := .later }
def FnExactMoveUptoCardSaid : Prop := Claim7.holds Tryz.pinned (.plain (OpenSpec.upto fnExactMoveSpec)) fnExactMoveUptoCard

/-- THE SECOND FORM's CARD OF 'laws.FnExactSweep'. -/
def fnExactSweepUptoCard : Claim7 := { stood := { row := fnExactSweepUptoRow, standIns := [], harness := (true, "2ea36b4e4a2a92c458f5d62f7c8efcfaa5c003a5a8db4bf394e662864b5e2245"), looks := true }, kinds := [], alts := [], laidByText := true, laidKinds := [.handle, .sentinel], laidTests := true, laidLooks := .later }
def FnExactSweepUptoCardSaid : Prop := Claim7.holds Tryz.pinned (.plain (OpenSpec.upto fnExactSweepSpec)) fnExactSweepUptoCard

/-- THE SECOND FORM's CARD OF 'laws.FnExactAsk'. -/
def fnExactAskUptoCard : Claim7 := { stood := { row := fnExactAskUptoRow, standIns := [], harness := (true, "2ea36b4e4a2a92c458f5d62f7c8efcfaa5c003a5a8db4bf394e662864b5e2245"), looks := true }, kinds := [], alts := [], laidByText := true, laidKinds := [.data, .data, .data, .handle, .sentinel], laidTests := true, laidLooks := .later }
def FnExactAskUptoCardSaid : Prop := Claim7.holds Tryz.pinned (.plain (OpenSpec.upto fnExactAskSpec)) fnExactAskUptoCard
end Rows
end Go.Proofs.YtnmijppppcgobaaGreatDoor
