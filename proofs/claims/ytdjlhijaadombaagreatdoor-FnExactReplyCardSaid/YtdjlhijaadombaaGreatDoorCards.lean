/-
  DERIVED. GIVEN WITH THE SEED: THE CARDS: each row of YtdjlhijaadombaaGreatDoorRows.lean that lists a variable, with what it lists TIED to the program's text (the seventh form; the later family's looks); each row that meets fmt, with fmt's text TOLD by the authors' own Lean function (tested against real Go, not proved from fmt's source: count such statements apart). THE CARD IS WHAT COUNTS. Prove the row's statement (the work); the ties are given (YtdjlhijaadombaaGreatDoorTie.lean); close each card by the builder's one call (the guide's Derived/Test/ToyasCard.lean, 'card_holds'). Laid BY PROGRAM, IN A SANDBOX (cutbox-door.mjs). By AI agents, Wed Nov 11 2026. No macro, syntax, notation, axiom, sorry.
-/
import Derived.Test.YtdjlhijaadombaaGreatDoorRows
import GoSem.ClaimSeven
namespace Go.Proofs.YtdjlhijaadombaaGreatDoor
namespace Rows

/-- THE TIED CARD OF 'laws.FnExactReply'. -/
def fnExactReplyCard : Claim7 := { stood := { row := fnExactReplyRow, standIns := [], harness := (true, "a73d6726c7b3a95198126876afe1835f4de3f94a2d4ed49e8918d4e06dd02470"), looks := false }, kinds := [], alts := [], laidByText := true, laidKinds := [.data, .data, .data, .sentinel, .data], laidTests := true, laidLooks := .later }
def FnExactReplyCardSaid : Prop := Claim7.holds Tryz.pinned (.plain (OpenSpec.ofChange fnExactReplySpec)) fnExactReplyCard

/-- THE SECOND FORM's CARD OF 'laws.FnExactReply'. -/
def fnExactReplyUptoCard : Claim7 := { stood := { row := fnExactReplyUptoRow, standIns := [], harness := (true, "a73d6726c7b3a95198126876afe1835f4de3f94a2d4ed49e8918d4e06dd02470"), looks := false }, kinds := [], alts := [], laidByText := true, laidKinds := [.data, .data, .data, .sentinel, .data], laidTests := true, laidLooks := .later }
def FnExactReplyUptoCardSaid : Prop := Claim7.holds Tryz.pinned (.plain (OpenSpec.upto fnExactReplySpec)) fnExactReplyUptoCard
end Rows
end Go.Proofs.YtdjlhijaadombaaGreatDoor
