/-
  DERIVED. GIVEN WITH THE SEED: THE CARDS: each row of YtdoginjdlckbpabDoorRows.lean that lists a variable, with what it lists TIED to the program's text (the seventh form; the later family's looks); each row that meets fmt, with fmt's text TOLD by the authors' own Lean function (tested against real Go, not proved from fmt's source: count such statements apart). THE CARD IS WHAT COUNTS. Prove the row's statement (the work); the ties are given (YtdoginjdlckbpabDoorTie.lean); close each card by the builder's one call (the guide's Derived/Test/ToyasCard.lean, 'card_holds'). Laid BY PROGRAM, IN A SANDBOX (cutbox-door.mjs). By AI agents, Wed Nov 11 2026. No macro, syntax, notation, axiom, sorry.
-/
import Derived.Test.YtdoginjdlckbpabDoorRows
import GoSem.ClaimSeven
namespace Go.Proofs.YtdoginjdlckbpabDoor
namespace Rows

/-- THE TIED CARD OF 'brokerlaw02.MatchLiteral'. -/
def matchLiteralCard : Claim7 := { stood := { row := matchLiteralRow, standIns := [], harness := (true, "a2e9980e53f7f69cf4839289094a53ab8d5cf6ad3189c817ecbf07bb72dc7bf1"), looks := false }, kinds := [], alts := [], laidByText := true, laidKinds := [.data, .pinned], laidTests := true, laidLooks := .later }
def MatchLiteralCardSaid : Prop := Claim7.holds Tryd.pinned (.plain (OpenSpec.ofChange matchLiteralSpec)) matchLiteralCard

/-- THE SECOND FORM's CARD OF 'brokerlaw02.MatchLiteral'. -/
def matchLiteralUptoCard : Claim7 := { stood := { row := matchLiteralUptoRow, standIns := [], harness := (true, "a2e9980e53f7f69cf4839289094a53ab8d5cf6ad3189c817ecbf07bb72dc7bf1"), looks := false }, kinds := [], alts := [], laidByText := true, laidKinds := [.data, .pinned], laidTests := true, laidLooks := .later }
def MatchLiteralUptoCardSaid : Prop := Claim7.holds Tryd.pinned (.plain (OpenSpec.upto matchLiteralSpec)) matchLiteralUptoCard
end Rows
end Go.Proofs.YtdoginjdlckbpabDoor
