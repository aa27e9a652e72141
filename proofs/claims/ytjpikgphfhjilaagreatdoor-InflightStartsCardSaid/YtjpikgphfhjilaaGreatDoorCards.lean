/-
  DERIVED. GIVEN WITH THE SEED: THE CARDS: each row of YtjpikgphfhjilaaGreatDoorRows.lean that lists a variable, with what it lists TIED to the program's text (the seventh form; the later family's looks); each row that meets fmt, with fmt's text TOLD by the authors' own Lean function (tested against real Go, not proved from fmt's source: count such statements apart). THE CARD IS WHAT COUNTS. Prove the row's statement (the work); the ties are given (YtjpikgphfhjilaaGreatDoorTie.lean); close each card by the builder's one call (the guide's Derived/Test/ToyasCard.lean, 'card_holds'). Laid BY PROGRAM, IN A SANDBOX (cutbox-door.mjs). By AI agents, Wed Nov 11 2026. No macro, syntax, notation, axiom, sorry.
-/
import Derived.Test.YtjpikgphfhjilaaGreatDoorRows
import GoSem.ClaimSeven
namespace Go.Proofs.YtjpikgphfhjilaaGreatDoor
namespace Rows

/-- THE TIED CARD OF 'brokerlaw14.InflightStarts'. -/
def inflightStartsCard : Claim7 := { stood := { row := inflightStartsRow, standIns := [], harness := (true, "d26cf616c6a980e861c00f1a4ed61c3e10fd512d9796c6df53173420b2d71f0d"), looks := false }, kinds := [], alts := [], laidByText := true, laidKinds := [.data, .pinned], laidTests := true, laidLooks := .later }
def InflightStartsCardSaid : Prop := Claim7.holds Tryz.pinned (.plain (OpenSpec.ofChange inflightStartsSpec)) inflightStartsCard

/-- THE SECOND FORM's CARD OF 'brokerlaw14.InflightStarts'. -/
def inflightStartsUptoCard : Claim7 := { stood := { row := inflightStartsUptoRow, standIns := [], harness := (true, "d26cf616c6a980e861c00f1a4ed61c3e10fd512d9796c6df53173420b2d71f0d"), looks := false }, kinds := [], alts := [], laidByText := true, laidKinds := [.data, .pinned], laidTests := true, laidLooks := .later }
def InflightStartsUptoCardSaid : Prop := Claim7.holds Tryz.pinned (.plain (OpenSpec.upto inflightStartsSpec)) inflightStartsUptoCard
end Rows
end Go.Proofs.YtjpikgphfhjilaaGreatDoor
