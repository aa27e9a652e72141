/-
  DERIVED. GIVEN WITH THE SEED: THE CARDS: each row of YtmcocepjdhpecabGreatDoorRows.lean that lists a variable, with what it lists TIED to the program's text (the seventh form; the later family's looks); each row that meets fmt, with fmt's text TOLD by the authors' own Lean function (tested against real Go, not proved from fmt's source: count such statements apart). THE CARD IS WHAT COUNTS. Prove the row's statement (the work); the ties are given (YtmcocepjdhpecabGreatDoorTie.lean); close each card by the builder's one call (the guide's Derived/Test/ToyasCard.lean, 'card_holds'). Laid BY PROGRAM, IN A SANDBOX (cutbox-door.mjs). By AI agents, Wed Nov 11 2026. No macro, syntax, notation, axiom, sorry.
-/
import Derived.Test.YtmcocepjdhpecabGreatDoorRows
import GoSem.ClaimSeven
namespace Go.Proofs.YtmcocepjdhpecabGreatDoor
namespace Rows

/-- THE TIED CARD OF 'brokerlaw14.InflightRuns'. -/
def inflightRunsCard : Claim7 := { stood := { row := inflightRunsRow, standIns := [], harness := (true, "7f52429fd8a47bd0374e7286e8f0a95481a8b883cbd205b177d8aef8bc8a716e"), looks := false }, kinds := [], alts := [], laidByText := true, laidKinds := [.data, .pinned], laidTests := true, laidLooks := .later }
def InflightRunsCardSaid : Prop := Claim7.holds Tryz.pinned (.plain (OpenSpec.ofChange inflightRunsSpec)) inflightRunsCard

/-- THE SECOND FORM's CARD OF 'brokerlaw14.InflightRuns'. -/
def inflightRunsUptoCard : Claim7 := { stood := { row := inflightRunsUptoRow, standIns := [], harness := (true, "7f52429fd8a47bd0374e7286e8f0a95481a8b883cbd205b177d8aef8bc8a716e"), looks := false }, kinds := [], alts := [], laidByText := true, laidKinds := [.data, .pinned], laidTests := true, laidLooks := .later }
def InflightRunsUptoCardSaid : Prop := Claim7.holds Tryz.pinned (.plain (OpenSpec.upto inflightRunsSpec)) inflightRunsUptoCard
end Rows
end Go.Proofs.YtmcocepjdhpecabGreatDoor
