/-
  DERIVED. GIVEN WITH THE SEED: THE CARDS: each row of YtoakhkiiefiebabGreatDoorRows.lean that lists a variable, with what it lists TIED to the program's text (the seventh form; the later family's looks); each row that meets fmt, with fmt's text TOLD by the authors' own Lean function (tested against real Go, not proved from fmt's source: count such statements apart). THE CARD IS WHAT COUNTS. Prove the row's statement (the work); the ties are given (YtoakhkiiefiebabGreatDoorTie.lean); close each card by the builder's one call (the guide's Derived/Test/ToyasCard.lean, 'card_holds'). Laid BY PROGRAM, IN A SANDBOX (cutbox-door.mjs). By AI agents, Wed Nov 11 2026. No macro, syntax, notation, axiom, sorry.
-/
import Derived.Test.YtoakhkiiefiebabGreatDoorRows
import GoSem.ClaimSeven
namespace Go.Proofs.YtoakhkiiefiebabGreatDoor
namespace Rows

/-- THE TIED CARD OF 'brokerlaw14.InflightHandles'. -/
def inflightHandlesCard : Claim7 := { stood := { row := inflightHandlesRow, standIns := [], harness := (true, "8b7047a0aa87b211609e88f6699aa572d3b17c053e995cbe801238728522f5f7"), looks := false }, kinds := [], alts := [], laidByText := true, laidKinds := [.data, .pinned], laidTests := true, laidLooks := .later }
def InflightHandlesCardSaid : Prop := Claim7.holds Tryz.pinned (.plain (OpenSpec.ofChange inflightHandlesSpec)) inflightHandlesCard

/-- THE TIED CARD OF 'brokerlaw14.InflightRuns'. -/
def inflightRunsCard : Claim7 := { stood := { row := inflightRunsRow, standIns := [], harness := (true, "8b7047a0aa87b211609e88f6699aa572d3b17c053e995cbe801238728522f5f7"), looks := false }, kinds := [], alts := [], laidByText := true, laidKinds := [.data, .pinned], laidTests := true, laidLooks := .later }
def InflightRunsCardSaid : Prop := Claim7.holds Tryz.pinned (.plain (OpenSpec.ofChange inflightRunsSpec)) inflightRunsCard

/-- THE TIED CARD OF 'brokerlaw14.InflightAgain'. -/
def inflightAgainCard : Claim7 := { stood := { row := inflightAgainRow, standIns := [], harness := (true, "8b7047a0aa87b211609e88f6699aa572d3b17c053e995cbe801238728522f5f7"), looks := false }, kinds := [], alts := [], laidByText := true, laidKinds := [.data, .pinned], laidTests := true, laidLooks := .later }
def InflightAgainCardSaid : Prop := Claim7.holds Tryz.pinned (.plain (OpenSpec.ofChange inflightAgainSpec)) inflightAgainCard

/-- THE SECOND FORM's CARD OF 'brokerlaw14.InflightHandles'. -/
def inflightHandlesUptoCard : Claim7 := { stood := { row := inflightHandlesUptoRow, standIns := [], harness := (true, "8b7047a0aa87b211609e88f6699aa572d3b17c053e995cbe801238728522f5f7"), looks := false }, kinds := [], alts := [], laidByText := true, laidKinds := [.data, .pinned], laidTests := true, laidLooks := .later }
def InflightHandlesUptoCardSaid : Prop := Claim7.holds Tryz.pinned (.plain (OpenSpec.upto inflightHandlesSpec)) inflightHandlesUptoCard

/-- THE SECOND FORM's CARD OF 'brokerlaw14.InflightRuns'. -/
def inflightRunsUptoCard : Claim7 := { stood := { row := inflightRunsUptoRow, standIns := [], harness := (true, "8b7047a0aa87b211609e88f6699aa572d3b17c053e995cbe801238728522f5f7"), looks := false }, kinds := [], alts := [], laidByText := true, laidKinds := [.data, .pinned], laidTests := true, laidLooks := .later }
def InflightRunsUptoCardSaid : Prop := Claim7.holds Tryz.pinned (.plain (OpenSpec.upto inflightRunsSpec)) inflightRunsUptoCard

/-- THE SECOND FORM's CARD OF 'brokerlaw14.InflightAgain'. -/
def inflightAgainUptoCard : Claim7 := { stood := { row := inflightAgainUptoRow, standIns := [], harness := (true, "8b7047a0aa87b211609e88f6699aa572d3b17c053e995cbe801238728522f5f7"), looks := false }, kinds := [], alts := [], laidByText := true, laidKinds := [.data, .pinned], laidTests := true, laidLooks := .later }
def InflightAgainUptoCardSaid : Prop := Claim7.holds Tryz.pinned (.plain (OpenSpec.upto inflightAgainSpec)) inflightAgainUptoCard
end Rows
end Go.Proofs.YtoakhkiiefiebabGreatDoor
