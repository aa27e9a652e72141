/-
  DERIVED. GIVEN WITH THE SEED: THE CARDS: each row of YtjadinblfbhgaaaDoorRows.lean that lists a variable, with what it lists TIED to the program's text (the seventh form; the later family's looks); each row that meets fmt, with fmt's text TOLD by the authors' own Lean function (tested against real Go, not proved from fmt's source: count such statements apart). THE CARD IS WHAT COUNTS. Prove the row's statement (the work); the ties are given (YtjadinblfbhgaaaDoorTie.lean); close each card by the builder's one call (the guide's Derived/Test/ToyasCard.lean, 'card_holds'). Laid BY PROGRAM, IN A SANDBOX (cutbox-door.mjs). By AI agents, Wed Nov 11 2026. No macro, syntax, notation, axiom, sorry.
-/
import Derived.Test.YtjadinblfbhgaaaDoorRows
import GoSem.ClaimSeven
namespace Go.Proofs.YtjadinblfbhgaaaDoor
namespace Rows

/-- THE TIED CARD OF 'brokerlaw14.InflightChecks'. -/
def inflightChecksCard : Claim7 := { stood := { row := inflightChecksRow, standIns := [], harness := (true, "c6ba536287edabe89e0a566cdbba70982cf14319e7d0411257bf12458c800b89"), looks := false }, kinds := [], alts := [], laidByText := true, laidKinds := [.data, .pinned], laidTests := true, laidLooks := .later }
def InflightChecksCardSaid : Prop := Claim7.holds Tryd.pinned (.plain (OpenSpec.ofChange inflightChecksSpec)) inflightChecksCard

/-- THE TIED CARD OF 'brokerlaw14.InflightTells'. -/
def inflightTellsCard : Claim7 := { stood := { row := inflightTellsRow, standIns := [], harness := (true, "c6ba536287edabe89e0a566cdbba70982cf14319e7d0411257bf12458c800b89"), looks := false }, kinds := [], alts := [], laidByText := true, laidKinds := [.data, .pinned], laidTests := true, laidLooks := .later }
def InflightTellsCardSaid : Prop := Claim7.holds Tryd.pinned (.plain (OpenSpec.ofChange inflightTellsSpec)) inflightTellsCard

/-- THE TIED CARD OF 'brokerlaw14.InflightOnce'. -/
def inflightOnceCard : Claim7 := { stood := { row := inflightOnceRow, standIns := [], harness := (true, "c6ba536287edabe89e0a566cdbba70982cf14319e7d0411257bf12458c800b89"), looks := false }, kinds := [], alts := [], laidByText := true, laidKinds := [.data, .pinned], laidTests := true, laidLooks := .later }
def InflightOnceCardSaid : Prop := Claim7.holds Tryd.pinned (.plain (OpenSpec.ofChange inflightOnceSpec)) inflightOnceCard

/-- THE SECOND FORM's CARD OF 'brokerlaw14.InflightChecks'. -/
def inflightChecksUptoCard : Claim7 := { stood := { row := inflightChecksUptoRow, standIns := [], harness := (true, "c6ba536287edabe89e0a566cdbba70982cf14319e7d0411257bf12458c800b89"), looks := false }, kinds := [], alts := [], laidByText := true, laidKinds := [.data, .pinned], laidTests := true, laidLooks := .later }
def InflightChecksUptoCardSaid : Prop := Claim7.holds Tryd.pinned (.plain (OpenSpec.upto inflightChecksSpec)) inflightChecksUptoCard

/-- THE SECOND FORM's CARD OF 'brokerlaw14.InflightTells'. -/
def inflightTellsUptoCard : Claim7 := { stood := { row := inflightTellsUptoRow, standIns := [], harness := (true, "c6ba536287edabe89e0a566cdbba70982cf14319e7d0411257bf12458c800b89"), looks := false }, kinds := [], alts := [], laidByText := true, laidKinds := [.data, .pinned], laidTests := true, laidLooks := .later }
def InflightTellsUptoCardSaid : Prop := Claim7.holds Tryd.pinned (.plain (OpenSpec.upto inflightTellsSpec)) inflightTellsUptoCard

/-- THE SECOND FORM's CARD OF 'brokerlaw14.InflightOnce'. -/
def inflightOnceUptoCard : Claim7 := { stood := { row := inflightOnceUptoRow, standIns := [], harness := (true, "c6ba536287edabe89e0a566cdbba70982cf14319e7d0411257bf12458c800b89"), looks := false }, kinds := [], alts := [], laidByText := true, laidKinds := [.data, .pinned], laidTests := true, laidLooks := .later }
def InflightOnceUptoCardSaid : Prop := Claim7.holds Tryd.pinned (.plain (OpenSpec.upto inflightOnceSpec)) inflightOnceUptoCard
end Rows
end Go.Proofs.YtjadinblfbhgaaaDoor
