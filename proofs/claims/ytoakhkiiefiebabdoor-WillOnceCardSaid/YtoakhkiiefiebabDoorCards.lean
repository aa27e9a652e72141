/-
  DERIVED. GIVEN WITH THE SEED: THE CARDS: each row of YtoakhkiiefiebabDoorRows.lean that lists a variable, with what it lists TIED to the program's text (the seventh form; the later family's looks); each row that meets fmt, with fmt's text TOLD by the authors' own Lean function (tested against real Go, not proved from fmt's source: count such statements apart). THE CARD IS WHAT COUNTS. Prove the row's statement (the work); the ties are given (YtoakhkiiefiebabDoorTie.lean); close each card by the builder's one call (the guide's Derived/Test/ToyasCard.lean, 'card_holds'). Laid BY PROGRAM, IN A SANDBOX (cutbox-door.mjs). By AI agents, Wed Nov 11 2026. No macro, syntax, notation, axiom, sorry.
-/
import Derived.Test.YtoakhkiiefiebabDoorRows
import GoSem.ClaimSeven
namespace Go.Proofs.YtoakhkiiefiebabDoor
namespace Rows

/-- THE TIED CARD OF 'brokerlaw18.WillRuns'. -/
def willRunsCard : Claim7 := { stood := { row := willRunsRow, standIns := [], harness := (true, "78cfd00cca103f760b021e4de7ee85a047cdc5394b35f79fcdd2dd523314a526"), looks := false }, kinds := [], alts := [], laidByText := true, laidKinds := [.data, .pinned], laidTests := true, laidLooks := .later }
def WillRunsCardSaid : Prop := Claim7.holds Tryd.pinned (.plain (OpenSpec.ofChange willRunsSpec)) willRunsCard

/-- THE TIED CARD OF 'brokerlaw18.WillOnce'. -/
def willOnceCard : Claim7 := { stood := { row := willOnceRow, standIns := [], harness := (true, "78cfd00cca103f760b021e4de7ee85a047cdc5394b35f79fcdd2dd523314a526"), looks := false }, kinds := [], alts := [], laidByText := true, laidKinds := [.data, .pinned], laidTests := true, laidLooks := .later }
def WillOnceCardSaid : Prop := Claim7.holds Tryd.pinned (.plain (OpenSpec.ofChange willOnceSpec)) willOnceCard

/-- THE SECOND FORM's CARD OF 'brokerlaw18.WillRuns'. -/
def willRunsUptoCard : Claim7 := { stood := { row := willRunsUptoRow, standIns := [], harness := (true, "78cfd00cca103f760b021e4de7ee85a047cdc5394b35f79fcdd2dd523314a526"), looks := false }, kinds := [], alts := [], laidByText := true, laidKinds := [.data, .pinned], laidTests := true, laidLooks := .later }
def WillRunsUptoCardSaid : Prop := Claim7.holds Tryd.pinned (.plain (OpenSpec.upto willRunsSpec)) willRunsUptoCard

/-- THE SECOND FORM's CARD OF 'brokerlaw18.WillOnce'. -/
def willOnceUptoCard : Claim7 := { stood := { row := willOnceUptoRow, standIns := [], harness := (true, "78cfd00cca103f760b021e4de7ee85a047cdc5394b35f79fcdd2dd523314a526"), looks := false }, kinds := [], alts := [], laidByText := true, laidKinds := [.data, .pinned], laidTests := true, laidLooks := .later }
def WillOnceUptoCardSaid : Prop := Claim7.holds Tryd.pinned (.plain (OpenSpec.upto willOnceSpec)) willOnceUptoCard
end Rows
end Go.Proofs.YtoakhkiiefiebabDoor
