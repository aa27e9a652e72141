/-
  DERIVED. GIVEN WITH THE SEED: THE CARDS: each row of YtlkkdompcbdbeaaDoorRows.lean that lists a variable, with what it lists TIED to the program's text (the seventh form; the later family's looks); each row that meets fmt, with fmt's text TOLD by the authors' own Lean function (tested against real Go, not proved from fmt's source: count such statements apart). THE CARD IS WHAT COUNTS. Prove the row's statement (the work); the ties are given (YtlkkdompcbdbeaaDoorTie.lean); close each card by the builder's one call (the guide's Derived/Test/ToyasCard.lean, 'card_holds'). Laid BY PROGRAM, IN A SANDBOX (cutbox-door.mjs). By AI agents, Wed Nov 11 2026. No macro, syntax, notation, axiom, sorry.
-/
import Derived.Test.YtlkkdompcbdbeaaDoorRows
import GoSem.ClaimSeven
namespace Go.Proofs.YtlkkdompcbdbeaaDoor
namespace Rows

/-- THE TIED CARD OF 'brokerlaw05.MessageProps'. -/
def messagePropsCard : Claim7 := { stood := { row := messagePropsRow, standIns := [], harness := (true, "4ffc5eac3d45bcb84d3651ec08c0d05c0a22c1412c9a620972bfa824950a82f6"), looks := false }, kinds := [], alts := [], laidByText := true, laidKinds := [.data, .pinned], laidTests := true, laidLooks := .later }
def MessagePropsCardSaid : Prop := Claim7.holds Tryd.pinned (.plain (OpenSpec.ofChange messagePropsSpec)) messagePropsCard

/-- THE TIED CARD OF 'brokerlaw05.MessageGets'. -/
def messageGetsCard : Claim7 := { stood := { row := messageGetsRow, standIns := [], harness := (true, "4ffc5eac3d45bcb84d3651ec08c0d05c0a22c1412c9a620972bfa824950a82f6"), looks := false }, kinds := [], alts := [], laidByText := true, laidKinds := [.data, .pinned], laidTests := true, laidLooks := .later }
def MessageGetsCardSaid : Prop := Claim7.holds Tryd.pinned (.plain (OpenSpec.ofChange messageGetsSpec)) messageGetsCard

/-- THE TIED CARD OF 'brokerlaw05.MessageSets'. -/
def messageSetsCard : Claim7 := { stood := { row := messageSetsRow, standIns := [], harness := (true, "4ffc5eac3d45bcb84d3651ec08c0d05c0a22c1412c9a620972bfa824950a82f6"), looks := false }, kinds := [], alts := [], laidByText := true, laidKinds := [.data, .pinned], laidTests := true, laidLooks := .later }
def MessageSetsCardSaid : Prop := Claim7.holds Tryd.pinned (.plain (OpenSpec.ofChange messageSetsSpec)) messageSetsCard

/-- THE TIED CARD OF 'brokerlaw05.MessageChecks'. -/
def messageChecksCard : Claim7 := { stood := { row := messageChecksRow, standIns := [], harness := (true, "4ffc5eac3d45bcb84d3651ec08c0d05c0a22c1412c9a620972bfa824950a82f6"), looks := false }, kinds := [], alts := [], laidByText := true, laidKinds := [.data, .pinned], laidTests := true, laidLooks := .later }
def MessageChecksCardSaid : Prop := Claim7.holds Tryd.pinned (.plain (OpenSpec.ofChange messageChecksSpec)) messageChecksCard

/-- THE TIED CARD OF 'brokerlaw05.MessageSame'. -/
def messageSameCard : Claim7 := { stood := { row := messageSameRow, standIns := [], harness := (true, "4ffc5eac3d45bcb84d3651ec08c0d05c0a22c1412c9a620972bfa824950a82f6"), looks := false }, kinds := [], alts := [], laidByText := true, laidKinds := [.data, .pinned], laidTests := true, laidLooks := .later }
def MessageSameCardSaid : Prop := Claim7.holds Tryd.pinned (.plain (OpenSpec.ofChange messageSameSpec)) messageSameCard

/-- THE TIED CARD OF 'brokerlaw05.MessagePuts'. -/
def messagePutsCard : Claim7 := { stood := { row := messagePutsRow, standIns := [], harness := (true, "4ffc5eac3d45bcb84d3651ec08c0d05c0a22c1412c9a620972bfa824950a82f6"), looks := false }, kinds := [], alts := [], laidByText := true, laidKinds := [.data, .pinned], laidTests := true, laidLooks := .later }
def MessagePutsCardSaid : Prop := Claim7.holds Tryd.pinned (.plain (OpenSpec.ofChange messagePutsSpec)) messagePutsCard

/-- THE TIED CARD OF 'brokerlaw05.MessageTakes'. -/
def messageTakesCard : Claim7 := { stood := { row := messageTakesRow, standIns := [], harness := (true, "4ffc5eac3d45bcb84d3651ec08c0d05c0a22c1412c9a620972bfa824950a82f6"), looks := false }, kinds := [], alts := [], laidByText := true, laidKinds := [.data, .pinned], laidTests := true, laidLooks := .later }
def MessageTakesCardSaid : Prop := Claim7.holds Tryd.pinned (.plain (OpenSpec.ofChange messageTakesSpec)) messageTakesCard

/-- THE TIED CARD OF 'brokerlaw05.MessageBack'. -/
def messageBackCard : Claim7 := { stood := { row := messageBackRow, standIns := [], harness := (true, "4ffc5eac3d45bcb84d3651ec08c0d05c0a22c1412c9a620972bfa824950a82f6"), looks := false }, kinds := [], alts := [], laidByText := true, laidKinds := [.data, .pinned], laidTests := true, laidLooks := .later }
def MessageBackCardSaid : Prop := Claim7.holds Tryd.pinned (.plain (OpenSpec.ofChange messageBackSpec)) messageBackCard

/-- THE TIED CARD OF 'brokerlaw05.MessageOnly'. -/
def messageOnlyCard : Claim7 := { stood := { row := messageOnlyRow, standIns := [], harness := (true, "4ffc5eac3d45bcb84d3651ec08c0d05c0a22c1412c9a620972bfa824950a82f6"), looks := false }, kinds := [], alts := [], laidByText := true, laidKinds := [.data, .pinned], laidTests := true, laidLooks := .later }
def MessageOnlyCardSaid : Prop := Claim7.holds Tryd.pinned (.plain (OpenSpec.ofChange messageOnlySpec)) messageOnlyCard

/-- THE SECOND FORM's CARD OF 'brokerlaw05.MessageProps'. -/
def messagePropsUptoCard : Claim7 := { stood := { row := messagePropsUptoRow, standIns := [], harness := (true, "4ffc5eac3d45bcb84d3651ec08c0d05c0a22c1412c9a620972bfa824950a82f6"), looks := false }, kinds := [], alts := [], laidByText := true, laidKinds := [.data, .pinned], laidTests := true, laidLooks := .later }
def MessagePropsUptoCardSaid : Prop := Claim7.holds Tryd.pinned (.plain (OpenSpec.upto messagePropsSpec)) messagePropsUptoCard

/-- THE SECOND FORM's CARD OF 'brokerlaw05.MessageGets'. -/
def messageGetsUptoCard : Claim7 := { stood := { row := messageGetsUptoRow, standIns := [], harness := (true, "4ffc5eac3d45bcb84d3651ec08c0d05c0a22c1412c9a620972bfa824950a82f6"), looks := false }, kinds := [], alts := [], laidByText := true, laidKinds := [.data, .pinned], laidTests := true, laidLooks := .later }
def MessageGetsUptoCardSaid : Prop := Claim7.holds Tryd.pinned (.plain (OpenSpec.upto messageGetsSpec)) messageGetsUptoCard

/-- THE SECOND FORM's CARD OF 'brokerlaw05.MessageSets'. -/
def messageSetsUptoCard : Claim7 := { stood := { row := messageSetsUptoRow, standIns := [], harness := (true, "4ffc5eac3d45bcb84d3651ec08c0d05c0a22c1412c9a620972bfa824950a82f6"), looks := false }, kinds := [], alts := [], laidByText := true, laidKinds := [.data, .pinned], laidTests := true, laidLooks := .later }
def MessageSetsUptoCardSaid : Prop := Claim7.holds Tryd.pinned (.plain (OpenSpec.upto messageSetsSpec)) messageSetsUptoCard

/-- THE SECOND FORM's CARD OF 'brokerlaw05.MessageChecks'. -/
def messageChecksUptoCard : Claim7 := { stood := { row := messageChecksUptoRow, standIns := [], harness := (true, "4ffc5eac3d45bcb84d3651ec08c0d05c0a22c1412c9a620972bfa824950a82f6"), looks := false }, kinds := [], alts := [], laidByText := true, laidKinds := [.data, .pinned], laidTests := true, laidLooks := .later }
def MessageChecksUptoCardSaid : Prop := Claim7.holds Tryd.pinned (.plain (OpenSpec.upto messageChecksSpec)) messageChecksUptoCard

/-- THE SECOND FORM's CARD OF 'brokerlaw05.MessageSame'. -/
def messageSameUptoCard : Claim7 := { stood := { row := messageSameUptoRow, standIns := [], harness := (true, "4ffc5eac3d45bcb84d3651ec08c0d05c0a22c1412c9a620972bfa824950a82f6"), looks := false }, kinds := [], alts := [], laidByText := true, laidKinds := [.data, .pinned], laidTests := true, laidLooks := .later }
def MessageSameUptoCardSaid : Prop := Claim7.holds Tryd.pinned (.plain (OpenSpec.upto messageSameSpec)) messageSameUptoCard

/-- THE SECOND FORM's CARD OF 'brokerlaw05.MessagePuts'. -/
def messagePutsUptoCard : Claim7 := { stood := { row := messagePutsUptoRow, standIns := [], harness := (true, "4ffc5eac3d45bcb84d3651ec08c0d05c0a22c1412c9a620972bfa824950a82f6"), looks := false }, kinds := [], alts := [], laidByText := true, laidKinds := [.data, .pinned], laidTests := true, laidLooks := .later }
def MessagePutsUptoCardSaid : Prop := Claim7.holds Tryd.pinned (.plain (OpenSpec.upto messagePutsSpec)) messagePutsUptoCard

/-- THE SECOND FORM's CARD OF 'brokerlaw05.MessageTakes'. -/
def messageTakesUptoCard : Claim7 := { stood := { row := messageTakesUptoRow, standIns := [], harness := (true, "4ffc5eac3d45bcb84d3651ec08c0d05c0a22c1412c9a620972bfa824950a82f6"), looks := false }, kinds := [], alts := [], laidByText := true, laidKinds := [.data, .pinned], laidTests := true, laidLooks := .later }
def MessageTakesUptoCardSaid : Prop := Claim7.holds Tryd.pinned (.plain (OpenSpec.upto messageTakesSpec)) messageTakesUptoCard

/-- THE SECOND FORM's CARD OF 'brokerlaw05.MessageBack'. -/
def messageBackUptoCard : Claim7 := { stood := { row := messageBackUptoRow, standIns := [], harness := (true, "4ffc5eac3d45bcb84d3651ec08c0d05c0a22c1412c9a620972bfa824950a82f6"), looks := false }, kinds := [], alts := [], laidByText := true, laidKinds := [.data, .pinned], laidTests := true, laidLooks := .later }
def MessageBackUptoCardSaid : Prop := Claim7.holds Tryd.pinned (.plain (OpenSpec.upto messageBackSpec)) messageBackUptoCard

/-- THE SECOND FORM's CARD OF 'brokerlaw05.MessageOnly'. -/
def messageOnlyUptoCard : Claim7 := { stood := { row := messageOnlyUptoRow, standIns := [], harness := (true, "4ffc5eac3d45bcb84d3651ec08c0d05c0a22c1412c9a620972bfa824950a82f6"), looks := false }, kinds := [], alts := [], laidByText := true, laidKinds := [.data, .pinned], laidTests := true, laidLooks := .later }
def MessageOnlyUptoCardSaid : Prop := Claim7.holds Tryd.pinned (.plain (OpenSpec.upto messageOnlySpec)) messageOnlyUptoCard
end Rows
end Go.Proofs.YtlkkdompcbdbeaaDoor
