/-
  DERIVED. GIVEN WITH THE SEED: THE CARDS: each row of YtgnbiicfabldbaaDoorRows.lean that lists a variable, with what it lists TIED to the program's text (the seventh form; the later family's looks); each row that meets fmt, with fmt's text TOLD by the authors' own Lean function (tested against real Go, not proved from fmt's source: count such statements apart). THE CARD IS WHAT COUNTS. Prove the row's statement (the work); the ties are given (YtgnbiicfabldbaaDoorTie.lean); close each card by the builder's one call (the guide's Derived/Test/ToyasCard.lean, 'card_holds'). Laid BY PROGRAM, IN A SANDBOX (cutbox-door.mjs). By AI agents, Wed Nov 11 2026. No macro, syntax, notation, axiom, sorry.
-/
import Derived.Test.YtgnbiicfabldbaaDoorRows
import GoSem.ClaimSeven
namespace Go.Proofs.YtgnbiicfabldbaaDoor
namespace Rows

/-- THE TIED CARD OF 'brokerlaw18.WillChecks'. -/
def willChecksCard : Claim7 := { stood := { row := willChecksRow, standIns := [], harness := (true, "abdab9b0bf2e86e7395c3b9016e9dcfe97b279a6ffd6d50233696367297fd84a"), looks := false }, kinds := [], alts := [], laidByText := true, laidKinds := [.data, .pinned], laidTests := true, laidLooks := .later }
def WillChecksCardSaid : Prop := Claim7.holds Tryd.pinned (.plain (OpenSpec.ofChange willChecksSpec)) willChecksCard

/-- THE TIED CARD OF 'brokerlaw18.WillArms'. -/
def willArmsCard : Claim7 := { stood := { row := willArmsRow, standIns := [], harness := (true, "abdab9b0bf2e86e7395c3b9016e9dcfe97b279a6ffd6d50233696367297fd84a"), looks := false }, kinds := [], alts := [], laidByText := true, laidKinds := [.data, .pinned], laidTests := true, laidLooks := .later }
def WillArmsCardSaid : Prop := Claim7.holds Tryd.pinned (.plain (OpenSpec.ofChange willArmsSpec)) willArmsCard

/-- THE TIED CARD OF 'brokerlaw18.WillCancels'. -/
def willCancelsCard : Claim7 := { stood := { row := willCancelsRow, standIns := [], harness := (true, "abdab9b0bf2e86e7395c3b9016e9dcfe97b279a6ffd6d50233696367297fd84a"), looks := false }, kinds := [], alts := [], laidByText := true, laidKinds := [.data, .pinned], laidTests := true, laidLooks := .later }
def WillCancelsCardSaid : Prop := Claim7.holds Tryd.pinned (.plain (OpenSpec.ofChange willCancelsSpec)) willCancelsCard

/-- THE TIED CARD OF 'brokerlaw18.WillTakes'. -/
def willTakesCard : Claim7 := { stood := { row := willTakesRow, standIns := [], harness := (true, "abdab9b0bf2e86e7395c3b9016e9dcfe97b279a6ffd6d50233696367297fd84a"), looks := false }, kinds := [], alts := [], laidByText := true, laidKinds := [.data, .pinned], laidTests := true, laidLooks := .later }
def WillTakesCardSaid : Prop := Claim7.holds Tryd.pinned (.plain (OpenSpec.ofChange willTakesSpec)) willTakesCard

/-- THE TIED CARD OF 'brokerlaw18.WillNext'. -/
def willNextCard : Claim7 := { stood := { row := willNextRow, standIns := [], harness := (true, "abdab9b0bf2e86e7395c3b9016e9dcfe97b279a6ffd6d50233696367297fd84a"), looks := false }, kinds := [], alts := [], laidByText := true, laidKinds := [.data, .pinned], laidTests := true, laidLooks := .later }
def WillNextCardSaid : Prop := Claim7.holds Tryd.pinned (.plain (OpenSpec.ofChange willNextSpec)) willNextCard

/-- THE TIED CARD OF 'brokerlaw18.WillRuns'. -/
def willRunsCard : Claim7 := { stood := { row := willRunsRow, standIns := [], harness := (true, "abdab9b0bf2e86e7395c3b9016e9dcfe97b279a6ffd6d50233696367297fd84a"), looks := false }, kinds := [], alts := [], laidByText := true, laidKinds := [.data, .pinned], laidTests := true, laidLooks := .later }
def WillRunsCardSaid : Prop := Claim7.holds Tryd.pinned (.plain (OpenSpec.ofChange willRunsSpec)) willRunsCard

/-- THE TIED CARD OF 'brokerlaw18.WillOnce'. -/
def willOnceCard : Claim7 := { stood := { row := willOnceRow, standIns := [], harness := (true, "abdab9b0bf2e86e7395c3b9016e9dcfe97b279a6ffd6d50233696367297fd84a"), looks := false }, kinds := [], alts := [], laidByText := true, laidKinds := [.data, .pinned], laidTests := true, laidLooks := .later }
def WillOnceCardSaid : Prop := Claim7.holds Tryd.pinned (.plain (OpenSpec.ofChange willOnceSpec)) willOnceCard

/-- THE SECOND FORM's CARD OF 'brokerlaw18.WillChecks'. -/
def willChecksUptoCard : Claim7 := { stood := { row := willChecksUptoRow, standIns := [], harness := (true, "abdab9b0bf2e86e7395c3b9016e9dcfe97b279a6ffd6d50233696367297fd84a"), looks := false }, kinds := [], alts := [], laidByText := true, laidKinds := [.data, .pinned], laidTests := true, laidLooks := .later }
def WillChecksUptoCardSaid : Prop := Claim7.holds Tryd.pinned (.plain (OpenSpec.upto willChecksSpec)) willChecksUptoCard

/-- THE SECOND FORM's CARD OF 'brokerlaw18.WillArms'. -/
def willArmsUptoCard : Claim7 := { stood := { row := willArmsUptoRow, standIns := [], harness := (true, "abdab9b0bf2e86e7395c3b9016e9dcfe97b279a6ffd6d50233696367297fd84a"), looks := false }, kinds := [], alts := [], laidByText := true, laidKinds := [.data, .pinned], laidTests := true, laidLooks := .later }
def WillArmsUptoCardSaid : Prop := Claim7.holds Tryd.pinned (.plain (OpenSpec.upto willArmsSpec)) willArmsUptoCard

/-- THE SECOND FORM's CARD OF 'brokerlaw18.WillCancels'. -/
def willCancelsUptoCard : Claim7 := { stood := { row := willCancelsUptoRow, standIns := [], harness := (true, "abdab9b0bf2e86e7395c3b9016e9dcfe97b279a6ffd6d50233696367297fd84a"), looks := false }, kinds := [], alts := [], laidByText := true, laidKinds := [.data, .pinned], laidTests := true, laidLooks := .later }
def WillCancelsUptoCardSaid : Prop := Claim7.holds Tryd.pinned (.plain (OpenSpec.upto willCancelsSpec)) willCancelsUptoCard

/-- THE SECOND FORM's CARD OF 'brokerlaw18.WillTakes'. -/
def willTakesUptoCard : Claim7 := { stood := { row := willTakesUptoRow, standIns := [], harness := (true, "abdab9b0bf2e86e7395c3b9016e9dcfe97b279a6ffd6d50233696367297fd84a"), looks := false }, kinds := [], alts := [], laidByText := true, laidKinds := [.data, .pinned], laidTests := true, laidLooks := .later }
def WillTakesUptoCardSaid : Prop := Claim7.holds Tryd.pinned (.plain (OpenSpec.upto willTakesSpec)) willTakesUptoCard

/-- THE SECOND FORM's CARD OF 'brokerlaw18.WillNext'. -/
def willNextUptoCard : Claim7 := { stood := { row := willNextUptoRow, standIns := [], harness := (true, "abdab9b0bf2e86e7395c3b9016e9dcfe97b279a6ffd6d50233696367297fd84a"), looks := false }, kinds := [], alts := [], laidByText := true, laidKinds := [.data, .pinned], laidTests := true, laidLooks := .later }
def WillNextUptoCardSaid : Prop := Claim7.holds Tryd.pinned (.plain (OpenSpec.upto willNextSpec)) willNextUptoCard

/-- THE SECOND FORM's CARD OF 'brokerlaw18.WillRuns'. -/
def willRunsUptoCard : Claim7 := { stood := { row := willRunsUptoRow, standIns := [], harness := (true, "abdab9b0bf2e86e7395c3b9016e9dcfe97b279a6ffd6d50233696367297fd84a"), looks := false }, kinds := [], alts := [], laidByText := true, laidKinds := [.data, .pinned], laidTests := true, laidLooks := .later }
def WillRunsUptoCardSaid : Prop := Claim7.holds Tryd.pinned (.plain (OpenSpec.upto willRunsSpec)) willRunsUptoCard

/-- THE SECOND FORM's CARD OF 'brokerlaw18.WillOnce'. -/
def willOnceUptoCard : Claim7 := { stood := { row := willOnceUptoRow, standIns := [], harness := (true, "abdab9b0bf2e86e7395c3b9016e9dcfe97b279a6ffd6d50233696367297fd84a"), looks := false }, kinds := [], alts := [], laidByText := true, laidKinds := [.data, .pinned], laidTests := true, laidLooks := .later }
def WillOnceUptoCardSaid : Prop := Claim7.holds Tryd.pinned (.plain (OpenSpec.upto willOnceSpec)) willOnceUptoCard
end Rows
end Go.Proofs.YtgnbiicfabldbaaDoor
