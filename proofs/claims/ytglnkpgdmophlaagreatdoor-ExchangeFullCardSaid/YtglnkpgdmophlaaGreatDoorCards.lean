/-
  DERIVED. GIVEN WITH THE SEED: THE CARDS: each row of YtglnkpgdmophlaaGreatDoorRows.lean that lists a variable, with what it lists TIED to the program's text (the seventh form; the later family's looks); each row that meets fmt, with fmt's text TOLD by the authors' own Lean function (tested against real Go, not proved from fmt's source: count such statements apart). THE CARD IS WHAT COUNTS. Prove the row's statement (the work); the ties are given (YtglnkpgdmophlaaGreatDoorTie.lean); close each card by the builder's one call (the guide's Derived/Test/ToyasCard.lean, 'card_holds'). Laid BY PROGRAM, IN A SANDBOX (cutbox-door.mjs). By AI agents, Wed Nov 11 2026. No macro, syntax, notation, axiom, sorry.
-/
import Derived.Test.YtglnkpgdmophlaaGreatDoorRows
import GoSem.ClaimSeven
namespace Go.Proofs.YtglnkpgdmophlaaGreatDoor
namespace Rows

/-- THE TIED CARD OF 'brokerlaw24.ExchangeChecks'. -/
def exchangeChecksCard : Claim7 := { stood := { row := exchangeChecksRow, standIns := [], harness := (true, "10737c76b2f3c33c887dbf4dd31b6ad74e3193c3a6a8a96587015e46a1aa5846"), looks := false }, kinds := [], alts := [], laidByText := true, laidKinds := [.data, .pinned], laidTests := true, laidLooks := .later }
def ExchangeChecksCardSaid : Prop := Claim7.holds Tryz.pinned (.plain (OpenSpec.ofChange exchangeChecksSpec)) exchangeChecksCard

/-- THE TIED CARD OF 'brokerlaw24.ExchangePlays'. -/
def exchangePlaysCard : Claim7 := { stood := { row := exchangePlaysRow, standIns := [], harness := (true, "10737c76b2f3c33c887dbf4dd31b6ad74e3193c3a6a8a96587015e46a1aa5846"), looks := false }, kinds := [], alts := [], laidByText := true, laidKinds := [.data, .pinned], laidTests := true, laidLooks := .later }
def ExchangePlaysCardSaid : Prop := Claim7.holds Tryz.pinned (.plain (OpenSpec.ofChange exchangePlaysSpec)) exchangePlaysCard

/-- THE TIED CARD OF 'brokerlaw24.ExchangeFull'. -/
def exchangeFullCard : Claim7 := { stood := { row := exchangeFullRow, standIns := [], harness := (true, "10737c76b2f3c33c887dbf4dd31b6ad74e3193c3a6a8a96587015e46a1aa5846"), looks := false }, kinds := [], alts := [], laidByText := true, laidKinds := [.data, .pinned], laidTests := true, laidLooks := .later }
def ExchangeFullCardSaid : Prop := Claim7.holds Tryz.pinned (.plain (OpenSpec.ofChange exchangeFullSpec)) exchangeFullCard

/-- THE TIED CARD OF 'brokerlaw24.ExchangeRoutes'. -/
def exchangeRoutesCard : Claim7 := { stood := { row := exchangeRoutesRow, standIns := [], harness := (true, "10737c76b2f3c33c887dbf4dd31b6ad74e3193c3a6a8a96587015e46a1aa5846"), looks := false }, kinds := [], alts := [], laidByText := true, laidKinds := [.data, .pinned], laidTests := true, laidLooks := .later }
def ExchangeRoutesCardSaid : Prop := Claim7.holds Tryz.pinned (.plain (OpenSpec.ofChange exchangeRoutesSpec)) exchangeRoutesCard

/-- THE TIED CARD OF 'brokerlaw24.ExchangePatterns'. -/
def exchangePatternsCard : Claim7 := { stood := { row := exchangePatternsRow, standIns := [], harness := (true, "10737c76b2f3c33c887dbf4dd31b6ad74e3193c3a6a8a96587015e46a1aa5846"), looks := false }, kinds := [], alts := [], laidByText := true, laidKinds := [.data, .pinned], laidTests := true, laidLooks := .later }
def ExchangePatternsCardSaid : Prop := Claim7.holds Tryz.pinned (.plain (OpenSpec.ofChange exchangePatternsSpec)) exchangePatternsCard

/-- THE TIED CARD OF 'brokerlaw24.ExchangeOrders'. -/
def exchangeOrdersCard : Claim7 := { stood := { row := exchangeOrdersRow, standIns := [], harness := (true, "10737c76b2f3c33c887dbf4dd31b6ad74e3193c3a6a8a96587015e46a1aa5846"), looks := false }, kinds := [], alts := [], laidByText := true, laidKinds := [.data, .pinned], laidTests := true, laidLooks := .later }
def ExchangeOrdersCardSaid : Prop := Claim7.holds Tryz.pinned (.plain (OpenSpec.ofChange exchangeOrdersSpec)) exchangeOrdersCard

/-- THE TIED CARD OF 'brokerlaw24.ExchangeUndoes'. -/
def exchangeUndoesCard : Claim7 := { stood := { row := exchangeUndoesRow, standIns := [], harness := (true, "10737c76b2f3c33c887dbf4dd31b6ad74e3193c3a6a8a96587015e46a1aa5846"), looks := false }, kinds := [], alts := [], laidByText := true, laidKinds := [.data, .pinned], laidTests := true, laidLooks := .later }
def ExchangeUndoesCardSaid : Prop := Claim7.holds Tryz.pinned (.plain (OpenSpec.ofChange exchangeUndoesSpec)) exchangeUndoesCard

/-- THE SECOND FORM's CARD OF 'brokerlaw24.ExchangeChecks'. -/
def exchangeChecksUptoCard : Claim7 := { stood := { row := exchangeChecksUptoRow, standIns := [], harness := (true, "10737c76b2f3c33c887dbf4dd31b6ad74e3193c3a6a8a96587015e46a1aa5846"), looks := false }, kinds := [], alts := [], laidByText := true, laidKinds := [.data, .pinned], laidTests := true, laidLooks := .later }
def ExchangeChecksUptoCardSaid : Prop := Claim7.holds Tryz.pinned (.plain (OpenSpec.upto exchangeChecksSpec)) exchangeChecksUptoCard

/-- THE SECOND FORM's CARD OF 'brokerlaw24.ExchangePlays'. -/
def exchangePlaysUptoCard : Claim7 := { stood := { row := exchangePlaysUptoRow, standIns := [], harness := (true, "10737c76b2f3c33c887dbf4dd31b6ad74e3193c3a6a8a96587015e46a1aa5846"), looks := false }, kinds := [], alts := [], laidByText := true, laidKinds := [.data, .pinned], laidTests := true, laidLooks := .later }
def ExchangePlaysUptoCardSaid : Prop := Claim7.holds Tryz.pinned (.plain (OpenSpec.upto exchangePlaysSpec)) exchangePlaysUptoCard

/-- THE SECOND FORM's CARD OF 'brokerlaw24.ExchangeFull'. -/
def exchangeFullUptoCard : Claim7 := { stood := { row := exchangeFullUptoRow, standIns := [], harness := (true, "10737c76b2f3c33c887dbf4dd31b6ad74e3193c3a6a8a96587015e46a1aa5846"), looks := false }, kinds := [], alts := [], laidByText := true, laidKinds := [.data, .pinned], laidTests := true, laidLooks := .later }
def ExchangeFullUptoCardSaid : Prop := Claim7.holds Tryz.pinned (.plain (OpenSpec.upto exchangeFullSpec)) exchangeFullUptoCard

/-- THE SECOND FORM's CARD OF 'brokerlaw24.ExchangeRoutes'. -/
def exchangeRoutesUptoCard : Claim7 := { stood := { row := exchangeRoutesUptoRow, standIns := [], harness := (true, "10737c76b2f3c33c887dbf4dd31b6ad74e3193c3a6a8a96587015e46a1aa5846"), looks := false }, kinds := [], alts := [], laidByText := true, laidKinds := [.data, .pinned], laidTests := true, laidLooks := .later }
def ExchangeRoutesUptoCardSaid : Prop := Claim7.holds Tryz.pinned (.plain (OpenSpec.upto exchangeRoutesSpec)) exchangeRoutesUptoCard

/-- THE SECOND FORM's CARD OF 'brokerlaw24.ExchangePatterns'. -/
def exchangePatternsUptoCard : Claim7 := { stood := { row := exchangePatternsUptoRow, standIns := [], harness := (true, "10737c76b2f3c33c887dbf4dd31b6ad74e3193c3a6a8a96587015e46a1aa5846"), looks := false }, kinds := [], alts := [], laidByText := true, laidKinds := [.data, .pinned], laidTests := true, laidLooks := .later }
def ExchangePatternsUptoCardSaid : Prop := Claim7.holds Tryz.pinned (.plain (OpenSpec.upto exchangePatternsSpec)) exchangePatternsUptoCard

/-- THE SECOND FORM's CARD OF 'brokerlaw24.ExchangeOrders'. -/
def exchangeOrdersUptoCard : Claim7 := { stood := { row := exchangeOrdersUptoRow, standIns := [], harness := (true, "10737c76b2f3c33c887dbf4dd31b6ad74e3193c3a6a8a96587015e46a1aa5846"), looks := false }, kinds := [], alts := [], laidByText := true, laidKinds := [.data, .pinned], laidTests := true, laidLooks := .later }
def ExchangeOrdersUptoCardSaid : Prop := Claim7.holds Tryz.pinned (.plain (OpenSpec.upto exchangeOrdersSpec)) exchangeOrdersUptoCard

/-- THE SECOND FORM's CARD OF 'brokerlaw24.ExchangeUndoes'. -/
def exchangeUndoesUptoCard : Claim7 := { stood := { row := exchangeUndoesUptoRow, standIns := [], harness := (true, "10737c76b2f3c33c887dbf4dd31b6ad74e3193c3a6a8a96587015e46a1aa5846"), looks := false }, kinds := [], alts := [], laidByText := true, laidKinds := [.data, .pinned], laidTests := true, laidLooks := .later }
def ExchangeUndoesUptoCardSaid : Prop := Claim7.holds Tryz.pinned (.plain (OpenSpec.upto exchangeUndoesSpec)) exchangeUndoesUptoCard
end Rows
end Go.Proofs.YtglnkpgdmophlaaGreatDoor
