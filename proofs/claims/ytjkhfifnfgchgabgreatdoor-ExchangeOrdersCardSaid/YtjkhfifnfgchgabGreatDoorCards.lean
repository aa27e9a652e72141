/-
  DERIVED. GIVEN WITH THE SEED: THE CARDS: each row of YtjkhfifnfgchgabGreatDoorRows.lean that lists a variable, with what it lists TIED to the program's text (the seventh form; the later family's looks); each row that meets fmt, with fmt's text TOLD by the authors' own Lean function (tested against real Go, not proved from fmt's source: count such statements apart). THE CARD IS WHAT COUNTS. Prove the row's statement (the work); the ties are given (YtjkhfifnfgchgabGreatDoorTie.lean); close each card by the builder's one call (the guide's Derived/Test/ToyasCard.lean, 'card_holds'). Laid BY PROGRAM, IN A SANDBOX (cutbox-door.mjs). By AI agents, Wed Nov 11 2026. No macro, syntax, notation, axiom, sorry.
-/
import Derived.Test.YtjkhfifnfgchgabGreatDoorRows
import GoSem.ClaimSeven
namespace Go.Proofs.YtjkhfifnfgchgabGreatDoor
namespace Rows

/-- THE TIED CARD OF 'brokerlaw24.ExchangePlays'. -/
def exchangePlaysCard : Claim7 := { stood := { row := exchangePlaysRow, standIns := [], harness := (true, "ca5088c734cfe3aa7441c638398d4f7429bd4a5d6c94dcc1439b8c497d67c58b"), looks := false }, kinds := [], alts := [], laidByText := true, laidKinds := [.data, .pinned], laidTests := true, laidLooks := .later }
def ExchangePlaysCardSaid : Prop := Claim7.holds Tryz.pinned (.plain (OpenSpec.ofChange exchangePlaysSpec)) exchangePlaysCard

/-- THE TIED CARD OF 'brokerlaw24.ExchangeRoutes'. -/
def exchangeRoutesCard : Claim7 := { stood := { row := exchangeRoutesRow, standIns := [], harness := (true, "ca5088c734cfe3aa7441c638398d4f7429bd4a5d6c94dcc1439b8c497d67c58b"), looks := false }, kinds := [], alts := [], laidByText := true, laidKinds := [.data, .pinned], laidTests := true, laidLooks := .later }
def ExchangeRoutesCardSaid : Prop := Claim7.holds Tryz.pinned (.plain (OpenSpec.ofChange exchangeRoutesSpec)) exchangeRoutesCard

/-- THE TIED CARD OF 'brokerlaw24.ExchangeOrders'. -/
def exchangeOrdersCard : Claim7 := { stood := { row := exchangeOrdersRow, standIns := [], harness := (true, "ca5088c734cfe3aa7441c638398d4f7429bd4a5d6c94dcc1439b8c497d67c58b"), looks := false }, kinds := [], alts := [], laidByText := true, laidKinds := [.data, .pinned], laidTests := true, laidLooks := .later }
def ExchangeOrdersCardSaid : Prop := Claim7.holds Tryz.pinned (.plain (OpenSpec.ofChange exchangeOrdersSpec)) exchangeOrdersCard

/-- THE TIED CARD OF 'brokerlaw24.ExchangeUndoes'. -/
def exchangeUndoesCard : Claim7 := { stood := { row := exchangeUndoesRow, standIns := [], harness := (true, "ca5088c734cfe3aa7441c638398d4f7429bd4a5d6c94dcc1439b8c497d67c58b"), looks := false }, kinds := [], alts := [], laidByText := true, laidKinds := [.data, .pinned], laidTests := true, laidLooks := .later }
def ExchangeUndoesCardSaid : Prop := Claim7.holds Tryz.pinned (.plain (OpenSpec.ofChange exchangeUndoesSpec)) exchangeUndoesCard

/-- THE SECOND FORM's CARD OF 'brokerlaw24.ExchangePlays'. -/
def exchangePlaysUptoCard : Claim7 := { stood := { row := exchangePlaysUptoRow, standIns := [], harness := (true, "ca5088c734cfe3aa7441c638398d4f7429bd4a5d6c94dcc1439b8c497d67c58b"), looks := false }, kinds := [], alts := [], laidByText := true, laidKinds := [.data, .pinned], laidTests := true, laidLooks := .later }
def ExchangePlaysUptoCardSaid : Prop := Claim7.holds Tryz.pinned (.plain (OpenSpec.upto exchangePlaysSpec)) exchangePlaysUptoCard

/-- THE SECOND FORM's CARD OF 'brokerlaw24.ExchangeRoutes'. -/
def exchangeRoutesUptoCard : Claim7 := { stood := { row := exchangeRoutesUptoRow, standIns := [], harness := (true, "ca5088c734cfe3aa7441c638398d4f7429bd4a5d6c94dcc1439b8c497d67c58b"), looks := false }, kinds := [], alts := [], laidByText := true, laidKinds := [.data, .pinned], laidTests := true, laidLooks := .later }
def ExchangeRoutesUptoCardSaid : Prop := Claim7.holds Tryz.pinned (.plain (OpenSpec.upto exchangeRoutesSpec)) exchangeRoutesUptoCard

/-- THE SECOND FORM's CARD OF 'brokerlaw24.ExchangeOrders'. -/
def exchangeOrdersUptoCard : Claim7 := { stood := { row := exchangeOrdersUptoRow, standIns := [], harness := (true, "ca5088c734cfe3aa7441c638398d4f7429bd4a5d6c94dcc1439b8c497d67c58b"), looks := false }, kinds := [], alts := [], laidByText := true, laidKinds := [.data, .pinned], laidTests := true, laidLooks := .later }
def ExchangeOrdersUptoCardSaid : Prop := Claim7.holds Tryz.pinned (.plain (OpenSpec.upto exchangeOrdersSpec)) exchangeOrdersUptoCard

/-- THE SECOND FORM's CARD OF 'brokerlaw24.ExchangeUndoes'. -/
def exchangeUndoesUptoCard : Claim7 := { stood := { row := exchangeUndoesUptoRow, standIns := [], harness := (true, "ca5088c734cfe3aa7441c638398d4f7429bd4a5d6c94dcc1439b8c497d67c58b"), looks := false }, kinds := [], alts := [], laidByText := true, laidKinds := [.data, .pinned], laidTests := true, laidLooks := .later }
def ExchangeUndoesUptoCardSaid : Prop := Claim7.holds Tryz.pinned (.plain (OpenSpec.upto exchangeUndoesSpec)) exchangeUndoesUptoCard
end Rows
end Go.Proofs.YtjkhfifnfgchgabGreatDoor
