/-
  DERIVED. GIVEN WITH THE SEED: THE CARDS: each row of YtglnkpgdmophlaaDoorRows.lean that lists a variable, with what it lists TIED to the program's text (the seventh form; the later family's looks); each row that meets fmt, with fmt's text TOLD by the authors' own Lean function (tested against real Go, not proved from fmt's source: count such statements apart). THE CARD IS WHAT COUNTS. Prove the row's statement (the work); the ties are given (YtglnkpgdmophlaaDoorTie.lean); close each card by the builder's one call (the guide's Derived/Test/ToyasCard.lean, 'card_holds'). Laid BY PROGRAM, IN A SANDBOX (cutbox-door.mjs). By AI agents, Wed Nov 11 2026. No macro, syntax, notation, axiom, sorry.
-/
import Derived.Test.YtglnkpgdmophlaaDoorRows
import GoSem.ClaimSeven
namespace Go.Proofs.YtglnkpgdmophlaaDoor
namespace Rows

/-- THE TIED CARD OF 'brokerlaw24.ExchangeMatches'. -/
def exchangeMatchesCard : Claim7 := { stood := { row := exchangeMatchesRow, standIns := [], harness := (true, "670b7e5cb70ea925bd9595ffbff4f37f353ebe45dce439a0ecdf743c8c465ed3"), looks := false }, kinds := [], alts := [], laidByText := true, laidKinds := [.data, .pinned], laidTests := true, laidLooks := .later }
def ExchangeMatchesCardSaid : Prop := Claim7.holds Tryd.pinned (.plain (OpenSpec.ofChange exchangeMatchesSpec)) exchangeMatchesCard

/-- THE SECOND FORM's CARD OF 'brokerlaw24.ExchangeMatches'. -/
def exchangeMatchesUptoCard : Claim7 := { stood := { row := exchangeMatchesUptoRow, standIns := [], harness := (true, "670b7e5cb70ea925bd9595ffbff4f37f353ebe45dce439a0ecdf743c8c465ed3"), looks := false }, kinds := [], alts := [], laidByText := true, laidKinds := [.data, .pinned], laidTests := true, laidLooks := .later }
def ExchangeMatchesUptoCardSaid : Prop := Claim7.holds Tryd.pinned (.plain (OpenSpec.upto exchangeMatchesSpec)) exchangeMatchesUptoCard
end Rows
end Go.Proofs.YtglnkpgdmophlaaDoor
