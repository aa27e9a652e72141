/-
  DERIVED. GIVEN WITH THE SEED: THE CARDS: each row of YtjlmlaekogahpaaDoorRows.lean that lists a variable, with what it lists TIED to the program's text (the seventh form; the later family's looks); each row that meets fmt, with fmt's text TOLD by the authors' own Lean function (tested against real Go, not proved from fmt's source: count such statements apart). THE CARD IS WHAT COUNTS. Prove the row's statement (the work); the ties are given (YtjlmlaekogahpaaDoorTie.lean); close each card by the builder's one call (the guide's Derived/Test/ToyasCard.lean, 'card_holds'). Laid BY PROGRAM, IN A SANDBOX (cutbox-door.mjs). By AI agents, Wed Nov 11 2026. No macro, syntax, notation, axiom, sorry.
-/
import Derived.Test.YtjlmlaekogahpaaDoorRows
import GoSem.ClaimSeven
namespace Go.Proofs.YtjlmlaekogahpaaDoor
namespace Rows

/-- THE TIED CARD OF 'brokerlaw06.PacketKinds'. -/
def packetKindsCard : Claim7 := { stood := { row := packetKindsRow, standIns := [], harness := (true, "ce0c9f5afcc49bd400bf7aaeea64bab756b77fe43a297023914e605076a52c79"), looks := false }, kinds := [], alts := [], laidByText := true, laidKinds := [.data, .pinned], laidTests := true, laidLooks := .later }
def PacketKindsCardSaid : Prop := Claim7.holds Tryd.pinned (.plain (OpenSpec.ofChange packetKindsSpec)) packetKindsCard

/-- THE TIED CARD OF 'brokerlaw06.PacketSame'. -/
def packetSameCard : Claim7 := { stood := { row := packetSameRow, standIns := [], harness := (true, "ce0c9f5afcc49bd400bf7aaeea64bab756b77fe43a297023914e605076a52c79"), looks := false }, kinds := [], alts := [], laidByText := true, laidKinds := [.data, .pinned], laidTests := true, laidLooks := .later }
def PacketSameCardSaid : Prop := Claim7.holds Tryd.pinned (.plain (OpenSpec.ofChange packetSameSpec)) packetSameCard

/-- THE TIED CARD OF 'brokerlaw06.PacketAnswers'. -/
def packetAnswersCard : Claim7 := { stood := { row := packetAnswersRow, standIns := [], harness := (true, "ce0c9f5afcc49bd400bf7aaeea64bab756b77fe43a297023914e605076a52c79"), looks := false }, kinds := [], alts := [], laidByText := true, laidKinds := [.data, .pinned], laidTests := true, laidLooks := .later }
def PacketAnswersCardSaid : Prop := Claim7.holds Tryd.pinned (.plain (OpenSpec.ofChange packetAnswersSpec)) packetAnswersCard

/-- THE TIED CARD OF 'brokerlaw06.PacketFields'. -/
def packetFieldsCard : Claim7 := { stood := { row := packetFieldsRow, standIns := [], harness := (true, "ce0c9f5afcc49bd400bf7aaeea64bab756b77fe43a297023914e605076a52c79"), looks := false }, kinds := [], alts := [], laidByText := true, laidKinds := [.data, .pinned], laidTests := true, laidLooks := .later }
def PacketFieldsCardSaid : Prop := Claim7.holds Tryd.pinned (.plain (OpenSpec.ofChange packetFieldsSpec)) packetFieldsCard

/-- THE TIED CARD OF 'brokerlaw06.PacketHandshake'. -/
def packetHandshakeCard : Claim7 := { stood := { row := packetHandshakeRow, standIns := [], harness := (true, "ce0c9f5afcc49bd400bf7aaeea64bab756b77fe43a297023914e605076a52c79"), looks := false }, kinds := [], alts := [], laidByText := true, laidKinds := [.data, .pinned], laidTests := true, laidLooks := .later }
def PacketHandshakeCardSaid : Prop := Claim7.holds Tryd.pinned (.plain (OpenSpec.ofChange packetHandshakeSpec)) packetHandshakeCard

/-- THE SECOND FORM's CARD OF 'brokerlaw06.PacketKinds'. -/
def packetKindsUptoCard : Claim7 := { stood := { row := packetKindsUptoRow, standIns := [], harness := (true, "ce0c9f5afcc49bd400bf7aaeea64bab756b77fe43a297023914e605076a52c79"), looks := false }, kinds := [], alts := [], laidByText := true, laidKinds := [.data, .pinned], laidTests := true, laidLooks := .later }
def PacketKindsUptoCardSaid : Prop := Claim7.holds Tryd.pinned (.plain (OpenSpec.upto packetKindsSpec)) packetKindsUptoCard

/-- THE SECOND FORM's CARD OF 'brokerlaw06.PacketSame'. -/
def packetSameUptoCard : Claim7 := { stood := { row := packetSameUptoRow, standIns := [], harness := (true, "ce0c9f5afcc49bd400bf7aaeea64bab756b77fe43a297023914e605076a52c79"), looks := false }, kinds := [], alts := [], laidByText := true, laidKinds := [.data, .pinned], laidTests := true, laidLooks := .later }
def PacketSameUptoCardSaid : Prop := Claim7.holds Tryd.pinned (.plain (OpenSpec.upto packetSameSpec)) packetSameUptoCard

/-- THE SECOND FORM's CARD OF 'brokerlaw06.PacketAnswers'. -/
def packetAnswersUptoCard : Claim7 := { stood := { row := packetAnswersUptoRow, standIns := [], harness := (true, "ce0c9f5afcc49bd400bf7aaeea64bab756b77fe43a297023914e605076a52c79"), looks := false }, kinds := [], alts := [], laidByText := true, laidKinds := [.data, .pinned], laidTests := true, laidLooks := .later }
def PacketAnswersUptoCardSaid : Prop := Claim7.holds Tryd.pinned (.plain (OpenSpec.upto packetAnswersSpec)) packetAnswersUptoCard

/-- THE SECOND FORM's CARD OF 'brokerlaw06.PacketFields'. -/
def packetFieldsUptoCard : Claim7 := { stood := { row := packetFieldsUptoRow, standIns := [], harness := (true, "ce0c9f5afcc49bd400bf7aaeea64bab756b77fe43a297023914e605076a52c79"), looks := false }, kinds := [], alts := [], laidByText := true, laidKinds := [.data, .pinned], laidTests := true, laidLooks := .later }
def PacketFieldsUptoCardSaid : Prop := Claim7.holds Tryd.pinned (.plain (OpenSpec.upto packetFieldsSpec)) packetFieldsUptoCard

/-- THE SECOND FORM's CARD OF 'brokerlaw06.PacketHandshake'. -/
def packetHandshakeUptoCard : Claim7 := { stood := { row := packetHandshakeUptoRow, standIns := [], harness := (true, "ce0c9f5afcc49bd400bf7aaeea64bab756b77fe43a297023914e605076a52c79"), looks := false }, kinds := [], alts := [], laidByText := true, laidKinds := [.data, .pinned], laidTests := true, laidLooks := .later }
def PacketHandshakeUptoCardSaid : Prop := Claim7.holds Tryd.pinned (.plain (OpenSpec.upto packetHandshakeSpec)) packetHandshakeUptoCard
end Rows
end Go.Proofs.YtjlmlaekogahpaaDoor
