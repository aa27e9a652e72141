/-
  NARROWER THAN 'FOR EVERY INPUT', by the rows' own cells (each row's printed sentence says how): ExchangePlays: laid · ExchangeRoutes: laid · ExchangeOrders: laid · ExchangeUndoes: laid.
  DERIVED. THE GIVEN ROWS OF THIS SEAT. 4 by the template 'for every input the law returns true; each argument reads behind the call as it read before'; 0 by the template 'total and deterministic' (their statements: YtjkhfifnfgchgabGreatDoorTotals.lean).
  GIVEN WITH THE SEED: the statements are not yours to turn. If you find one false, say at which input.
  Laid BY PROGRAM, IN A SANDBOX (cutbox-rows.mjs): the forced cells as the released guide's own fill.sh prints them over the translation 67682b55c1e08b33… (all of the seat's roots in one cut). By AI agents, Wed Nov 11 2026. No macro, syntax, notation, axiom, sorry.
-/
import Derived.Test.YtjkhfifnfgchgabGreatDoorChecked
import GoSem.PinnedTables
import GoSem.Claim
import GoSem.ClaimJoined
import GoSem.ClaimMapViews
import Derived.JoinedTies
import Derived.KernelRfl
namespace Go.Proofs.YtjkhfifnfgchgabGreatDoor
/- THE CELL 'sum', in the pinned program and in every row, IS THE sha256 OF THE DUMP (.gsa) THAT YtjkhfifnfgchgabGreatDoorProg.lean LOADS. Nothing in Lean hashes anything: it is a label: what it is worth is what the hold of that sum in a sandbox is worth. -/
noncomputable def Tryz.pinned : Pinned := { name := "ytjkhfifnfgchgabgreatdoor", sum := "67682b55c1e08b3301dc33e6ee87fa6d36eb9f17b417077bdcfc5da0e78dcfe9", checked := Tryz.checked }
namespace Rows
def none {H : Type} : Left H := { results := [], args := [] }

/- WHAT THE LISTED PACKAGE-LEVEL VARIABLES READ AS WHEN THE CALL BEGINS. Each datum BY PROGRAM (the guide's laid-datum.mjs) off the statement by which the dump's own 'gosem.cut.vars' lays the variable. In a bare row this is a premise. The card (YtjkhfifnfgchgabGreatDoorCards.lean) ties it to the program's text. -/
def laid_unicode_utf8_acceptRanges {H : Type} : DataW H := .agg [.agg [.lit (.int .u8 128), .lit (.int .u8 191)], .agg [.lit (.int .u8 160), .lit (.int .u8 191)], .agg [.lit (.int .u8 128), .lit (.int .u8 159)], .agg [.lit (.int .u8 144), .lit (.int .u8 191)], .agg [.lit (.int .u8 128), .lit (.int .u8 143)], .agg [.lit (.int .u8 0), .lit (.int .u8 0)], .agg [.lit (.int .u8 0), .lit (.int .u8 0)], .agg [.lit (.int .u8 0), .lit (.int .u8 0)], .agg [.lit (.int .u8 0), .lit (.int .u8 0)], .agg [.lit (.int .u8 0), .lit (.int .u8 0)], .agg [.lit (.int .u8 0), .lit (.int .u8 0)], .agg [.lit (.int .u8 0), .lit (.int .u8 0)], .agg [.lit (.int .u8 0), .lit (.int .u8 0)], .agg [.lit (.int .u8 0), .lit (.int .u8 0)], .agg [.lit (.int .u8 0), .lit (.int .u8 0)], .agg [.lit (.int .u8 0), .lit (.int .u8 0)]]
/-- One of Go's own tables, pinned by name: the form's constant. -/
def laid_unicode_utf8_first : DataW Unit := Go.Pinned.utf8First

/-- 'brokerlaw24.ExchangePlays': WHATEVER THE INPUT: true; the input reads as it did. -/
def exchangePlaysSpec : ChangeSpec := { name := "exchangePlays", fn := fun _ => fun
  | [d1, d2] => { results := [.lit (.bool true)], args := [d1, d2] }
  | _ => none }
def exchangePlaysRow : OpenClaim := { program := "ytjkhfifnfgchgabgreatdoor", sum := "67682b55c1e08b3301dc33e6ee87fa6d36eb9f17b417077bdcfc5da0e78dcfe9", func := "broker/brokerlaw24.ExchangePlays", spec := "exchangePlays", inPlace := ["internal/bytealg.IndexByteString", "internal/bytealg.IndexString", "internal/bytealg.abigen_runtime_cmpstring", "slices.overlaps[broker/api.Exchange]", "internal/bytealg.CountString"], unfollowed := true, recurses := true, named := ["internal/bytealg.MaxLen", "unicode/utf8.first", "unicode/utf8.acceptRanges"], apart := false, laid := [("unicode/utf8.acceptRanges", laid_unicode_utf8_acceptRanges), ("unicode/utf8.first", laid_unicode_utf8_first)] }
def ExchangePlaysSaid : Prop := exchangePlaysRow.holds Tryz.pinned (OpenSpec.ofChange exchangePlaysSpec)

/-- ITS FALSE NEIGHBOUR: 'it returns false'. Refute it at one input. -/
def exchangePlaysWrong : ChangeSpec := { name := "exchangePlays", fn := fun _ => fun
  | [d1, d2] => { results := [.lit (.bool false)], args := [d1, d2] }
  | _ => none }
def ExchangePlaysWrongFalsely : Prop := exchangePlaysRow.holds Tryz.pinned (OpenSpec.ofChange exchangePlaysWrong)

/-- 'brokerlaw24.ExchangeRoutes': WHATEVER THE INPUT: true; the input reads as it did. -/
def exchangeRoutesSpec : ChangeSpec := { name := "exchangeRoutes", fn := fun _ => fun
  | [d1, d2, d3] => { results := [.lit (.bool true)], args := [d1, d2, d3] }
  | _ => none }
def exchangeRoutesRow : OpenClaim := { program := "ytjkhfifnfgchgabgreatdoor", sum := "67682b55c1e08b3301dc33e6ee87fa6d36eb9f17b417077bdcfc5da0e78dcfe9", func := "broker/brokerlaw24.ExchangeRoutes", spec := "exchangeRoutes", inPlace := ["internal/bytealg.IndexByteString", "internal/bytealg.IndexString", "internal/bytealg.abigen_runtime_cmpstring", "slices.overlaps[broker/api.Exchange]", "internal/bytealg.CountString"], unfollowed := true, recurses := true, named := ["internal/bytealg.MaxLen", "unicode/utf8.first", "unicode/utf8.acceptRanges"], apart := false, laid := [("unicode/utf8.acceptRanges", laid_unicode_utf8_acceptRanges), ("unicode/utf8.first", laid_unicode_utf8_first)] }
def ExchangeRoutesSaid : Prop := exchangeRoutesRow.holds Tryz.pinned (OpenSpec.ofChange exchangeRoutesSpec)

/-- ITS FALSE NEIGHBOUR: 'it returns false'. Refute it at one input. -/
def exchangeRoutesWrong : ChangeSpec := { name := "exchangeRoutes", fn := fun _ => fun
  | [d1, d2, d3] => { results := [.lit (.bool false)], args := [d1, d2, d3] }
  | _ => none }
def ExchangeRoutesWrongFalsely : Prop := exchangeRoutesRow.holds Tryz.pinned (OpenSpec.ofChange exchangeRoutesWrong)

/-- 'brokerlaw24.ExchangeOrders': WHATEVER THE INPUT: true; the input reads as it did. -/
def exchangeOrdersSpec : ChangeSpec := { name := "exchangeOrders", fn := fun _ => fun
  | [d1, d2, d3] => { results := [.lit (.bool true)], args := [d1, d2, d3] }
  | _ => none }
def exchangeOrdersRow : OpenClaim := { program := "ytjkhfifnfgchgabgreatdoor", sum := "67682b55c1e08b3301dc33e6ee87fa6d36eb9f17b417077bdcfc5da0e78dcfe9", func := "broker/brokerlaw24.ExchangeOrders", spec := "exchangeOrders", inPlace := ["internal/bytealg.IndexByteString", "internal/bytealg.IndexString", "internal/bytealg.abigen_runtime_cmpstring", "slices.overlaps[broker/api.Exchange]", "internal/bytealg.CountString"], unfollowed := true, recurses := true, named := ["internal/bytealg.MaxLen", "unicode/utf8.first", "unicode/utf8.acceptRanges"], apart := false, laid := [("unicode/utf8.acceptRanges", laid_unicode_utf8_acceptRanges), ("unicode/utf8.first", laid_unicode_utf8_first)] }
def ExchangeOrdersSaid : Prop := exchangeOrdersRow.holds Tryz.pinned (OpenSpec.ofChange exchangeOrdersSpec)

/-- ITS FALSE NEIGHBOUR: 'it returns false'. Refute it at one input. -/
def exchangeOrdersWrong : ChangeSpec := { name := "exchangeOrders", fn := fun _ => fun
  | [d1, d2, d3] => { results := [.lit (.bool false)], args := [d1, d2, d3] }
  | _ => none }
def ExchangeOrdersWrongFalsely : Prop := exchangeOrdersRow.holds Tryz.pinned (OpenSpec.ofChange exchangeOrdersWrong)

/-- 'brokerlaw24.ExchangeUndoes': WHATEVER THE INPUT: true; the input reads as it did. -/
def exchangeUndoesSpec : ChangeSpec := { name := "exchangeUndoes", fn := fun _ => fun
  | [d1, d2, d3] => { results := [.lit (.bool true)], args := [d1, d2, d3] }
  | _ => none }
def exchangeUndoesRow : OpenClaim := { program := "ytjkhfifnfgchgabgreatdoor", sum := "67682b55c1e08b3301dc33e6ee87fa6d36eb9f17b417077bdcfc5da0e78dcfe9", func := "broker/brokerlaw24.ExchangeUndoes", spec := "exchangeUndoes", inPlace := ["internal/bytealg.IndexByteString", "internal/bytealg.IndexString", "internal/bytealg.abigen_runtime_cmpstring", "slices.overlaps[broker/api.Exchange]", "internal/bytealg.CountString"], unfollowed := true, recurses := true, named := ["internal/bytealg.MaxLen", "unicode/utf8.first", "unicode/utf8.acceptRanges"], apart := false, laid := [("unicode/utf8.acceptRanges", laid_unicode_utf8_acceptRanges), ("unicode/utf8.first", laid_unicode_utf8_first)] }
def ExchangeUndoesSaid : Prop := exchangeUndoesRow.holds Tryz.pinned (OpenSpec.ofChange exchangeUndoesSpec)

/-- ITS FALSE NEIGHBOUR: 'it returns false'. Refute it at one input. -/
def exchangeUndoesWrong : ChangeSpec := { name := "exchangeUndoes", fn := fun _ => fun
  | [d1, d2, d3] => { results := [.lit (.bool false)], args := [d1, d2, d3] }
  | _ => none }
def ExchangeUndoesWrongFalsely : Prop := exchangeUndoesRow.holds Tryz.pinned (OpenSpec.ofChange exchangeUndoesWrong)

/- THE SECOND FORM. 'bulk': how many values and letters a reading holds, each counted each time it is reached (what is shared counts as often as it is met; a slice's spare places count too). A statement '..UptoSaid' is the law's where the arguments, and the package variables that the reading takes, are together of bulk at most 1048576: NARROWER than '..Said'. Prove '..Said' where nothing that the law and all that it calls make is longer than what came in: it says more and counts as full. Else prove '..UptoSaid'. A law counts once. -/
mutual
def uptoBulk {H : Type} : DataW H → Nat
  | .lit (.string bytes) => bytes.length + 1
  | .lit _ => 1
  | .nil => 1
  | .ptr d => uptoBulk d + 1
  | .slice elems spare => uptoBulkAll elems + uptoBulkAll spare + 1
  | .agg parts => uptoBulkAll parts + 1
  | .iface _ d => uptoBulk d + 1
  | .map entries => uptoBulkEntries entries + 1
  | .held _ => 1
def uptoBulkAll {H : Type} : List (DataW H) → Nat
  | [] => 0
  | d :: r => uptoBulk d + uptoBulkAll r
def uptoBulkEntries {H : Type} : List (Lit × DataW H) → Nat
  | [] => 0
  | x :: r => uptoBulkEntry x + uptoBulkEntries r
def uptoBulkEntry {H : Type} : Lit × DataW H → Nat
  | (.string bytes, d) => bytes.length + uptoBulk d + 1
  | (_, d) => uptoBulk d + 1
 end
def uptoSmall : (H : Type) → List (DataW H) → Bool := fun _ ds => decide (uptoBulkAll ds ≤ 1048576)
def OpenSpec.upto (s : _root_.Go.ChangeSpec) : _root_.Go.OpenSpec := { _root_.Go.OpenSpec.ofChange s with cond := some uptoSmall }

/-- 'brokerlaw24.ExchangePlays', WHERE WHAT IT READS IS OF BULK AT MOST 1048576: true; the input reads as it did. -/
def exchangePlaysUptoRow : OpenClaim := { program := "ytjkhfifnfgchgabgreatdoor", sum := "67682b55c1e08b3301dc33e6ee87fa6d36eb9f17b417077bdcfc5da0e78dcfe9", func := "broker/brokerlaw24.ExchangePlays", spec := "exchangePlays", inPlace := ["internal/bytealg.IndexByteString", "internal/bytealg.IndexString", "internal/bytealg.abigen_runtime_cmpstring", "slices.overlaps[broker/api.Exchange]", "internal/bytealg.CountString"], unfollowed := true, recurses := true, named := ["internal/bytealg.MaxLen", "unicode/utf8.first", "unicode/utf8.acceptRanges"], apart := false, laid := [("unicode/utf8.acceptRanges", laid_unicode_utf8_acceptRanges), ("unicode/utf8.first", laid_unicode_utf8_first)], narrowed := true }
def ExchangePlaysUptoSaid : Prop := exchangePlaysUptoRow.holds Tryz.pinned (OpenSpec.upto exchangePlaysSpec)

/-- 'brokerlaw24.ExchangeRoutes', WHERE WHAT IT READS IS OF BULK AT MOST 1048576: true; the input reads as it did. -/
def exchangeRoutesUptoRow : OpenClaim := { program := "ytjkhfifnfgchgabgreatdoor", sum := "67682b55c1e08b3301dc33e6ee87fa6d36eb9f17b417077bdcfc5da0e78dcfe9", func := "broker/brokerlaw24.ExchangeRoutes", spec := "exchangeRoutes", inPlace := ["internal/bytealg.IndexByteString", "internal/bytealg.IndexString", "internal/bytealg.abigen_runtime_cmpstring", "slices.overlaps[broker/api.Exchange]", "internal/bytealg.CountString"], unfollowed := true, recurses := true, named := ["internal/bytealg.MaxLen", "unicode/utf8.first", "unicode/utf8.acceptRanges"], apart := false, laid := [("unicode/utf8.acceptRanges", laid_unicode_utf8_acceptRanges), ("unicode/utf8.first", laid_unicode_utf8_first)], narrowed := true }
def ExchangeRoutesUptoSaid : Prop := exchangeRoutesUptoRow.holds Tryz.pinned (OpenSpec.upto exchangeRoutesSpec)

/-- 'brokerlaw24.ExchangeOrders', WHERE WHAT IT READS IS OF BULK AT MOST 1048576: true; the input reads as it did. -/
def exchangeOrdersUptoRow : OpenClaim := { program := "ytjkhfifnfgchgabgreatdoor", sum := "67682b55c1e08b3301dc33e6ee87fa6d36eb9f17b417077bdcfc5da0e78dcfe9", func := "broker/brokerlaw24.ExchangeOrders", spec := "exchangeOrders", inPlace := ["internal/bytealg.IndexByteString", "internal/bytealg.IndexString", "internal/bytealg.abigen_runtime_cmpstring", "slices.overlaps[broker/api.Exchange]", "internal/bytealg.CountString"], unfollowed := true, recurses := true, named := ["internal/bytealg.MaxLen", "unicode/utf8.first", "unicode/utf8.acceptRanges"], apart := false, laid := [("unicode/utf8.acceptRanges", laid_unicode_utf8_acceptRanges), ("unicode/utf8.first", laid_unicode_utf8_first)], narrowed := true }
def ExchangeOrdersUptoSaid : Prop := exchangeOrdersUptoRow.holds Tryz.pinned (OpenSpec.upto exchangeOrdersSpec)

/-- 'brokerlaw24.ExchangeUndoes', WHERE WHAT IT READS IS OF BULK AT MOST 1048576: true; the input reads as it did. -/
def exchangeUndoesUptoRow : OpenClaim := { program := "ytjkhfifnfgchgabgreatdoor", sum := "67682b55c1e08b3301dc33e6ee87fa6d36eb9f17b417077bdcfc5da0e78dcfe9", func := "broker/brokerlaw24.ExchangeUndoes", spec := "exchangeUndoes", inPlace := ["internal/bytealg.IndexByteString", "internal/bytealg.IndexString", "internal/bytealg.abigen_runtime_cmpstring", "slices.overlaps[broker/api.Exchange]", "internal/bytealg.CountString"], unfollowed := true, recurses := true, named := ["internal/bytealg.MaxLen", "unicode/utf8.first", "unicode/utf8.acceptRanges"], apart := false, laid := [("unicode/utf8.acceptRanges", laid_unicode_utf8_acceptRanges), ("unicode/utf8.first", laid_unicode_utf8_first)], narrowed := true }
def ExchangeUndoesUptoSaid : Prop := exchangeUndoesUptoRow.holds Tryz.pinned (OpenSpec.upto exchangeUndoesSpec)

end Rows
end Go.Proofs.YtjkhfifnfgchgabGreatDoor
