/-
  NARROWER THAN 'FOR EVERY INPUT', by the rows' own cells (each row's printed sentence says how): MessageProps: laid · MessageGets: laid · MessageSets: laid · MessageChecks: laid · MessageSame: laid · MessagePuts: laid · MessageTakes: laid · MessageBack: laid · MessageOnly: laid.
  DERIVED. THE GIVEN ROWS OF THIS SEAT. 9 by the template 'for every input the law returns true; each argument reads behind the call as it read before'; 0 by the template 'total and deterministic' (their statements: YtlkkdompcbdbeaaDoorTotals.lean).
  GIVEN WITH THE SEED: the statements are not yours to turn. If you find one false, say at which input.
  Laid BY PROGRAM, IN A SANDBOX (cutbox-rows.mjs): the forced cells as the released guide's own fill.sh prints them over the translation 6e69d5e33c5b8458… (all of the seat's roots in one cut). By AI agents, Wed Nov 11 2026. No macro, syntax, notation, axiom, sorry.
-/
import Derived.Test.YtlkkdompcbdbeaaDoorChecked
import GoSem.PinnedTables
import GoSem.Claim
import GoSem.ClaimJoined
import GoSem.ClaimMapViews
import Derived.JoinedTies
import Derived.KernelRfl
namespace Go.Proofs.YtlkkdompcbdbeaaDoor
/- THE CELL 'sum', in the pinned program and in every row, IS THE sha256 OF THE DUMP (.gsa) THAT YtlkkdompcbdbeaaDoorProg.lean LOADS. Nothing in Lean hashes anything: it is a label: what it is worth is what the hold of that sum in a sandbox is worth. -/
noncomputable def Tryd.pinned : Pinned := { name := "ytlkkdompcbdbeaadoor", sum := "6e69d5e33c5b8458369eeb3c2e212b0ba18823c9425985f3a2f83adeb6cac689", checked := Tryd.checked }
namespace Rows
def none {H : Type} : Left H := { results := [], args := [] }

/- WHAT THE LISTED PACKAGE-LEVEL VARIABLES READ AS WHEN THE CALL BEGINS. Each datum BY PROGRAM (the guide's laid-datum.mjs) off the statement by which the dump's own 'gosem.cut.vars' lays the variable. In a bare row this is a premise. The card (YtlkkdompcbdbeaaDoorCards.lean) ties it to the program's text. -/
def laid_unicode_utf8_acceptRanges {H : Type} : DataW H := .agg [.agg [.lit (.int .u8 128), .lit (.int .u8 191)], .agg [.lit (.int .u8 160), .lit (.int .u8 191)], .agg [.lit (.int .u8 128), .lit (.int .u8 159)], .agg [.lit (.int .u8 144), .lit (.int .u8 191)], .agg [.lit (.int .u8 128), .lit (.int .u8 143)], .agg [.lit (.int .u8 0), .lit (.int .u8 0)], .agg [.lit (.int .u8 0), .lit (.int .u8 0)], .agg [.lit (.int .u8 0), .lit (.int .u8 0)], .agg [.lit (.int .u8 0), .lit (.int .u8 0)], .agg [.lit (.int .u8 0), .lit (.int .u8 0)], .agg [.lit (.int .u8 0), .lit (.int .u8 0)], .agg [.lit (.int .u8 0), .lit (.int .u8 0)], .agg [.lit (.int .u8 0), .lit (.int .u8 0)], .agg [.lit (.int .u8 0), .lit (.int .u8 0)], .agg [.lit (.int .u8 0), .lit (.int .u8 0)], .agg [.lit (.int .u8 0), .lit (.int .u8 0)]]
/-- One of Go's own tables, pinned by name: the form's constant. -/
def laid_unicode_utf8_first : DataW Unit := Go.Pinned.utf8First

/-- 'brokerlaw05.MessageProps': WHATEVER THE INPUT: true; the input reads as it did. -/
def messagePropsSpec : ChangeSpec := { name := "messageProps", fn := fun _ => fun
  | [d] => { results := [.lit (.bool true)], args := [d] }
  | _ => none }
def messagePropsRow : OpenClaim := { program := "ytlkkdompcbdbeaadoor", sum := "6e69d5e33c5b8458369eeb3c2e212b0ba18823c9425985f3a2f83adeb6cac689", func := "broker/brokerlaw05.MessageProps", spec := "messageProps", inPlace := ["internal/bytealg.abigen_runtime_cmpstring", "slices.overlaps[broker/api.Prop]", "internal/bytealg.CountString", "internal/bytealg.IndexByteString", "internal/bytealg.IndexString"], unfollowed := true, recurses := true, named := ["unicode/utf8.first", "unicode/utf8.acceptRanges", "internal/bytealg.MaxLen"], apart := false, laid := [("unicode/utf8.acceptRanges", laid_unicode_utf8_acceptRanges), ("unicode/utf8.first", laid_unicode_utf8_first)] }
def MessagePropsSaid : Prop := messagePropsRow.holds Tryd.pinned (OpenSpec.ofChange messagePropsSpec)

/-- ITS FALSE NEIGHBOUR: 'it returns false'. Refute it at one input. -/
def messagePropsWrong : ChangeSpec := { name := "messageProps", fn := fun _ => fun
  | [d] => { results := [.lit (.bool false)], args := [d] }
  | _ => none }
def MessagePropsWrongFalsely : Prop := messagePropsRow.holds Tryd.pinned (OpenSpec.ofChange messagePropsWrong)

/-- 'brokerlaw05.MessageGets': WHATEVER THE INPUT: true; the input reads as it did. -/
def messageGetsSpec : ChangeSpec := { name := "messageGets", fn := fun _ => fun
  | [d1, d2, d3] => { results := [.lit (.bool true)], args := [d1, d2, d3] }
  | _ => none }
def messageGetsRow : OpenClaim := { program := "ytlkkdompcbdbeaadoor", sum := "6e69d5e33c5b8458369eeb3c2e212b0ba18823c9425985f3a2f83adeb6cac689", func := "broker/brokerlaw05.MessageGets", spec := "messageGets", inPlace := ["internal/bytealg.abigen_runtime_cmpstring", "slices.overlaps[broker/api.Prop]", "internal/bytealg.CountString", "internal/bytealg.IndexByteString", "internal/bytealg.IndexString"], unfollowed := true, recurses := true, named := ["unicode/utf8.first", "unicode/utf8.acceptRanges", "internal/bytealg.MaxLen"], apart := false, laid := [("unicode/utf8.acceptRanges", laid_unicode_utf8_acceptRanges), ("unicode/utf8.first", laid_unicode_utf8_first)] }
def MessageGetsSaid : Prop := messageGetsRow.holds Tryd.pinned (OpenSpec.ofChange messageGetsSpec)

/-- ITS FALSE NEIGHBOUR: 'it returns false'. Refute it at one input. -/
def messageGetsWrong : ChangeSpec := { name := "messageGets", fn := fun _ => fun
  | [d1, d2, d3] => { results := [.lit (.bool false)], args := [d1, d2, d3] }
  | _ => none }
def MessageGetsWrongFalsely : Prop := messageGetsRow.holds Tryd.pinned (OpenSpec.ofChange messageGetsWrong)

/-- 'brokerlaw05.MessageSets': WHATEVER THE INPUT: true; the input reads as it did. -/
def messageSetsSpec : ChangeSpec := { name := "messageSets", fn := fun _ => fun
  | [d1, d2, d3] => { results := [.lit (.bool true)], args := [d1, d2, d3] }
  | _ => none }
def messageSetsRow : OpenClaim := { program := "ytlkkdompcbdbeaadoor", sum := "6e69d5e33c5b8458369eeb3c2e212b0ba18823c9425985f3a2f83adeb6cac689", func := "broker/brokerlaw05.MessageSets", spec := "messageSets", inPlace := ["internal/bytealg.abigen_runtime_cmpstring", "slices.overlaps[broker/api.Prop]", "internal/bytealg.CountString", "internal/bytealg.IndexByteString", "internal/bytealg.IndexString"], unfollowed := true, recurses := true, named := ["unicode/utf8.first", "unicode/utf8.acceptRanges", "internal/bytealg.MaxLen"], apart := false, laid := [("unicode/utf8.acceptRanges", laid_unicode_utf8_acceptRanges), ("unicode/utf8.first", laid_unicode_utf8_first)] }
def MessageSetsSaid : Prop := messageSetsRow.holds Tryd.pinned (OpenSpec.ofChange messageSetsSpec)

/-- ITS FALSE NEIGHBOUR: 'it returns false'. Refute it at one input. -/
def messageSetsWrong : ChangeSpec := { name := "messageSets", fn := fun _ => fun
  | [d1, d2, d3] => { results := [.lit (.bool false)], args := [d1, d2, d3] }
  | _ => none }
def MessageSetsWrongFalsely : Prop := messageSetsRow.holds Tryd.pinned (OpenSpec.ofChange messageSetsWrong)

/-- 'brokerlaw05.MessageChecks': WHATEVER THE INPUT: true; the input reads as it did. -/
def messageChecksSpec : ChangeSpec := { name := "messageChecks", fn := fun _ => fun
  | [d1, d2] => { results := [.lit (.bool true)], args := [d1, d2] }
  | _ => none }
def messageChecksRow : OpenClaim := { program := "ytlkkdompcbdbeaadoor", sum := "6e69d5e33c5b8458369eeb3c2e212b0ba18823c9425985f3a2f83adeb6cac689", func := "broker/brokerlaw05.MessageChecks", spec := "messageChecks", inPlace := ["internal/bytealg.abigen_runtime_cmpstring", "slices.overlaps[broker/api.Prop]", "internal/bytealg.CountString", "internal/bytealg.IndexByteString", "internal/bytealg.IndexString"], unfollowed := true, recurses := true, named := ["unicode/utf8.first", "unicode/utf8.acceptRanges", "internal/bytealg.MaxLen"], apart := false, laid := [("unicode/utf8.acceptRanges", laid_unicode_utf8_acceptRanges), ("unicode/utf8.first", laid_unicode_utf8_first)] }
def MessageChecksSaid : Prop := messageChecksRow.holds Tryd.pinned (OpenSpec.ofChange messageChecksSpec)

/-- ITS FALSE NEIGHBOUR: 'it returns false'. Refute it at one input. -/
def messageChecksWrong : ChangeSpec := { name := "messageChecks", fn := fun _ => fun
  | [d1, d2] => { results := [.lit (.bool false)], args := [d1, d2] }
  | _ => none }
def MessageChecksWrongFalsely : Prop := messageChecksRow.holds Tryd.pinned (OpenSpec.ofChange messageChecksWrong)

/-- 'brokerlaw05.MessageSame': WHATEVER THE INPUT: true; the input reads as it did. -/
def messageSameSpec : ChangeSpec := { name := "messageSame", fn := fun _ => fun
  | [d1, d2] => { results := [.lit (.bool true)], args := [d1, d2] }
  | _ => none }
def messageSameRow : OpenClaim := { program := "ytlkkdompcbdbeaadoor", sum := "6e69d5e33c5b8458369eeb3c2e212b0ba18823c9425985f3a2f83adeb6cac689", func := "broker/brokerlaw05.MessageSame", spec := "messageSame", inPlace := ["internal/bytealg.abigen_runtime_cmpstring", "slices.overlaps[broker/api.Prop]", "internal/bytealg.CountString", "internal/bytealg.IndexByteString", "internal/bytealg.IndexString"], unfollowed := true, recurses := true, named := ["unicode/utf8.first", "unicode/utf8.acceptRanges", "internal/bytealg.MaxLen"], apart := false, laid := [("unicode/utf8.acceptRanges", laid_unicode_utf8_acceptRanges), ("unicode/utf8.first", laid_unicode_utf8_first)] }
def MessageSameSaid : Prop := messageSameRow.holds Tryd.pinned (OpenSpec.ofChange messageSameSpec)

/-- ITS FALSE NEIGHBOUR: 'it returns false'. Refute it at one input. -/
def messageSameWrong : ChangeSpec := { name := "messageSame", fn := fun _ => fun
  | [d1, d2] => { results := [.lit (.bool false)], args := [d1, d2] }
  | _ => none }
def MessageSameWrongFalsely : Prop := messageSameRow.holds Tryd.pinned (OpenSpec.ofChange messageSameWrong)

/-- 'brokerlaw05.MessagePuts': WHATEVER THE INPUT: true; the input reads as it did. -/
def messagePutsSpec : ChangeSpec := { name := "messagePuts", fn := fun _ => fun
  | [d1, d2] => { results := [.lit (.bool true)], args := [d1, d2] }
  | _ => none }
def messagePutsRow : OpenClaim := { program := "ytlkkdompcbdbeaadoor", sum := "6e69d5e33c5b8458369eeb3c2e212b0ba18823c9425985f3a2f83adeb6cac689", func := "broker/brokerlaw05.MessagePuts", spec := "messagePuts", inPlace := ["internal/bytealg.abigen_runtime_cmpstring", "slices.overlaps[broker/api.Prop]", "internal/bytealg.CountString", "internal/bytealg.IndexByteString", "internal/bytealg.IndexString"], unfollowed := true, recurses := true, named := ["unicode/utf8.first", "unicode/utf8.acceptRanges", "internal/bytealg.MaxLen"], apart := false, laid := [("unicode/utf8.acceptRanges", laid_unicode_utf8_acceptRanges), ("unicode/utf8.first", laid_unicode_utf8_first)] }
def MessagePutsSaid : Prop := messagePutsRow.holds Tryd.pinned (OpenSpec.ofChange messagePutsSpec)

/-- ITS FALSE NEIGHBOUR: 'it returns false'. Refute it at one input. -/
def messagePutsWrong : ChangeSpec := { name := "messagePuts", fn := fun _ => fun
  | [d1, d2] => { results := [.lit (.bool false)], args := [d1, d2] }
  | _ => none }
def MessagePutsWrongFalsely : Prop := messagePutsRow.holds Tryd.pinned (OpenSpec.ofChange messagePutsWrong)

/-- 'brokerlaw05.MessageTakes': WHATEVER THE INPUT: true; the input reads as it did. -/
def messageTakesSpec : ChangeSpec := { name := "messageTakes", fn := fun _ => fun
  | [d1, d2] => { results := [.lit (.bool true)], args := [d1, d2] }
  | _ => none }
def messageTakesRow : OpenClaim := { program := "ytlkkdompcbdbeaadoor", sum := "6e69d5e33c5b8458369eeb3c2e212b0ba18823c9425985f3a2f83adeb6cac689", func := "broker/brokerlaw05.MessageTakes", spec := "messageTakes", inPlace := ["internal/bytealg.abigen_runtime_cmpstring", "slices.overlaps[broker/api.Prop]", "internal/bytealg.CountString", "internal/bytealg.IndexByteString", "internal/bytealg.IndexString"], unfollowed := true, recurses := true, named := ["unicode/utf8.first", "unicode/utf8.acceptRanges", "internal/bytealg.MaxLen"], apart := false, laid := [("unicode/utf8.acceptRanges", laid_unicode_utf8_acceptRanges), ("unicode/utf8.first", laid_unicode_utf8_first)] }
def MessageTakesSaid : Prop := messageTakesRow.holds Tryd.pinned (OpenSpec.ofChange messageTakesSpec)

/-- ITS FALSE NEIGHBOUR: 'it returns false'. Refute it at one input. -/
def messageTakesWrong : ChangeSpec := { name := "messageTakes", fn := fun _ => fun
  | [d1, d2] => { results := [.lit (.bool false)], args := [d1, d2] }
  | _ => none }
def MessageTakesWrongFalsely : Prop := messageTakesRow.holds Tryd.pinned (OpenSpec.ofChange messageTakesWrong)

/-- 'brokerlaw05.MessageBack': WHATEVER THE INPUT: true; the input reads as it did. -/
def messageBackSpec : ChangeSpec := { name := "messageBack", fn := fun _ => fun
  | [d1, d2, d3] => { results := [.lit (.bool true)], args := [d1, d2, d3] }
  | _ => none }
def messageBackRow : OpenClaim := { program := "ytlkkdompcbdbeaadoor", sum := "6e69d5e33c5b8458369eeb3c2e212b0ba18823c9425985f3a2f83adeb6cac689", func := "broker/brokerlaw05.MessageBack", spec := "messageBack", inPlace := ["internal/bytealg.abigen_runtime_cmpstring", "slices.overlaps[broker/api.Prop]", "internal/bytealg.CountString", "internal/bytealg.IndexByteString", "internal/bytealg.IndexString"], unfollowed := true, recurses := true, named := ["unicode/utf8.first", "unicode/utf8.acceptRanges", "internal/bytealg.MaxLen"], apart := false, laid := [("unicode/utf8.acceptRanges", laid_unicode_utf8_acceptRanges), ("unicode/utf8.first", laid_unicode_utf8_first)] }
def MessageBackSaid : Prop := messageBackRow.holds Tryd.pinned (OpenSpec.ofChange messageBackSpec)

/-- ITS FALSE NEIGHBOUR: 'it returns false'. Refute it at one input. -/
def messageBackWrong : ChangeSpec := { name := "messageBack", fn := fun _ => fun
  | [d1, d2, d3] => { results := [.lit (.bool false)], args := [d1, d2, d3] }
  | _ => none }
def MessageBackWrongFalsely : Prop := messageBackRow.holds Tryd.pinned (OpenSpec.ofChange messageBackWrong)

/-- 'brokerlaw05.MessageOnly': WHATEVER THE INPUT: true; the input reads as it did. -/
def messageOnlySpec : ChangeSpec := { name := "messageOnly", fn := fun _ => fun
  | [d] => { results := [.lit (.bool true)], args := [d] }
  | _ => none }
def messageOnlyRow : OpenClaim := { program := "ytlkkdompcbdbeaadoor", sum := "6e69d5e33c5b8458369eeb3c2e212b0ba18823c9425985f3a2f83adeb6cac689", func := "broker/brokerlaw05.MessageOnly", spec := "messageOnly", inPlace := ["internal/bytealg.abigen_runtime_cmpstring", "slices.overlaps[broker/api.Prop]", "internal/bytealg.CountString", "internal/bytealg.IndexByteString", "internal/bytealg.IndexString"], unfollowed := true, recurses := true, named := ["unicode/utf8.first", "unicode/utf8.acceptRanges", "internal/bytealg.MaxLen"], apart := false, laid := [("unicode/utf8.acceptRanges", laid_unicode_utf8_acceptRanges), ("unicode/utf8.first", laid_unicode_utf8_first)] }
def MessageOnlySaid : Prop := messageOnlyRow.holds Tryd.pinned (OpenSpec.ofChange messageOnlySpec)

/-- ITS FALSE NEIGHBOUR: 'it returns false'. Refute it at one input. -/
def messageOnlyWrong : ChangeSpec := { name := "messageOnly", fn := fun _ => fun
  | [d] => { results := [.lit (.bool false)], args := [d] }
  | _ => none }
def MessageOnlyWrongFalsely : Prop := messageOnlyRow.holds Tryd.pinned (OpenSpec.ofChange messageOnlyWrong)

/- THE SECOND FORM. 'bulk': how many values and letters a reading holds, each counted each time it is reached (what is shared counts as often as it is met; a slice's spare places count too). A statement '..UptoSaid' is the law's where the arguments, and the package variables that the reading takes, are together of bulk at most 1048576: NARROWER than '..Said'. Prove '..Said' where nothing that the law and all that it calls make is longer than what came in: it says more and counts as full. Else prove '..UptoSaid'. A law counts once. -/
mutual
def uptoBulk {H : Type} : DataW H → Nat
  | .lit (.string bytes) => bytes.length + 1
  | .lit _ => 1
  | .nil => 1
  | .ptr d => uptoBulk d + 1
  | .slice elems spare => uptoBulkAll elems + uptoBulkAll spare + 1
  | .agg parts => uptoBulkAll parts + 1
  | .iface _ d => uptoBulk d + 1
  | .map entries => uptoBulkEntries entries + 1
  | .held _ => 1
def uptoBulkAll {H : Type} : List (DataW H) → Nat
  | [] => 0
  | d :: r => uptoBulk d + uptoBulkAll r
def uptoBulkEntries {H : Type} : List (Lit × DataW H) → Nat
  | [] => 0
  | x :: r => uptoBulkEntry x + uptoBulkEntries r
def uptoBulkEntry {H : Type} : Lit × DataW H → Nat
  | (.string bytes, d) => bytes.length + uptoBulk d + 1
  | (_, d) => uptoBulk d + 1
 end
def uptoSmall : (H : Type) → List (DataW H) → Bool := fun _ ds => decide (uptoBulkAll ds ≤ 1048576)
def OpenSpec.upto (s : _root_.Go.ChangeSpec) : _root_.Go.OpenSpec := { _root_.Go.OpenSpec.ofChange s with cond := some uptoSmall }

/-- 'brokerlaw05.MessageProps', WHERE WHAT IT READS IS OF BULK AT MOST 1048576: true; the input reads as it did. -/
def messagePropsUptoRow : OpenClaim := { program := "ytlkkdompcbdbeaadoor", sum := "6e69d5e33c5b8458369eeb3c2e212b0ba18823c9425985f3a2f83adeb6cac689", func := "broker/brokerlaw05.MessageProps", spec := "messageProps", inPlace := ["internal/bytealg.abigen_runtime_cmpstring", "slices.overlaps[broker/api.Prop]", "internal/bytealg.CountString", "internal/bytealg.IndexByteString", "internal/bytealg.IndexString"], unfollowed := true, recurses := true, named := ["unicode/utf8.first", "unicode/utf8.acceptRanges", "internal/bytealg.MaxLen"], apart := false, laid := [("unicode/utf8.acceptRanges", laid_unicode_utf8_acceptRanges), ("unicode/utf8.first", laid_unicode_utf8_first)], narrowed := true }
def MessagePropsUptoSaid : Prop := messagePropsUptoRow.holds Tryd.pinned (OpenSpec.upto messagePropsSpec)

/-- 'brokerlaw05.MessageGets', WHERE WHAT IT READS IS OF BULK AT MOST 1048576: true; the input reads as it did. -/
def messageGetsUptoRow : OpenClaim := { program := "ytlkkdompcbdbeaadoor", sum := "6e69d5e33c5b8458369eeb3c2e212b0ba18823c9425985f3a2f83adeb6cac689", func := "broker/brokerlaw05.MessageGets", spec := "messageGets", inPlace := ["internal/bytealg.abigen_runtime_cmpstring", "slices.overlaps[broker/api.Prop]", "internal/bytealg.CountString", "internal/bytealg.IndexByteString", "internal/bytealg.IndexString"], unfollowed := true, recurses := true, named := ["unicode/utf8.first", "unicode/utf8.acceptRanges", "internal/bytealg.MaxLen"], apart := false, laid := [("unicode/utf8.acceptRanges", laid_unicode_utf8_acceptRanges), ("unicode/utf8.first", laid_unicode_utf8_first)], narrowed := true }
def MessageGetsUptoSaid : Prop := messageGetsUptoRow.holds Tryd.pinned (OpenSpec.upto messageGetsSpec)

/-- 'brokerlaw05.MessageSets', WHERE WHAT IT READS IS OF BULK AT MOST 1048576: true; the input reads as it did. -/
def messageSetsUptoRow : OpenClaim := { program := "ytlkkdompcbdbeaadoor", sum := "6e69d5e33c5b8458369eeb3c2e212b0ba18823c9425985f3a2f83adeb6cac689", func := "broker/brokerlaw05.MessageSets", spec := "messageSets", inPlace := ["internal/bytealg.abigen_runtime_cmpstring", "slices.overlaps[broker/api.Prop]", "internal/bytealg.CountString", "internal/bytealg.IndexByteString", "internal/bytealg.IndexString"], unfollowed := true, recurses := true, named := ["unicode/utf8.first", "unicode/utf8.acceptRanges", "internal/bytealg.MaxLen"], apart := false, laid := [("unicode/utf8.acceptRanges", laid_unicode_utf8_acceptRanges), ("unicode/utf8.first", laid_unicode_utf8_first)], narrowed := true }
def MessageSetsUptoSaid : Prop := messageSetsUptoRow.holds Tryd.pinned (OpenSpec.upto messageSetsSpec)

/-- 'brokerlaw05.MessageChecks', WHERE WHAT IT READS IS OF BULK AT MOST 1048576: true; the input reads as it did. -/
def messageChecksUptoRow : OpenClaim := { program := "ytlkkdompcbdbeaadoor", sum := "6e69d5e33c5b8458369eeb3c2e212b0ba18823c9425985f3a2f83adeb6cac689", func := "broker/brokerlaw05.MessageChecks", spec := "messageChecks", inPlace := ["internal/bytealg.abigen_runtime_cmpstring", "slices.overlaps[broker/api.Prop]", "internal/bytealg.CountString", "internal/bytealg.IndexByteString", "internal/bytealg.IndexString"], unfollowed := true, recurses := true, named := ["unicode/utf8.first", "unicode/utf8.acceptRanges", "internal/bytealg.MaxLen"], apart := false, laid := [("unicode/utf8.acceptRanges", laid_unicode_utf8_acceptRanges), ("unicode/utf8.first", laid_unicode_utf8_first)], narrowed := true }
def MessageChecksUptoSaid : Prop := messageChecksUptoRow.holds Tryd.pinned (OpenSpec.upto messageChecksSpec)

/-- 'brokerlaw05.MessageSame', WHERE WHAT IT READS IS OF BULK AT MOST 1048576: true; the input reads as it did. -/
def messageSameUptoRow : OpenClaim := { program := "ytlkkdompcbdbeaadoor", sum := "6e69d5e33c5b8458369eeb3c2e212b0ba18823c9425985f3a2f83adeb6cac689", func := "broker/brokerlaw05.MessageSame", spec := "messageSame", inPlace := ["internal/bytealg.abigen_runtime_cmpstring", "slices.overlaps[broker/api.Prop]", "internal/bytealg.CountString", "internal/bytealg.IndexByteString", "internal/bytealg.IndexString"], unfollowed := true, recurses := true, named := ["unicode/utf8.first", "unicode/utf8.acceptRanges", "internal/bytealg.MaxLen"], apart := false, laid := [("unicode/utf8.acceptRanges", laid_unicode_utf8_acceptRanges), ("unicode/utf8.first", laid_unicode_utf8_first)], narrowed := true }
def MessageSameUptoSaid : Prop := messageSameUptoRow.holds Tryd.pinned (OpenSpec.upto messageSameSpec)

/-- 'brokerlaw05.MessagePuts', WHERE WHAT IT READS IS OF BULK AT MOST 1048576: true; the input reads as it did. -/
def messagePutsUptoRow : OpenClaim := { program := "ytlkkdompcbdbeaadoor", sum := "6e69d5e33c5b8458369eeb3c2e212b0ba18823c9425985f3a2f83adeb6cac689", func := "broker/brokerlaw05.MessagePuts", spec := "messagePuts", inPlace := ["internal/bytealg.abigen_runtime_cmpstring", "slices.overlaps[broker/api.Prop]", "internal/bytealg.CountString", "internal/bytealg.IndexByteString", "internal/bytealg.IndexString"], unfollowed := true, recurses := true, named := ["unicode/utf8.first", "unicode/utf8.acceptRanges", "internal/bytealg.MaxLen"], apart := false, laid := [("unicode/utf8.acceptRanges", laid_unicode_utf8_acceptRanges), ("unicode/utf8.first", laid_unicode_utf8_first)], narrowed := true }
def MessagePutsUptoSaid : Prop := messagePutsUptoRow.holds Tryd.pinned (OpenSpec.upto messagePutsSpec)

/-- 'brokerlaw05.MessageTakes', WHERE WHAT IT READS IS OF BULK AT MOST 1048576: true; the input reads as it did. -/
def messageTakesUptoRow : OpenClaim := { program := "ytlkkdompcbdbeaadoor", sum := "6e69d5e33c5b8458369eeb3c2e212b0ba18823c9425985f3a2f83adeb6cac689", func := "broker/brokerlaw05.MessageTakes", spec := "messageTakes", inPlace := ["internal/bytealg.abigen_runtime_cmpstring", "slices.overlaps[broker/api.Prop]", "internal/bytealg.CountString", "internal/bytealg.IndexByteString", "internal/bytealg.IndexString"], unfollowed := true, recurses := true, named := ["unicode/utf8.first", "unicode/utf8.acceptRanges", "internal/bytealg.MaxLen"], apart := false, laid := [("unicode/utf8.acceptRanges", laid_unicode_utf8_acceptRanges), ("unicode/utf8.first", laid_unicode_utf8_first)], narrowed := true }
def MessageTakesUptoSaid : Prop := messageTakesUptoRow.holds Tryd.pinned (OpenSpec.upto messageTakesSpec)

/-- 'brokerlaw05.MessageBack', WHERE WHAT IT READS IS OF BULK AT MOST 1048576: true; the input reads as it did. -/
def messageBackUptoRow : OpenClaim := { program := "ytlkkdompcbdbeaadoor", sum := "6e69d5e33c5b8458369eeb3c2e212b0ba18823c9425985f3a2f83adeb6cac689", func := "broker/brokerlaw05.MessageBack", spec := "messageBack", inPlace := ["internal/bytealg.abigen_runtime_cmpstring", "slices.overlaps[broker/api.Prop]", "internal/bytealg.CountString", "internal/bytealg.IndexByteString", "internal/bytealg.IndexString"], unfollowed := true, recurses := true, named := ["unicode/utf8.first", "unicode/utf8.acceptRanges", "internal/bytealg.MaxLen"], apart := false, laid := [("unicode/utf8.acceptRanges", laid_unicode_utf8_acceptRanges), ("unicode/utf8.first", laid_unicode_utf8_first)], narrowed := true }
def MessageBackUptoSaid : Prop := messageBackUptoRow.holds Tryd.pinned (OpenSpec.upto messageBackSpec)

/-- 'brokerlaw05.MessageOnly', WHERE WHAT IT READS IS OF BULK AT MOST 1048576: true; the input reads as it did. -/
def messageOnlyUptoRow : OpenClaim := { program := "ytlkkdompcbdbeaadoor", sum := "6e69d5e33c5b8458369eeb3c2e212b0ba18823c9425985f3a2f83adeb6cac689", func := "broker/brokerlaw05.MessageOnly", spec := "messageOnly", inPlace := ["internal/bytealg.abigen_runtime_cmpstring", "slices.overlaps[broker/api.Prop]", "internal/bytealg.CountString", "internal/bytealg.IndexByteString", "internal/bytealg.IndexString"], unfollowed := true, recurses := true, named := ["unicode/utf8.first", "unicode/utf8.acceptRanges", "internal/bytealg.MaxLen"], apart := false, laid := [("unicode/utf8.acceptRanges", laid_unicode_utf8_acceptRanges), ("unicode/utf8.first", laid_unicode_utf8_first)], narrowed := true }
def MessageOnlyUptoSaid : Prop := messageOnlyUptoRow.holds Tryd.pinned (OpenSpec.upto messageOnlySpec)

end Rows
end Go.Proofs.YtlkkdompcbdbeaaDoor
