/-
  No cell of these rows narrows 'for every input' (looked for: loops, veiled, ifaces, maps, wideKeys, modest, calm, conditions, laid).
  DERIVED. THE GIVEN ROWS OF THIS SEAT. 7 by the template 'for every input the law returns true; each argument reads behind the call as it read before'; 0 by the template 'total and deterministic' (their statements: YtbmeimpfehjnfaaTotals.lean).
  GIVEN WITH THE SEED: the statements are not yours to turn. If you find one false, say at which input.
  Laid BY PROGRAM, IN A SANDBOX (cutbox-rows.mjs): the forced cells as the released guide's own fill.sh prints them over the translation efc4863a1b951d06… (all of the seat's roots in one cut). By AI agents, Wed Nov 11 2026. No macro, syntax, notation, axiom, sorry.
-/
import Derived.Test.YtbmeimpfehjnfaaChecked
import GoSem.Claim
import GoSem.ClaimJoined
import GoSem.ClaimMapViews
import Derived.JoinedTies
import Derived.KernelRfl
namespace Go.Proofs.Ytbmeimpfehjnfaa
/- THE CELL 'sum', in the pinned program and in every row, IS THE sha256 OF THE DUMP (.gsa) THAT YtbmeimpfehjnfaaProg.lean LOADS. Nothing in Lean hashes anything: it is a label: what it is worth is what the hold of that sum in a sandbox is worth. -/
noncomputable def Try.pinned : Pinned := { name := "ytbmeimpfehjnfaa", sum := "efc4863a1b951d06fe1ec54c7f03410a1c5575e3477b3eb20ff08969d52ca2d1", checked := Try.checked }
namespace Rows
def none {H : Type} : Left H := { results := [], args := [] }

/-- 'brokerlaw32.SegmentChecks': WHATEVER THE INPUT: true; the input reads as it did. -/
def segmentChecksSpec : ChangeSpec := { name := "segmentChecks", fn := fun _ => fun
  | [d] => { results := [.lit (.bool true)], args := [d] }
  | _ => none }
def segmentChecksRow : OpenClaim := { program := "ytbmeimpfehjnfaa", sum := "efc4863a1b951d06fe1ec54c7f03410a1c5575e3477b3eb20ff08969d52ca2d1", func := "broker/brokerlaw32.SegmentChecks", spec := "segmentChecks", apart := false }
def SegmentChecksSaid : Prop := segmentChecksRow.holds Try.pinned (OpenSpec.ofChange segmentChecksSpec)

/-- ITS FALSE NEIGHBOUR: 'it returns false'. Refute it at one input. -/
def segmentChecksWrong : ChangeSpec := { name := "segmentChecks", fn := fun _ => fun
  | [d] => { results := [.lit (.bool false)], args := [d] }
  | _ => none }
def SegmentChecksWrongFalsely : Prop := segmentChecksRow.holds Try.pinned (OpenSpec.ofChange segmentChecksWrong)

/-- 'brokerlaw32.SegmentAppends': WHATEVER THE INPUT: true; the input reads as it did. -/
def segmentAppendsSpec : ChangeSpec := { name := "segmentAppends", fn := fun _ => fun
  | [d1, d2] => { results := [.lit (.bool true)], args := [d1, d2] }
  | _ => none }
def segmentAppendsRow : OpenClaim := { program := "ytbmeimpfehjnfaa", sum := "efc4863a1b951d06fe1ec54c7f03410a1c5575e3477b3eb20ff08969d52ca2d1", func := "broker/brokerlaw32.SegmentAppends", spec := "segmentAppends", apart := false }
def SegmentAppendsSaid : Prop := segmentAppendsRow.holds Try.pinned (OpenSpec.ofChange segmentAppendsSpec)

/-- ITS FALSE NEIGHBOUR: 'it returns false'. Refute it at one input. -/
def segmentAppendsWrong : ChangeSpec := { name := "segmentAppends", fn := fun _ => fun
  | [d1, d2] => { results := [.lit (.bool false)], args := [d1, d2] }
  | _ => none }
def SegmentAppendsWrongFalsely : Prop := segmentAppendsRow.holds Try.pinned (OpenSpec.ofChange segmentAppendsWrong)

/-- 'brokerlaw32.SegmentReads': WHATEVER THE INPUT: true; the input reads as it did. -/
def segmentReadsSpec : ChangeSpec := { name := "segmentReads", fn := fun _ => fun
  | [d1, d2] => { results := [.lit (.bool true)], args := [d1, d2] }
  | _ => none }
def segmentReadsRow : OpenClaim := { program := "ytbmeimpfehjnfaa", sum := "efc4863a1b951d06fe1ec54c7f03410a1c5575e3477b3eb20ff08969d52ca2d1", func := "broker/brokerlaw32.SegmentReads", spec := "segmentReads", apart := false }
def SegmentReadsSaid : Prop := segmentReadsRow.holds Try.pinned (OpenSpec.ofChange segmentReadsSpec)

/-- ITS FALSE NEIGHBOUR: 'it returns false'. Refute it at one input. -/
def segmentReadsWrong : ChangeSpec := { name := "segmentReads", fn := fun _ => fun
  | [d1, d2] => { results := [.lit (.bool false)], args := [d1, d2] }
  | _ => none }
def SegmentReadsWrongFalsely : Prop := segmentReadsRow.holds Try.pinned (OpenSpec.ofChange segmentReadsWrong)

/-- 'brokerlaw32.SegmentRecovers': WHATEVER THE INPUT: true; the input reads as it did. -/
def segmentRecoversSpec : ChangeSpec := { name := "segmentRecovers", fn := fun _ => fun
  | [d1, d2] => { results := [.lit (.bool true)], args := [d1, d2] }
  | _ => none }
def segmentRecoversRow : OpenClaim := { program := "ytbmeimpfehjnfaa", sum := "efc4863a1b951d06fe1ec54c7f03410a1c5575e3477b3eb20ff08969d52ca2d1", func := "broker/brokerlaw32.SegmentRecovers", spec := "segmentRecovers", apart := false }
def SegmentRecoversSaid : Prop := segmentRecoversRow.holds Try.pinned (OpenSpec.ofChange segmentRecoversSpec)

/-- ITS FALSE NEIGHBOUR: 'it returns false'. Refute it at one input. -/
def segmentRecoversWrong : ChangeSpec := { name := "segmentRecovers", fn := fun _ => fun
  | [d1, d2] => { results := [.lit (.bool false)], args := [d1, d2] }
  | _ => none }
def SegmentRecoversWrongFalsely : Prop := segmentRecoversRow.holds Try.pinned (OpenSpec.ofChange segmentRecoversWrong)

/-- 'brokerlaw32.SegmentBack': WHATEVER THE INPUT: true; the input reads as it did. -/
def segmentBackSpec : ChangeSpec := { name := "segmentBack", fn := fun _ => fun
  | [d1, d2] => { results := [.lit (.bool true)], args := [d1, d2] }
  | _ => none }
def segmentBackRow : OpenClaim := { program := "ytbmeimpfehjnfaa", sum := "efc4863a1b951d06fe1ec54c7f03410a1c5575e3477b3eb20ff08969d52ca2d1", func := "broker/brokerlaw32.SegmentBack", spec := "segmentBack", apart := false }
def SegmentBackSaid : Prop := segmentBackRow.holds Try.pinned (OpenSpec.ofChange segmentBackSpec)

/-- ITS FALSE NEIGHBOUR: 'it returns false'. Refute it at one input. -/
def segmentBackWrong : ChangeSpec := { name := "segmentBack", fn := fun _ => fun
  | [d1, d2] => { results := [.lit (.bool false)], args := [d1, d2] }
  | _ => none }
def SegmentBackWrongFalsely : Prop := segmentBackRow.holds Try.pinned (OpenSpec.ofChange segmentBackWrong)

/-- 'brokerlaw32.SegmentTorn': WHATEVER THE INPUT: true; the input reads as it did. -/
def segmentTornSpec : ChangeSpec := { name := "segmentTorn", fn := fun _ => fun
  | [d1, d2, d3] => { results := [.lit (.bool true)], args := [d1, d2, d3] }
  | _ => none }
def segmentTornRow : OpenClaim := { program := "ytbmeimpfehjnfaa", sum := "efc4863a1b951d06fe1ec54c7f03410a1c5575e3477b3eb20ff08969d52ca2d1", func := "broker/brokerlaw32.SegmentTorn", spec := "segmentTorn", apart := false }
def SegmentTornSaid : Prop := segmentTornRow.holds Try.pinned (OpenSpec.ofChange segmentTornSpec)

/-- ITS FALSE NEIGHBOUR: 'it returns false'. Refute it at one input. -/
def segmentTornWrong : ChangeSpec := { name := "segmentTorn", fn := fun _ => fun
  | [d1, d2, d3] => { results := [.lit (.bool false)], args := [d1, d2, d3] }
  | _ => none }
def SegmentTornWrongFalsely : Prop := segmentTornRow.holds Try.pinned (OpenSpec.ofChange segmentTornWrong)

/-- 'brokerlaw32.SegmentFull': WHATEVER THE INPUT: true; the input reads as it did. -/
def segmentFullSpec : ChangeSpec := { name := "segmentFull", fn := fun _ => fun
  | [d1, d2] => { results := [.lit (.bool true)], args := [d1, d2] }
  | _ => none }
def segmentFullRow : OpenClaim := { program := "ytbmeimpfehjnfaa", sum := "efc4863a1b951d06fe1ec54c7f03410a1c5575e3477b3eb20ff08969d52ca2d1", func := "broker/brokerlaw32.SegmentFull", spec := "segmentFull", apart := false }
def SegmentFullSaid : Prop := segmentFullRow.holds Try.pinned (OpenSpec.ofChange segmentFullSpec)

/-- ITS FALSE NEIGHBOUR: 'it returns false'. Refute it at one input. -/
def segmentFullWrong : ChangeSpec := { name := "segmentFull", fn := fun _ => fun
  | [d1, d2] => { results := [.lit (.bool false)], args := [d1, d2] }
  | _ => none }
def SegmentFullWrongFalsely : Prop := segmentFullRow.holds Try.pinned (OpenSpec.ofChange segmentFullWrong)

/- THE SECOND FORM. 'bulk': how many values and letters a reading holds, each counted each time it is reached (what is shared counts as often as it is met; a slice's spare places count too). A statement '..UptoSaid' is the law's where the arguments, and the package variables that the reading takes, are together of bulk at most 1048576: NARROWER than '..Said'. Prove '..Said' where nothing that the law and all that it calls make is longer than what came in: it says more and counts as full. Else prove '..UptoSaid'. A law counts once. -/
mutual
def uptoBulk {H : Type} : DataW H → Nat
  | .lit (.string bytes) => bytes.length + 1
  | .lit _ => 1
  | .nil => 1
  | .ptr d => uptoBulk d + 1
  | .slice elems spare => uptoBulkAll elems + uptoBulkAll spare + 1
  | .agg parts => uptoBulkAll parts + 1
  | .iface _ d => uptoBulk d + 1
  | .map entries => uptoBulkEntries entries + 1
  | .held _ => 1
def uptoBulkAll {H : Type} : List (DataW H) → Nat
  | [] => 0
  | d :: r => uptoBulk d + uptoBulkAll r
def uptoBulkEntries {H : Type} : List (Lit × DataW H) → Nat
  | [] => 0
  | x :: r => uptoBulkEntry x + uptoBulkEntries r
def uptoBulkEntry {H : Type} : Lit × DataW H → Nat
  | (.string bytes, d) => bytes.length + uptoBulk d + 1
  | (_, d) => uptoBulk d + 1
 end
def uptoSmall : (H : Type) → List (DataW H) → Bool := fun _ ds => decide (uptoBulkAll ds ≤ 1048576)
def OpenSpec.upto (s : _root_.Go.ChangeSpec) : _root_.Go.OpenSpec := { _root_.Go.OpenSpec.ofChange s with cond := some uptoSmall }

/-- 'brokerlaw32.SegmentChecks', WHERE WHAT IT READS IS OF BULK AT MOST 1048576: true; the input reads as it did. -/
def segmentChecksUptoRow : OpenClaim := { program := "ytbmeimpfehjnfaa", sum := "efc4863a1b951d06fe1ec54c7f03410a1c5575e3477b3eb20ff08969d52ca2d1", func := "broker/brokerlaw32.SegmentChecks", spec := "segmentChecks", apart := false, narrowed := true }
def SegmentChecksUptoSaid : Prop := segmentChecksUptoRow.holds Try.pinned (OpenSpec.upto segmentChecksSpec)

/-- 'brokerlaw32.SegmentAppends', WHERE WHAT IT READS IS OF BULK AT MOST 1048576: true; the input reads as it did. -/
def segmentAppendsUptoRow : OpenClaim := { program := "ytbmeimpfehjnfaa", sum := "efc4863a1b951d06fe1ec54c7f03410a1c5575e3477b3eb20ff08969d52ca2d1", func := "broker/brokerlaw32.SegmentAppends", spec := "segmentAppends", apart := false, narrowed := true }
def SegmentAppendsUptoSaid : Prop := segmentAppendsUptoRow.holds Try.pinned (OpenSpec.upto segmentAppendsSpec)

/-- 'brokerlaw32.SegmentReads', WHERE WHAT IT READS IS OF BULK AT MOST 1048576: true; the input reads as it did. -/
def segmentReadsUptoRow : OpenClaim := { program := "ytbmeimpfehjnfaa", sum := "efc4863a1b951d06fe1ec54c7f03410a1c5575e3477b3eb20ff08969d52ca2d1", func := "broker/brokerlaw32.SegmentReads", spec := "segmentReads", apart := false, narrowed := true }
def SegmentReadsUptoSaid : Prop := segmentReadsUptoRow.holds Try.pinned (OpenSpec.upto segmentReadsSpec)

/-- 'brokerlaw32.SegmentRecovers', WHERE WHAT IT READS IS OF BULK AT MOST 1048576: true; the input reads as it did. -/
def segmentRecoversUptoRow : OpenClaim := { program := "ytbmeimpfehjnfaa", sum := "efc4863a1b951d06fe1ec54c7f03410a1c5575e3477b3eb20ff08969d52ca2d1", func := "broker/brokerlaw32.SegmentRecovers", spec := "segmentRecovers", apart := false, narrowed := true }
def SegmentRecoversUptoSaid : Prop := segmentRecoversUptoRow.holds Try.pinned (OpenSpec.upto segmentRecoversSpec)

/-- 'brokerlaw32.SegmentBack', WHERE WHAT IT READS IS OF BULK AT MOST 1048576: true; the input reads as it did. -/
def segmentBackUptoRow : OpenClaim := { program := "ytbmeimpfehjnfaa", sum := "efc4863a1b951d06fe1ec54c7f03410a1c5575e3477b3eb20ff08969d52ca2d1", func := "broker/brokerlaw32.SegmentBack", spec := "segmentBack", apart := false, narrowed := true }
def SegmentBackUptoSaid : Prop := segmentBackUptoRow.holds Try.pinned (OpenSpec.upto segmentBackSpec)

/-- 'brokerlaw32.SegmentTorn', WHERE WHAT IT READS IS OF BULK AT MOST 1048576: true; the input reads as it did. -/
def segmentTornUptoRow : OpenClaim := { program := "ytbmeimpfehjnfaa", sum := "efc4863a1b951d06fe1ec54c7f03410a1c5575e3477b3eb20ff08969d52ca2d1", func := "broker/brokerlaw32.SegmentTorn", spec := "segmentTorn", apart := false, narrowed := true }
def SegmentTornUptoSaid : Prop := segmentTornUptoRow.holds Try.pinned (OpenSpec.upto segmentTornSpec)

/-- 'brokerlaw32.SegmentFull', WHERE WHAT IT READS IS OF BULK AT MOST 1048576: true; the input reads as it did. -/
def segmentFullUptoRow : OpenClaim := { program := "ytbmeimpfehjnfaa", sum := "efc4863a1b951d06fe1ec54c7f03410a1c5575e3477b3eb20ff08969d52ca2d1", func := "broker/brokerlaw32.SegmentFull", spec := "segmentFull", apart := false, narrowed := true }
def SegmentFullUptoSaid : Prop := segmentFullUptoRow.holds Try.pinned (OpenSpec.upto segmentFullSpec)

end Rows
end Go.Proofs.Ytbmeimpfehjnfaa
