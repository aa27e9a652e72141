/-
  No cell of these rows narrows 'for every input' (looked for: loops, veiled, ifaces, maps, wideKeys, modest, calm, conditions, laid).
  DERIVED. THE GIVEN ROWS OF THIS SEAT. 5 by the template 'for every input the law returns true; each argument reads behind the call as it read before'; 0 by the template 'total and deterministic' (their statements: YtjkhfifnfgchgaaTotals.lean).
  GIVEN WITH THE SEED: the statements are not yours to turn. If you find one false, say at which input.
  Laid BY PROGRAM, IN A SANDBOX (cutbox-rows.mjs): the forced cells as the released guide's own fill.sh prints them over the translation 674dc63a1c2ee35f… (all of the seat's roots in one cut). By AI agents, Wed Nov 11 2026. No macro, syntax, notation, axiom, sorry.
-/
import Derived.Test.YtjkhfifnfgchgaaChecked
import GoSem.Claim
import GoSem.ClaimJoined
import GoSem.ClaimMapViews
import Derived.JoinedTies
import Derived.KernelRfl
namespace Go.Proofs.Ytjkhfifnfgchgaa
/- THE CELL 'sum', in the pinned program and in every row, IS THE sha256 OF THE DUMP (.gsa) THAT YtjkhfifnfgchgaaProg.lean LOADS. Nothing in Lean hashes anything: it is a label: what it is worth is what the hold of that sum in a sandbox is worth. -/
noncomputable def Try.pinned : Pinned := { name := "ytjkhfifnfgchgaa", sum := "674dc63a1c2ee35f3c092d810c2cfce8549acb036dba799a132a5da9125025c7", checked := Try.checked }
namespace Rows
def none {H : Type} : Left H := { results := [], args := [] }

/-- 'brokerlaw26.FairChecks': WHATEVER THE INPUT: true; the input reads as it did. -/
def fairChecksSpec : ChangeSpec := { name := "fairChecks", fn := fun _ => fun
  | [d] => { results := [.lit (.bool true)], args := [d] }
  | _ => none }
def fairChecksRow : OpenClaim := { program := "ytjkhfifnfgchgaa", sum := "674dc63a1c2ee35f3c092d810c2cfce8549acb036dba799a132a5da9125025c7", func := "broker/brokerlaw26.FairChecks", spec := "fairChecks", unfollowed := true, recurses := true, apart := false }
def FairChecksSaid : Prop := fairChecksRow.holds Try.pinned (OpenSpec.ofChange fairChecksSpec)

/-- ITS FALSE NEIGHBOUR: 'it returns false'. Refute it at one input. -/
def fairChecksWrong : ChangeSpec := { name := "fairChecks", fn := fun _ => fun
  | [d] => { results := [.lit (.bool false)], args := [d] }
  | _ => none }
def FairChecksWrongFalsely : Prop := fairChecksRow.holds Try.pinned (OpenSpec.ofChange fairChecksWrong)

/-- 'brokerlaw26.FairNext': WHATEVER THE INPUT: true; the input reads as it did. -/
def fairNextSpec : ChangeSpec := { name := "fairNext", fn := fun _ => fun
  | [d1, d2, d3] => { results := [.lit (.bool true)], args := [d1, d2, d3] }
  | _ => none }
def fairNextRow : OpenClaim := { program := "ytjkhfifnfgchgaa", sum := "674dc63a1c2ee35f3c092d810c2cfce8549acb036dba799a132a5da9125025c7", func := "broker/brokerlaw26.FairNext", spec := "fairNext", unfollowed := true, recurses := true, apart := false }
def FairNextSaid : Prop := fairNextRow.holds Try.pinned (OpenSpec.ofChange fairNextSpec)

/-- ITS FALSE NEIGHBOUR: 'it returns false'. Refute it at one input. -/
def fairNextWrong : ChangeSpec := { name := "fairNext", fn := fun _ => fun
  | [d1, d2, d3] => { results := [.lit (.bool false)], args := [d1, d2, d3] }
  | _ => none }
def FairNextWrongFalsely : Prop := fairNextRow.holds Try.pinned (OpenSpec.ofChange fairNextWrong)

/-- 'brokerlaw26.FairPlays': WHATEVER THE INPUT: true; the input reads as it did. -/
def fairPlaysSpec : ChangeSpec := { name := "fairPlays", fn := fun _ => fun
  | [d1, d2] => { results := [.lit (.bool true)], args := [d1, d2] }
  | _ => none }
def fairPlaysRow : OpenClaim := { program := "ytjkhfifnfgchgaa", sum := "674dc63a1c2ee35f3c092d810c2cfce8549acb036dba799a132a5da9125025c7", func := "broker/brokerlaw26.FairPlays", spec := "fairPlays", unfollowed := true, recurses := true, apart := false }
def FairPlaysSaid : Prop := fairPlaysRow.holds Try.pinned (OpenSpec.ofChange fairPlaysSpec)

/-- ITS FALSE NEIGHBOUR: 'it returns false'. Refute it at one input. -/
def fairPlaysWrong : ChangeSpec := { name := "fairPlays", fn := fun _ => fun
  | [d1, d2] => { results := [.lit (.bool false)], args := [d1, d2] }
  | _ => none }
def FairPlaysWrongFalsely : Prop := fairPlaysRow.holds Try.pinned (OpenSpec.ofChange fairPlaysWrong)

/-- 'brokerlaw26.FairKeeps': WHATEVER THE INPUT: true; the input reads as it did. -/
def fairKeepsSpec : ChangeSpec := { name := "fairKeeps", fn := fun _ => fun
  | [d1, d2, d3] => { results := [.lit (.bool true)], args := [d1, d2, d3] }
  | _ => none }
def fairKeepsRow : OpenClaim := { program := "ytjkhfifnfgchgaa", sum := "674dc63a1c2ee35f3c092d810c2cfce8549acb036dba799a132a5da9125025c7", func := "broker/brokerlaw26.FairKeeps", spec := "fairKeeps", unfollowed := true, recurses := true, apart := false }
def FairKeepsSaid : Prop := fairKeepsRow.holds Try.pinned (OpenSpec.ofChange fairKeepsSpec)

/-- ITS FALSE NEIGHBOUR: 'it returns false'. Refute it at one input. -/
def fairKeepsWrong : ChangeSpec := { name := "fairKeeps", fn := fun _ => fun
  | [d1, d2, d3] => { results := [.lit (.bool false)], args := [d1, d2, d3] }
  | _ => none }
def FairKeepsWrongFalsely : Prop := fairKeepsRow.holds Try.pinned (OpenSpec.ofChange fairKeepsWrong)

/-- 'brokerlaw26.FairTurns': WHATEVER THE INPUT: true; the input reads as it did. -/
def fairTurnsSpec : ChangeSpec := { name := "fairTurns", fn := fun _ => fun
  | [d1, d2, d3] => { results := [.lit (.bool true)], args := [d1, d2, d3] }
  | _ => none }
def fairTurnsRow : OpenClaim := { program := "ytjkhfifnfgchgaa", sum := "674dc63a1c2ee35f3c092d810c2cfce8549acb036dba799a132a5da9125025c7", func := "broker/brokerlaw26.FairTurns", spec := "fairTurns", unfollowed := true, recurses := true, apart := false }
def FairTurnsSaid : Prop := fairTurnsRow.holds Try.pinned (OpenSpec.ofChange fairTurnsSpec)

/-- ITS FALSE NEIGHBOUR: 'it returns false'. Refute it at one input. -/
def fairTurnsWrong : ChangeSpec := { name := "fairTurns", fn := fun _ => fun
  | [d1, d2, d3] => { results := [.lit (.bool false)], args := [d1, d2, d3] }
  | _ => none }
def FairTurnsWrongFalsely : Prop := fairTurnsRow.holds Try.pinned (OpenSpec.ofChange fairTurnsWrong)

/- THE SECOND FORM. 'bulk': how many values and letters a reading holds, each counted each time it is reached (what is shared counts as often as it is met; a slice's spare places count too). A statement '..UptoSaid' is the law's where the arguments, and the package variables that the reading takes, are together of bulk at most 1048576: NARROWER than '..Said'. Prove '..Said' where nothing that the law and all that it calls make is longer than what came in: it says more and counts as full. Else prove '..UptoSaid'. A law counts once. -/
mutual
def uptoBulk {H : Type} : DataW H → Nat
  | .lit (.string bytes) => bytes.length + 1
  | .lit _ => 1
  | .nil => 1
  | .ptr d => uptoBulk d + 1
  | .slice elems spare => uptoBulkAll elems + uptoBulkAll spare + 1
  | .agg parts => uptoBulkAll parts + 1
  | .iface _ d => uptoBulk d + 1
  | .map entries => uptoBulkEntries entries + 1
  | .held _ => 1
def uptoBulkAll {H : Type} : List (DataW H) → Nat
  | [] => 0
  | d :: r => uptoBulk d + uptoBulkAll r
def uptoBulkEntries {H : Type} : List (Lit × DataW H) → Nat
  | [] => 0
  | x :: r => uptoBulkEntry x + uptoBulkEntries r
def uptoBulkEntry {H : Type} : Lit × DataW H → Nat
  | (.string bytes, d) => bytes.length + uptoBulk d + 1
  | (_, d) => uptoBulk d + 1
 end
def uptoSmall : (H : Type) → List (DataW H) → Bool := fun _ ds => decide (uptoBulkAll ds ≤ 1048576)
def OpenSpec.upto (s : _root_.Go.ChangeSpec) : _root_.Go.OpenSpec := { _root_.Go.OpenSpec.ofChange s with cond := some uptoSmall }

/-- 'brokerlaw26.FairChecks', WHERE WHAT IT READS IS OF BULK AT MOST 1048576: true; the input reads as it did. -/
def fairChecksUptoRow : OpenClaim := { program := "ytjkhfifnfgchgaa", sum := "674dc63a1c2ee35f3c092d810c2cfce8549acb036dba799a132a5da9125025c7", func := "broker/brokerlaw26.FairChecks", spec := "fairChecks", unfollowed := true, recurses := true, apart := false, narrowed := true }
def FairChecksUptoSaid : Prop := fairChecksUptoRow.holds Try.pinned (OpenSpec.upto fairChecksSpec)

/-- 'brokerlaw26.FairNext', WHERE WHAT IT READS IS OF BULK AT MOST 1048576: true; the input reads as it did. -/
def fairNextUptoRow : OpenClaim := { program := "ytjkhfifnfgchgaa", sum := "674dc63a1c2ee35f3c092d810c2cfce8549acb036dba799a132a5da9125025c7", func := "broker/brokerlaw26.FairNext", spec := "fairNext", unfollowed := true, recurses := true, apart := false, narrowed := true }
def FairNextUptoSaid : Prop := fairNextUptoRow.holds Try.pinned (OpenSpec.upto fairNextSpec)

/-- 'brokerlaw26.FairPlays', WHERE WHAT IT READS IS OF BULK AT MOST 1048576: true; the input reads as it did. -/
def fairPlaysUptoRow : OpenClaim := { program := "ytjkhfifnfgchgaa", sum := "674dc63a1c2ee35f3c092d810c2cfce8549acb036dba799a132a5da9125025c7", func := "broker/brokerlaw26.FairPlays", spec := "fairPlays", unfollowed := true, recurses := true, apart := false, narrowed := true }
def FairPlaysUptoSaid : Prop := fairPlaysUptoRow.holds Try.pinned (OpenSpec.upto fairPlaysSpec)

/-- 'brokerlaw26.FairKeeps', WHERE WHAT IT READS IS OF BULK AT MOST 1048576: true; the input reads as it did. -/
def fairKeepsUptoRow : OpenClaim := { program := "ytjkhfifnfgchgaa", sum := "674dc63a1c2ee35f3c092d810c2cfce8549acb036dba799a132a5da9125025c7", func := "broker/brokerlaw26.FairKeeps", spec := "fairKeeps", unfollowed := true, recurses := true, apart := false, narrowed := true }
def FairKeepsUptoSaid : Prop := fairKeepsUptoRow.holds Try.pinned (OpenSpec.upto fairKeepsSpec)

/-- 'brokerlaw26.FairTurns', WHERE WHAT IT READS IS OF BULK AT MOST 1048576: true; the input reads as it did. -/
def fairTurnsUptoRow : OpenClaim := { program := "ytjkhfifnfgchgaa", sum := "674dc63a1c2ee35f3c092d810c2cfce8549acb036dba799a132a5da9125025c7", func := "broker/brokerlaw26.FairTurns", spec := "fairTurns", unfollowed := true, recurses := true, apart := false, narrowed := true }
def FairTurnsUptoSaid : Prop := fairTurnsUptoRow.holds Try.pinned (OpenSpec.upto fairTurnsSpec)

end Rows
end Go.Proofs.Ytjkhfifnfgchgaa
