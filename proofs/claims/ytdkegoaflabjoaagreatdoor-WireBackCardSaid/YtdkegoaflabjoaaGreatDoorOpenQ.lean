/-
A list of properties that came in, opened for the walks. Conditions: it reads as data.
-/
import Derived.Test.YtdkegoaflabjoaaGreatDoorMsg
import Derived.Deep.SlicePairs
import Derived.OpenShut
import Derived.ProofKit
import Derived.SizedLaws
import Derived.SliceStrings
namespace Go.Proofs.YtdkegoaflabjoaaGreatDoor
open Go.ChangeShapes Go.WideShapes Go.ChangeAt Go.WideMaps Go.WideElems Go.RowKit

theorem laidOutAll : laidOutB Tryz.prog = true := by kernel_rfl
theorem cellsStr : Tryz.prog.cellsOf 9 = 1 := by kernel_rfl
theorem cellsProp : Tryz.prog.cellsOf 114 = 2 := by kernel_rfl
/-- cells behind an address that holds something -/
theorem plain_addr {w : World} {a : Addr} {v : Value} (h : w.cell? (a.add 0) = some v) : ∃ b o, a = ⟨b, o, none⟩ ∧ b < w.heap.size := by
 obtain ⟨b, off, spot⟩ := a
 have hspot : spot = none := by simpa [Addr.add] using World.cell?_spot h
 subst hspot
 refine ⟨b, off, rfl, ?_⟩
 rcases Nat.lt_or_ge b w.heap.size with h' | h'
 · exact h'
 · have : w.heap[b]? = none := Array.getElem?_eq_none h'
   simp [World.cell?, Addr.add, this] at h
theorem add_plain (b o j : Nat) : (⟨b, o + j, none⟩ : Addr) = (⟨b, o, none⟩ : Addr).add j := by
 unfold Addr.add
 split
 · next h => subst h; rfl
 · rfl
/-- a value's text -/
def strV : Value → ByteArray
 | .string s => s
 | _ => ⟨#[]⟩
end Go.Proofs.YtdkegoaflabjoaaGreatDoor
