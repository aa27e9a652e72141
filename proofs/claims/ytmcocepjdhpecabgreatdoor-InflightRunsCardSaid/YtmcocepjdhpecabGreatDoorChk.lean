/-
  What the small checks of packet answer. Conditions: texts fit a slice; the tables of package unicode/utf8 are there.
-/
import Derived.Test.YtmcocepjdhpecabGreatDoorMbx
import Derived.Test.YtmcocepjdhpecabGreatDoorCheck
import Derived.Test.YtmcocepjdhpecabGreatDoorSame
namespace Go.Proofs.YtmcocepjdhpecabGreatDoor
open Go.RowKit

theorem reti {a b : Int} (h : a = b) : Ending.returned (.int .i64 a) = .returned (.int .i64 b) := by rw [h]
theorem bcell {W w1 : World} (hb : Below W.heap.size W w1) : (∀ b o, b < W.heap.size → w1.cell? ⟨b, o, none⟩ = W.cell? ⟨b, o, none⟩) ∧ (∀ b o, b < W.heap.size → w1.frozen? ⟨b, o, none⟩ = W.frozen? ⟨b, o, none⟩) :=
  ⟨fun b o h => hb.cell (p := ⟨b, o, none⟩) h, fun b o h => hb.frozen (p := ⟨b, o, none⟩) h⟩
def within3 (n first last : Int) : Bool := decide (first ≤ n) && decide (n ≤ last)
theorem w3_yes {n first last : Int} (h : ¬ (n < first ∨ last < n)) : within3 n first last = true := by unfold within3; simp; omega
theorem w3_no {n first last : Int} (h : n < first ∨ last < n) : within3 n first last = false := by unfold within3; rw [Bool.eq_false_iff]; simp; omega
end Go.Proofs.YtmcocepjdhpecabGreatDoor
