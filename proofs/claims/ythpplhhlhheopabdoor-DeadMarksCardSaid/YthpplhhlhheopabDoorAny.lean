/-
  The library's ContainsAny at the two wildcards: true exactly if the text holds one of them. Condition: the text is shorter than 4294967281 bytes.
-/
import Derived.Test.YthpplhhlhheopabDoorAnyA
import Derived.Test.YthpplhhlhheopabDoorAnyB
namespace Go.Proofs.YthpplhhlhheopabDoor.S1
open Go.RowKit
open Go.Lib (run_next_any_at run_next_ascii_at run_next_end_at iterAt_heap below_iterAt)

/-- ContainsAny's answer -/
def anyW (l : List UInt8) : Bool := !T.wildFree l
def notW (c : UInt8) : Bool := decide (c ≠ 43) && decide (c ≠ 35)
theorem notW_high (c : UInt8) (h : 128 ≤ c.toNat) : notW c = true := by
  unfold notW
  simp only [Bool.and_eq_true, decide_eq_true_eq]
  exact ⟨fun e => by rw [e] at h; exact absurd h (by decide), fun e => by rw [e] at h; exact absurd h (by decide)⟩
theorem wildFree_all (l : List UInt8) : T.wildFree l = l.all notW := rfl

def AnyPost (s : ByteArray) (W : World) (e : Ending) (w' : World) : Prop := ∃ n : Int, e = .returned (.int .i64 n) ∧ decide (0 ≤ n) = anyW (dl s) ∧ Below W.heap.size W w'
theorem any_none {s : ByteArray} (h : Free (dl s) notW s.size) : decide ((0 : Int) ≤ -1) = anyW (dl s) := by
  unfold anyW
  rw [wildFree_all, Free.all (by rw [← size_dl]; exact h)]; rfl
theorem any_some {s : ByteArray} {i : Nat} {n : Nat} (hi : i < s.size) (h : notW ((dl s).getD i 0) = false) : decide (0 ≤ (n : Int)) = anyW (dl s) := by
  unfold anyW
  rw [wildFree_all, free_bad (by rw [← size_dl]; exact hi) h, decide_eq_true (by omega)]; rfl

end Go.Proofs.YthpplhhlhheopabDoor.S1
