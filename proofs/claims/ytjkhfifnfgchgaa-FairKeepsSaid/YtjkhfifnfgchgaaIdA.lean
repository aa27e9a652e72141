/-
  What the specification of the pools answers: Left, Has, Ints, after, Check. Conditions: the pool reads as data.
-/
import Derived.Test.YtjkhfifnfgchgaaIdG
namespace Go.Proofs.Ytjkhfifnfgchgaa.S2
open Go.RowKit

/-- a pool by value -/
abbrev pv (A : Option Addr) (c : Nat) (X : List Int) (L : Int) : Value := .agg #[.slice A X.length c, .int .i64 L]

theorem ints_none {X Y : List Int} (h : X.length ≠ Y.length) : decide (X = Y) = false := decide_eq_false (fun e => h (by rw [e]))
theorem same_dec (X Y : List Int) (L M : Int) : decide ((X, L) = (Y, M)) = (L == M && decide (X = Y)) := by
  by_cases h1 : X = Y <;> by_cases h2 : L = M <;> simp [h1, h2]
end Go.Proofs.Ytjkhfifnfgchgaa.S2
