/-
  What fair of brokerlaw03 answers. Conditions: the lists read as data.
-/
import Derived.Test.YtijdfadmmloclaaLawK2
namespace Go.Proofs.Ytijdfadmmloclaa
open Go.RowKit

theorem short_any2 (A : Option Addr) (c : Nat) (xs : List ByteArray) (w : World) (B : Nat) (h : SL w B A xs) :
    Calls Try.prog 21 #[.slice A xs.length c] w fun e w' => e = .returned (.bool (shortR xs)) ∧ w = w' := by
  by_cases h24 : 24 < xs.length
  · rw [short_long h24]
    clear h
    go_enter Try.func21, Try.ntmps21
    go_wp2
    go_ret
    exact ⟨rfl, rfl⟩
  · exact short_any A c xs w B h (by omega)

def fairR (n0 n1 : Nat) (S : ByteArray) (L : List ByteArray) : Bool := decide (n0 ≤ 400) && decide (n1 ≤ 400) && decide (S.size ≤ 400) && shortR L

set_option maxHeartbeats 1000000 in
theorem fair_any (A0 : Option Addr) (n0 c0 : Nat) (A1 : Option Addr) (n1 c1 : Nat) (N : Int) (S : ByteArray) (A4 : Option Addr) (c4 : Nat) (L : List ByteArray) (w : World) (h : SL w w.heap.size A4 L) :
    Calls Try.prog 35 #[.agg #[.slice A0 n0 c0, .slice A1 n1 c1, .int .i64 N, .string S, .slice A4 L.length c4]] w fun e w' => e = .returned (.bool (fairR n0 n1 S L)) ∧ Below w.heap.size w w' := by
  unfold fairR
  have HSH := Lib.hid (fun o => short_any2 A4 c4 L (w.alloc o) _ (h.below ((Below.refl _ _).alloc (Nat.le_refl _) o)))
  generalize shortR L = sh at HSH
  generalize L.length = n4 at HSH
  clear h
  by_cases a0 : n0 ≤ 400
  · have q0 : decide ((n0 : Int) ≤ 400) = true := decide_eq_true (by omega)
    rw [decide_eq_true a0]
    clear a0
    by_cases a1 : n1 ≤ 400
    · have q1 : decide ((n1 : Int) ≤ 400) = true := decide_eq_true (by omega)
      rw [decide_eq_true a1]
      clear a1
      by_cases a2 : S.size ≤ 400
      · have q2 : decide ((S.size : Int) ≤ 400) = true := decide_eq_true (by omega)
        rw [decide_eq_true a2]
        clear a2
        go_enter Try.func35, Try.ntmps35
        go_wp2_with (go_at_call 21; refine (HSH.out _).mono ?_; rintro e w1 ⟨rfl, rfl⟩)
        all_goals go_ret
        all_goals exact ⟨rfl, below_new w _⟩
      · have q2 : decide ((S.size : Int) ≤ 400) = false := decide_eq_false (by omega)
        rw [decide_eq_false a2]
        clear a2
        go_enter Try.func35, Try.ntmps35
        go_wp2_with (go_at_call 21; refine (HSH.out _).mono ?_; rintro e w1 ⟨rfl, rfl⟩)
        all_goals go_ret
        all_goals exact ⟨rfl, below_new w _⟩
    · have q1 : decide ((n1 : Int) ≤ 400) = false := decide_eq_false (by omega)
      rw [decide_eq_false a1]
      clear a1
      go_enter Try.func35, Try.ntmps35
      go_wp2_with (go_at_call 21; refine (HSH.out _).mono ?_; rintro e w1 ⟨rfl, rfl⟩)
      all_goals go_ret
      all_goals exact ⟨rfl, below_new w _⟩
  · have q0 : decide ((n0 : Int) ≤ 400) = false := decide_eq_false (by omega)
    rw [decide_eq_false a0]
    clear a0
    go_enter Try.func35, Try.ntmps35
    go_wp2_with (go_at_call 21; refine (HSH.out _).mono ?_; rintro e w1 ⟨rfl, rfl⟩)
    all_goals go_ret
    all_goals exact ⟨rfl, below_new w _⟩
end Go.Proofs.Ytijdfadmmloclaa
