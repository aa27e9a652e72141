/-
  What the specification of the buckets answers. Conditions: the numbers fit an int; but for Check, the bucket is valid and the instants are instants.
-/
import Derived.Test.YtmcocepjdhpecaaLiP
import Derived.Test.YtmcocepjdhpecaaIdG
namespace Go.Proofs.Ytmcocepjdhpecaa
open Go.RowKit

/-- a bucket by value -/
abbrev bk (r b v t : Int) : Value := .agg #[.int .i64 r, .int .i64 b, .int .i64 v, .int .i64 t]
abbrev bkC (r b v t : Int) : List Value := [.int .i64 r, .int .i64 b, .int .i64 v, .int .i64 t]

set_option maxHeartbeats 1000000 in
theorem rIs_any (n m : Int) (w : World) : Calls Try.prog 27 #[.int .i64 n, .int .i64 m] w fun e w' => e = .returned (.bool (isL n m)) ∧ w = w' := by
  unfold isL
  by_cases h : 0 ≤ n
  · rw [decide_eq_true h, Bool.true_and]
    have q : decide (0 ≤ n) = true := decide_eq_true h
    generalize hx : decide (n ≤ m) = x
    clear h
    go_enter Try.func27, Try.ntmps27
    go_wp2
    go_ret
    exact ⟨rfl, rfl⟩
  · rw [decide_eq_false h, Bool.false_and]
    have q : decide (0 ≤ n) = false := decide_eq_false h
    clear h
    go_enter Try.func27, Try.ntmps27
    go_wp2
    go_ret
    exact ⟨rfl, rfl⟩

set_option maxHeartbeats 2000000 in
theorem rCheckL_any (r b v t : Int) (w : World) : Calls Try.prog 11 #[bk r b v t] w fun e w' => e = .returned (.int .i64 (ckL r b v t)) ∧ Below w.heap.size w w' := by
  unfold ckL chkL
  have C1 := Lib.hid (fun w => rIs_any r 1099511627776 w)
  have C2 := Lib.hid (fun w => rIs_any b 1099511627776 w)
  have C3 := Lib.hid (fun w => rIs_any v b w)
  have C4 := Lib.hid (fun w => rIs_any t 1099511627776 w)
  generalize isL r 1099511627776 = x1 at *
  generalize isL b 1099511627776 = x2 at *
  generalize isL v b = x3 at *
  generalize isL t 1099511627776 = x4 at *
  cases x1
  · go_enter Try.func11, Try.ntmps11
    go_wp2_with fail
    refine (C1.out _).mono ?_
    rintro e w' ⟨rfl, rfl⟩
    go_wp2_with fail
    go_ret
    exact ⟨rfl, (Below.refl _ _).alloc (Nat.le_refl _) _⟩
  cases x2
  · go_enter Try.func11, Try.ntmps11
    go_wp2_with fail
    refine (C1.out _).mono ?_
    rintro e w' ⟨rfl, rfl⟩
    go_wp2_with fail
    refine (C2.out _).mono ?_
    rintro e w' ⟨rfl, rfl⟩
    go_wp2_with fail
    go_ret
    exact ⟨rfl, (Below.refl _ _).alloc (Nat.le_refl _) _⟩
  cases x3
  · go_enter Try.func11, Try.ntmps11
    go_wp2_with fail
    refine (C1.out _).mono ?_
    rintro e w' ⟨rfl, rfl⟩
    go_wp2_with fail
    refine (C2.out _).mono ?_
    rintro e w' ⟨rfl, rfl⟩
    go_wp2_with fail
    refine (C3.out _).mono ?_
    rintro e w' ⟨rfl, rfl⟩
    go_wp2_with fail
    go_ret
    exact ⟨rfl, (Below.refl _ _).alloc (Nat.le_refl _) _⟩
  cases x4
  · go_enter Try.func11, Try.ntmps11
    go_wp2_with fail
    refine (C1.out _).mono ?_
    rintro e w' ⟨rfl, rfl⟩
    go_wp2_with fail
    refine (C2.out _).mono ?_
    rintro e w' ⟨rfl, rfl⟩
    go_wp2_with fail
    refine (C3.out _).mono ?_
    rintro e w' ⟨rfl, rfl⟩
    go_wp2_with fail
    refine (C4.out _).mono ?_
    rintro e w' ⟨rfl, rfl⟩
    go_wp2_with fail
    go_ret
    exact ⟨rfl, (Below.refl _ _).alloc (Nat.le_refl _) _⟩
  · go_enter Try.func11, Try.ntmps11
    go_wp2_with fail
    refine (C1.out _).mono ?_
    rintro e w' ⟨rfl, rfl⟩
    go_wp2_with fail
    refine (C2.out _).mono ?_
    rintro e w' ⟨rfl, rfl⟩
    go_wp2_with fail
    refine (C3.out _).mono ?_
    rintro e w' ⟨rfl, rfl⟩
    go_wp2_with fail
    refine (C4.out _).mono ?_
    rintro e w' ⟨rfl, rfl⟩
    go_wp2_with fail
    go_ret
    exact ⟨rfl, (Below.refl _ _).alloc (Nat.le_refl _) _⟩

theorem tdiv_nonneg {a b : Int} (ha : 0 ≤ a) (_hb : 0 < b) : a.tdiv b = a / b := Int.tdiv_eq_ediv_of_nonneg ha
theorem tmod_nonneg {a b : Int} (ha : 0 ≤ a) : a.tmod b = a % b := Int.tmod_eq_emod_of_nonneg ha

set_option maxHeartbeats 2000000 in
theorem rTokens_any (r b v t now : Int) (h : okL r b v t) (h0 : 0 ≤ now) (h1 : now ≤ 1099511627776) (w : World) :
    Calls Try.prog 21 #[bk r b v t, .int .i64 now] w fun e w' => e = .returned (.int .i64 (tokL r b v t now)) ∧ Below w.heap.size w w' := by
  have hb0 : Below w.heap.size w (w.alloc (.cells #[.int .i64 r, .int .i64 b, .int .i64 v, .int .i64 t] 23)) := (Below.refl _ _).alloc (Nat.le_refl _) _
  have HB := Lib.hid hb0
  have HOK := h
  obtain ⟨g1, g2, g3, g4, g5, g6, g7, g8⟩ := h
  by_cases c1 : now ≤ t
  · have e : tokL r b v t now = v := tok_before c1
    rw [e]
    have q1 : decide (now ≤ t) = true := decide_eq_true c1
    clear c1 e hb0 HOK g1 g2 g3 g4 g5 g6 g7 g8 h0 h1
    go_enter Try.func21, Try.ntmps21
    go_wp2
    go_ret
    exact ⟨rfl, HB.out⟩
  have q1 : decide (now ≤ t) = false := decide_eq_false c1
  by_cases c2 : r = 0
  · have e : tokL r b v t now = v := by unfold tokL; rw [if_pos (.inr c2)]
    rw [e]
    have q2 : (r == 0) = true := by simp [c2]
    clear c1 c2 e hb0 HOK g1 g2 g3 g4 g5 g6 g7 g8 h0 h1
    go_enter Try.func21, Try.ntmps21
    go_wp2
    go_ret
    exact ⟨rfl, HB.out⟩
  have q2 : (r == 0) = false := by simp [c2]
  have w1 : wrap64 (b - v) = b - v := wrap64_id _ (by omega) (by omega)
  have w2 : wrap64 (now - t) = now - t := wrap64_id _ (by omega) (by omega)
  have d1 : (b - v).tdiv r = (b - v) / r := tdiv_nonneg (by omega) (by omega)
  have dn : 0 ≤ (b - v) / r := Int.ediv_nonneg (by omega) (by omega)
  have dle : (b - v) / r ≤ b - v := Int.ediv_le_self _ (by omega)
  have w3 : wrap64 ((b - v) / r) = (b - v) / r := wrap64_id _ (by omega) (by omega)
  by_cases c3 : (b - v) / r < now - t
  · have e : tokL r b v t now = b := by unfold tokL; rw [if_neg (by omega), if_pos c3]
    rw [e]
    have q3 : decide ((b - v) / r < now - t) = true := decide_eq_true c3
    have q3' : decide ((b - v).tdiv r < now - t) = true := by rw [d1]; exact q3
    have hr1 : 1 ≤ r := by omega
    have hbv : 0 ≤ b - v ∧ b - v ≤ 9223372036854775807 := by omega
    clear c1 c3 e hb0 HOK
    go_enter Try.func21, Try.ntmps21
    go_wp2
    go_quiet (fail)
    go_wp2
    go_ret
    exact ⟨rfl, stepB HB.out (bDN _ _)⟩
  · have e : tokL r b v t now = v + r * (now - t) := by unfold tokL; rw [if_neg (by omega), if_neg c3]
    rw [e]
    have m1 := mul_le_div (a := b - v) (r := r) (d := now - t) (by omega) (by omega)
    have m0 : 0 ≤ r * (now - t) := Int.mul_nonneg (by omega) (by omega)
    have q3 : decide ((b - v) / r < now - t) = false := decide_eq_false c3
    have q3' : decide ((b - v).tdiv r < now - t) = false := by rw [d1]; exact q3
    have w4 : wrap64 (r * (now - t)) = r * (now - t) := wrap64_id _ (by omega) (by omega)
    have w5 : wrap64 (v + r * (now - t)) = v + r * (now - t) := wrap64_id _ (by omega) (by omega)
    have hr1 : 1 ≤ r := by omega
    have hbv : 0 ≤ b - v ∧ b - v ≤ 9223372036854775807 := by omega
    clear c1 c3 e hb0 HOK
    go_enter Try.func21, Try.ntmps21
    go_wp2
    go_quiet (fail)
    go_wp2
    go_ret
    exact ⟨ret_i (by first | rfl | exact w5), stepB HB.out (bDN _ _)⟩

set_option maxHeartbeats 2000000 in
theorem rSameL_any (r b v t r' b' v' t' : Int) (w : World) :
    Calls Try.prog 16 #[bk r b v t, bk r' b' v' t'] w fun e w' => e = .returned (.bool (r == r' && b == b' && v == v' && t == t')) ∧ Below w.heap.size w w' := by
  have HB := Lib.hid (stepB ((Below.refl w.heap.size w).alloc (Nat.le_refl _) (.cells #[.int .i64 r, .int .i64 b, .int .i64 v, .int .i64 t] 23)) ((Below.refl _ _).alloc (Nat.le_refl _) (.cells #[.int .i64 r', .int .i64 b', .int .i64 v', .int .i64 t'] 23)))
  generalize h1 : (r == r') = x1
  generalize h2 : (b == b') = x2
  generalize h3 : (v == v') = x3
  generalize h4 : (t == t') = x4
  cases x1 <;> cases x2 <;> cases x3 <;>
    (go_enter Try.func16, Try.ntmps16
     go_wp2
     go_ret
     exact ⟨rfl, HB.out⟩)
theorem instant_any (n : Int) (w : World) : Calls Try.prog 20 #[.int .i64 n] w fun e w' => e = .returned (.bool (isL n 1099511627776)) ∧ w = w' := by
  unfold isL
  by_cases h : 0 ≤ n
  · rw [decide_eq_true h, Bool.true_and]
    have q : decide (0 ≤ n) = true := decide_eq_true h
    generalize hx : decide (n ≤ 1099511627776) = x
    clear h
    go_enter Try.func20, Try.ntmps20
    go_wp2
    go_ret
    exact ⟨rfl, rfl⟩
  · rw [decide_eq_false h, Bool.false_and]
    have q : decide (0 ≤ n) = false := decide_eq_false h
    clear h
    go_enter Try.func20, Try.ntmps20
    go_wp2
    go_ret
    exact ⟨rfl, rfl⟩
end Go.Proofs.Ytmcocepjdhpecaa
