/-
  What the program's small functions on buckets answer: within, require, the deferred closures that recover, Check. Conditions: none.
-/
import Derived.Test.YtmcocepjdhpecaaLiC
import Derived.Recover
import Derived.WalkLawsBesides
namespace Go.Proofs.Ytmcocepjdhpecaa
open Go.RowKit

set_option maxHeartbeats 1000000 in
theorem lWithin_any (n m : Int) (w : World) : Calls Try.prog 26 #[.int .i64 n, .int .i64 m] w fun e w' => e = .returned (.bool (isL n m)) ∧ w = w' := by
  unfold isL
  by_cases h : 0 ≤ n
  · rw [decide_eq_true h, Bool.true_and]
    have q : decide (0 ≤ n) = true := decide_eq_true h
    generalize hx : decide (n ≤ m) = x
    clear h
    go_enter Try.func26, Try.ntmps26
    go_wp2
    go_ret
    exact ⟨rfl, rfl⟩
  · rw [decide_eq_false h, Bool.false_and]
    have q : decide (0 ≤ n) = false := decide_eq_false h
    clear h
    go_enter Try.func26, Try.ntmps26
    go_wp2
    go_ret
    exact ⟨rfl, rfl⟩
/-- what gives up with an error -/
abbrev quitE (c : Int) : PanicEntry := { v := .iface 25 (.int .i64 c), recovered := false }
theorem lRequire_yes (c : Int) (w : World) : Calls Try.prog 25 #[.bool true, .int .i64 c] w fun e w' => e = .returned (.tuple #[]) ∧ w = w' := by
  go_enter Try.func25, Try.ntmps25
  go_wp2
  go_end0
  exact ⟨rfl, rfl⟩
theorem lRequire_no (c : Int) (w : World) : Calls Try.prog 25 #[.bool false, .int .i64 c] w fun e w' => e = .panicked [quitE c] ∧ w = w' := by
  go_enter Try.func25, Try.ntmps25
  go_wp2
  exact ⟨rfl, rfl, rfl⟩

theorem assert_hit (c : Int) (w : World) : (Instr.typeAssert (.iface 25 (.int .i64 c)) 20 25 true).run Try.prog w = .ok (.tuple #[.int .i64 c, .bool true]) w := by kernel_rfl
theorem assert_nil (w : World) : (Instr.typeAssert .nilIface 20 25 true).run Try.prog w = .ok (.tuple #[.int .i64 0, .bool false]) w := by kernel_rfl
theorem lCheckD_panic (p : Addr) (c x : Int) (older : List PanicEntry) (w : World) (hc : w.cell? p = some (.int .i64 x)) (hz : w.frozen? p = false) :
    CallsD Try.prog 24 #[.pointer (some p)] (.panicking (quitE c :: older)) w fun e u' w' =>
      e = .returned (.tuple #[]) ∧ u' = .panicking ({ quitE c with recovered := true } :: older) ∧ w' = w.setCell p (.int .i64 c) := by
  have ht := assert_hit c
  refine callsD_of_wpS Try.func24 rfl fun c₀ cs hu => ?_
  apply wpS_region
  simp [wpOpsS, go_sem, recoverD, hu, Try.ntmps24, hc, hz, ht, bodyPostS, results, Try.results24]
theorem lCheckD_idle (p : Addr) (x : Int) (w : World) (hc : w.cell? p = some (.int .i64 x)) (hz : w.frozen? p = false) :
    CallsD Try.prog 24 #[.pointer (some p)] .returning w fun e u' w' => e = .returned (.tuple #[]) ∧ u' = .returning ∧ w' = w.setCell p (.int .i64 0) := by
  have ht := assert_nil
  refine callsD_of_wpS Try.func24 rfl fun c₀ cs hu => ?_
  apply wpS_region
  simp [wpOpsS, go_sem, recoverD, hu, Try.ntmps24, hc, hz, ht, bodyPostS, results, Try.results24]
  cases c₀
  simp_all
theorem lChargeD_panic (p : Addr) (c x : Int) (older : List PanicEntry) (w : World) (hc : w.cell? p = some (.int .i64 x)) (hz : w.frozen? p = false) :
    CallsD Try.prog 30 #[.pointer (some p)] (.panicking (quitE c :: older)) w fun e u' w' =>
      e = .returned (.tuple #[]) ∧ u' = .panicking ({ quitE c with recovered := true } :: older) ∧ w' = w.setCell p (.int .i64 c) := by
  have ht := assert_hit c
  refine callsD_of_wpS Try.func30 rfl fun c₀ cs hu => ?_
  apply wpS_region
  simp [wpOpsS, go_sem, recoverD, hu, Try.ntmps30, hc, hz, ht, bodyPostS, results, Try.results30]
theorem lChargeD_idle (p : Addr) (x : Int) (w : World) (hc : w.cell? p = some (.int .i64 x)) (hz : w.frozen? p = false) :
    CallsD Try.prog 30 #[.pointer (some p)] .returning w fun e u' w' => e = .returned (.tuple #[]) ∧ u' = .returning ∧ w' = w.setCell p (.int .i64 0) := by
  have ht := assert_nil
  refine callsD_of_wpS Try.func30 rfl fun c₀ cs hu => ?_
  apply wpS_region
  simp [wpOpsS, go_sem, recoverD, hu, Try.ntmps30, hc, hz, ht, bodyPostS, results, Try.results30]
  cases c₀
  simp_all
theorem lRefundD_panic (p : Addr) (c x : Int) (older : List PanicEntry) (w : World) (hc : w.cell? p = some (.int .i64 x)) (hz : w.frozen? p = false) :
    CallsD Try.prog 31 #[.pointer (some p)] (.panicking (quitE c :: older)) w fun e u' w' =>
      e = .returned (.tuple #[]) ∧ u' = .panicking ({ quitE c with recovered := true } :: older) ∧ w' = w.setCell p (.int .i64 c) := by
  have ht := assert_hit c
  refine callsD_of_wpS Try.func31 rfl fun c₀ cs hu => ?_
  apply wpS_region
  simp [wpOpsS, go_sem, recoverD, hu, Try.ntmps31, hc, hz, ht, bodyPostS, results, Try.results31]
theorem lRefundD_idle (p : Addr) (x : Int) (w : World) (hc : w.cell? p = some (.int .i64 x)) (hz : w.frozen? p = false) :
    CallsD Try.prog 31 #[.pointer (some p)] .returning w fun e u' w' => e = .returned (.tuple #[]) ∧ u' = .returning ∧ w' = w.setCell p (.int .i64 0) := by
  have ht := assert_nil
  refine callsD_of_wpS Try.func31 rfl fun c₀ cs hu => ?_
  apply wpS_region
  simp [wpOpsS, go_sem, recoverD, hu, Try.ntmps31, hc, hz, ht, bodyPostS, results, Try.results31]
  cases c₀
  simp_all

set_option maxHeartbeats 4000000 in
theorem lCheckL_any (r b v t : Int) (w : World) : Calls Try.prog 10 #[bk r b v t] w fun e w' => e = .returned (.int .i64 (ckL r b v t)) ∧ Below w.heap.size w w' := by
  unfold ckL chkL
  have hmf : ∀ (fn : Fn) (first cap : Array Value) (w : World), (Instr.makeFunc fn first cap).run Try.prog w = .ok (.func fn first cap) w := fun _ _ _ _ => rfl
  have HB : Hid (Below w.heap.size w ((w.alloc (.cells #[.int .i64 r, .int .i64 b, .int .i64 v, .int .i64 t] 23)).alloc (.cells #[.int .i64 0] 25))) := Lib.hid (stepB (below_new w _) (below_new _ _))
  have C1 := Lib.hid (fun w => lWithin_any r 1099511627776 w)
  have C2 := Lib.hid (fun w => lWithin_any b 1099511627776 w)
  have C3 := Lib.hid (fun w => lWithin_any v b w)
  have C4 := Lib.hid (fun w => lWithin_any t 1099511627776 w)
  generalize isL r 1099511627776 = x1 at *
  generalize isL b 1099511627776 = x2 at *
  generalize isL v b = x3 at *
  generalize isL t 1099511627776 = x4 at *
  cases x1
  · go_enter_defers Try.func10, Try.ntmps10
    go_wp2_with fail
    refine (C1.out _).mono ?_
    rintro e w' ⟨rfl, rfl⟩
    go_wp2_with fail
    refine (lRequire_no 1 _).mono ?_
    rintro e w' ⟨rfl, rfl⟩
    go_wp2_with fail
    refine leaves_cons (f := 24) (args := #[.pointer (some ⟨w.heap.size + 1, 0, none⟩)]) (by simp) (by simp [go_sem]) ?_
    refine (lCheckD_panic ⟨w.heap.size + 1, 0, none⟩ 1 0 [] _ ?_ ?_).mono ?_
    · simp [go_sem]
    · simp [go_sem]
    rintro e u' w'' ⟨rfl, rfl, rfl⟩
    refine ⟨.int .i64 1, by simp [results, Try.results10, go_sem], rfl, ?_⟩
    repeat (first | exact HB.out | refine Below.setCell ?_ (Nat.le_succ _) _)
  cases x2
  · go_enter_defers Try.func10, Try.ntmps10
    go_wp2_with fail
    refine (C1.out _).mono ?_
    rintro e w' ⟨rfl, rfl⟩
    go_wp2_with fail
    refine (lRequire_yes 1 _).mono ?_
    rintro e w' ⟨rfl, rfl⟩
    go_wp2_with fail
    refine (C2.out _).mono ?_
    rintro e w' ⟨rfl, rfl⟩
    go_wp2_with fail
    refine (lRequire_no 1 _).mono ?_
    rintro e w' ⟨rfl, rfl⟩
    go_wp2_with fail
    refine leaves_cons (f := 24) (args := #[.pointer (some ⟨w.heap.size + 1, 0, none⟩)]) (by simp) (by simp [go_sem]) ?_
    refine (lCheckD_panic ⟨w.heap.size + 1, 0, none⟩ 1 0 [] _ ?_ ?_).mono ?_
    · simp [go_sem]
    · simp [go_sem]
    rintro e u' w'' ⟨rfl, rfl, rfl⟩
    refine ⟨.int .i64 1, by simp [results, Try.results10, go_sem], rfl, ?_⟩
    repeat (first | exact HB.out | refine Below.setCell ?_ (Nat.le_succ _) _)
  cases x3
  · go_enter_defers Try.func10, Try.ntmps10
    go_wp2_with fail
    refine (C1.out _).mono ?_
    rintro e w' ⟨rfl, rfl⟩
    go_wp2_with fail
    refine (lRequire_yes 1 _).mono ?_
    rintro e w' ⟨rfl, rfl⟩
    go_wp2_with fail
    refine (C2.out _).mono ?_
    rintro e w' ⟨rfl, rfl⟩
    go_wp2_with fail
    refine (lRequire_yes 1 _).mono ?_
    rintro e w' ⟨rfl, rfl⟩
    go_wp2_with fail
    refine (C3.out _).mono ?_
    rintro e w' ⟨rfl, rfl⟩
    go_wp2_with fail
    refine (lRequire_no 1 _).mono ?_
    rintro e w' ⟨rfl, rfl⟩
    go_wp2_with fail
    refine leaves_cons (f := 24) (args := #[.pointer (some ⟨w.heap.size + 1, 0, none⟩)]) (by simp) (by simp [go_sem]) ?_
    refine (lCheckD_panic ⟨w.heap.size + 1, 0, none⟩ 1 0 [] _ ?_ ?_).mono ?_
    · simp [go_sem]
    · simp [go_sem]
    rintro e u' w'' ⟨rfl, rfl, rfl⟩
    refine ⟨.int .i64 1, by simp [results, Try.results10, go_sem], rfl, ?_⟩
    repeat (first | exact HB.out | refine Below.setCell ?_ (Nat.le_succ _) _)
  cases x4
  · go_enter_defers Try.func10, Try.ntmps10
    go_wp2_with fail
    refine (C1.out _).mono ?_
    rintro e w' ⟨rfl, rfl⟩
    go_wp2_with fail
    refine (lRequire_yes 1 _).mono ?_
    rintro e w' ⟨rfl, rfl⟩
    go_wp2_with fail
    refine (C2.out _).mono ?_
    rintro e w' ⟨rfl, rfl⟩
    go_wp2_with fail
    refine (lRequire_yes 1 _).mono ?_
    rintro e w' ⟨rfl, rfl⟩
    go_wp2_with fail
    refine (C3.out _).mono ?_
    rintro e w' ⟨rfl, rfl⟩
    go_wp2_with fail
    refine (lRequire_yes 1 _).mono ?_
    rintro e w' ⟨rfl, rfl⟩
    go_wp2_with fail
    refine (C4.out _).mono ?_
    rintro e w' ⟨rfl, rfl⟩
    go_wp2_with fail
    refine (lRequire_no 1 _).mono ?_
    rintro e w' ⟨rfl, rfl⟩
    go_wp2_with fail
    refine leaves_cons (f := 24) (args := #[.pointer (some ⟨w.heap.size + 1, 0, none⟩)]) (by simp) (by simp [go_sem]) ?_
    refine (lCheckD_panic ⟨w.heap.size + 1, 0, none⟩ 1 0 [] _ ?_ ?_).mono ?_
    · simp [go_sem]
    · simp [go_sem]
    rintro e u' w'' ⟨rfl, rfl, rfl⟩
    refine ⟨.int .i64 1, by simp [results, Try.results10, go_sem], rfl, ?_⟩
    repeat (first | exact HB.out | refine Below.setCell ?_ (Nat.le_succ _) _)
  · go_enter_defers Try.func10, Try.ntmps10
    go_wp2_with fail
    refine (C1.out _).mono ?_
    rintro e w' ⟨rfl, rfl⟩
    go_wp2_with fail
    refine (lRequire_yes 1 _).mono ?_
    rintro e w' ⟨rfl, rfl⟩
    go_wp2_with fail
    refine (C2.out _).mono ?_
    rintro e w' ⟨rfl, rfl⟩
    go_wp2_with fail
    refine (lRequire_yes 1 _).mono ?_
    rintro e w' ⟨rfl, rfl⟩
    go_wp2_with fail
    refine (C3.out _).mono ?_
    rintro e w' ⟨rfl, rfl⟩
    go_wp2_with fail
    refine (lRequire_yes 1 _).mono ?_
    rintro e w' ⟨rfl, rfl⟩
    go_wp2_with fail
    refine (C4.out _).mono ?_
    rintro e w' ⟨rfl, rfl⟩
    go_wp2_with fail
    refine (lRequire_yes 1 _).mono ?_
    rintro e w' ⟨rfl, rfl⟩
    go_wp2_with fail
    refine leaves_cons (f := 24) (args := #[.pointer (some ⟨w.heap.size + 1, 0, none⟩)]) (by simp) (by simp [go_sem]) ?_
    refine (lCheckD_idle ⟨w.heap.size + 1, 0, none⟩ 0 _ ?_ ?_).mono ?_
    · simp [go_sem]
    · simp [go_sem]
    rintro e u' w'' ⟨rfl, rfl, rfl⟩
    refine ⟨.int .i64 0, by simp [results, Try.results10, go_sem], rfl, ?_⟩
    repeat (first | exact HB.out | refine Below.setCell ?_ (Nat.le_succ _) _)
end Go.Proofs.Ytmcocepjdhpecaa
