/-
  What Wait answers, of the specification. Conditions: the bucket is valid, the instants are instants.
-/
import Derived.Test.YtmcocepjdhpecaaLiB
namespace Go.Proofs.Ytmcocepjdhpecaa
open Go.RowKit

/-- the facts of the cells of a four-celled block -/
theorem BK.four {T : TypeId} {w : World} {M : Nat} {x y z u : Value} (h : BK T w M [x, y, z, u]) : (w.cell? ⟨M, 0, none⟩ = some x ∧ w.cell? ⟨M, 1, none⟩ = some y ∧ w.cell? ⟨M, 2, none⟩ = some z ∧ w.cell? ⟨M, 3, none⟩ = some u) ∧
    (w.frozen? ⟨M, 0, none⟩ = false ∧ w.frozen? ⟨M, 1, none⟩ = false ∧ w.frozen? ⟨M, 2, none⟩ = false ∧ w.frozen? ⟨M, 3, none⟩ = false) :=
  ⟨⟨h.cell 0 rfl, h.cell 1 rfl, h.cell 2 rfl, h.cell 3 rfl⟩, h.free 0, h.free 1, h.free 2, h.free 3⟩

set_option maxRecDepth 20000 in
set_option maxHeartbeats 4000000 in
theorem rWait_any (r b v t now n : Int) (h : okL r b v t) (h0 : 0 ≤ now) (h1 : now ≤ 1099511627776) (w : World) :
    Calls Try.prog 19 #[bk r b v t, .int .i64 now, .int .i64 n] w fun e w' => e = .returned (.tuple #[.int .i64 (waitL r b v t now n).1, .bool (waitL r b v t now n).2]) ∧ Below w.heap.size w w' := by
  have HT := Lib.hid (fun w => rTokens_any r b v t now h h0 h1 w)
  have hr := tok_range (now := now) h
  obtain ⟨w0, hw0⟩ : ∃ w0, w0 = w.alloc (.cells #[.int .i64 r, .int .i64 b, .int .i64 v, .int .i64 t] 23) := ⟨_, rfl⟩
  have t1 : BK 23 w0 w.heap.size [.int .i64 r, .int .i64 b, .int .i64 v, .int .i64 t] := by rw [hw0]; exact BK.new w _ _
  have tb : Below w.heap.size w w0 := by rw [hw0]; exact below_new w _
  obtain ⟨⟨d0, d1, d2, d3⟩, _⟩ := t1.four
  have M0 := Lib.hid t1
  have B0 := Lib.hid tb
  have HW0 := Lib.hid hw0
  clear hw0 t1 tb
  obtain ⟨g1, g2, g3, g4, g5, g6, g7, g8⟩ := h
  unfold waitL
  obtain ⟨k, hk⟩ : ∃ k, tokL r b v t now = k := ⟨_, rfl⟩
  rw [hk] at HT hr ⊢
  by_cases c1 : n ≤ k
  · rw [if_pos c1]
    have q1 : decide (n ≤ k) = true := decide_eq_true c1
    clear c1 g1 g2 g3 g4 g5 g6 g7 g8 hr hk h0 h1
    go_enter Try.func19, Try.ntmps19
    go_upto_region 1 with fail
    rw [← HW0.out]
    go_wp2_with fail
    refine (HT.out _).mono ?_
    rintro e w1 ⟨rfl, hb⟩
    have B1 := Lib.hid (stepB B0.out hb)
    clear hb d0 d1 d2 d3
    go_wp2_with fail
    go_ret2
    exact ⟨rfl, B1.out⟩
  rw [if_neg c1]
  have q1 : decide (n ≤ k) = false := decide_eq_false c1
  by_cases c2 : b < n
  · rw [if_pos (.inl c2)]
    have q2 : decide (b < n) = true := decide_eq_true c2
    clear c1 c2 g1 g2 g3 g4 g5 g6 g7 g8 hr hk h0 h1
    go_enter Try.func19, Try.ntmps19
    go_upto_region 1 with fail
    rw [← HW0.out]
    go_wp2_with fail
    refine (HT.out _).mono ?_
    rintro e w1 ⟨rfl, hb⟩
    have B1 := Lib.hid (stepB B0.out hb)
    have M1 := Lib.hid (M0.out.step hb)
    clear hb d0 d1 d2 d3
    obtain ⟨⟨d0, d1, d2, d3⟩, _⟩ := M1.out.four
    go_wp2_with fail
    go_ret2
    exact ⟨rfl, B1.out⟩
  have q2 : decide (b < n) = false := decide_eq_false c2
  by_cases c3 : r = 0
  · rw [if_pos (.inr c3)]
    have q3 : (r == 0) = true := by simp [c3]
    clear c1 c2 c3 g1 g2 g3 g4 g5 g6 g7 g8 hr hk h0 h1
    go_enter Try.func19, Try.ntmps19
    go_upto_region 1 with fail
    rw [← HW0.out]
    go_wp2_with fail
    refine (HT.out _).mono ?_
    rintro e w1 ⟨rfl, hb⟩
    have B1 := Lib.hid (stepB B0.out hb)
    have M1 := Lib.hid (M0.out.step hb)
    clear hb d0 d1 d2 d3
    obtain ⟨⟨d0, d1, d2, d3⟩, _⟩ := M1.out.four
    go_wp2_with fail
    go_ret2
    exact ⟨rfl, B1.out⟩
  rw [if_neg (by omega)]
  have q3 : (r == 0) = false := by simp [c3]
  have hr1 : 1 ≤ r := by omega
  have hnv : 0 ≤ n - v ∧ n - v ≤ 1099511627776 := by omega
  have u1 : wrap64 (n - v) = n - v := wrap64_id _ (by omega) (by omega)
  have u2 : IntKind.i64.wrap (n - v) = n - v := wrap_i64_id _ (by omega) (by omega)
  have p1 : 0 ≤ (n - v) / r := Int.ediv_nonneg (by omega) (by omega)
  have p2 : (n - v) / r ≤ n - v := Int.ediv_le_self _ (by omega)
  have p3 := Int.emod_nonneg (n - v) c3
  have p4 := Int.emod_lt_of_pos (n - v) (by omega : 0 < r)
  have u3 : (n - v).tdiv r = (n - v) / r := tdiv_nonneg (by omega) (by omega)
  have u4 : (n - v).tmod r = (n - v) % r := tmod_nonneg (by omega)
  have u5 : wrap64 (1099511627776 - t) = 1099511627776 - t := wrap64_id _ (by omega) (by omega)
  obtain ⟨a, ha⟩ : ∃ a, (n - v) / r = a := ⟨_, rfl⟩
  obtain ⟨m, hm⟩ : ∃ m, (n - v) % r = m := ⟨_, rfl⟩
  obtain ⟨s, hs⟩ : ∃ s, stepsL r v n = s := ⟨_, rfl⟩
  rw [hs]
  unfold stepsL at hs
  rw [ha, hm] at hs
  rw [ha] at p1 p2
  by_cases c4 : 0 < m
  · rw [if_pos c4] at hs
    have q4 : decide (0 < m) = true := decide_eq_true c4
    have u6 : wrap64 (a + 1) = s := by rw [wrap64_id _ (by omega) (by omega)]; exact hs
    have u7 : a + 1 = s := hs
    by_cases c5 : 1099511627776 - t < s
    · rw [if_pos c5]
      have q5 : decide (1099511627776 - t < s) = true := decide_eq_true c5
      clear c1 c2 c4 c5 hk hr
      go_enter Try.func19, Try.ntmps19
      go_upto_region 1 with fail
      rw [← HW0.out]
      go_wp2_with fail
      refine (HT.out _).mono ?_
      rintro e w1 ⟨rfl, hb⟩
      have B1 := Lib.hid (stepB B0.out hb)
      have M1 := Lib.hid (M0.out.step hb)
      clear hb d0 d1 d2 d3
      obtain ⟨⟨d0, d1, d2, d3⟩, _⟩ := M1.out.four
      go_wp2_with fail
      go_ret2
      exact ⟨rfl, B1.out⟩
    · rw [if_neg c5]
      have q5 : decide (1099511627776 - t < s) = false := decide_eq_false c5
      have u8 : wrap64 (t + s) = t + s := wrap64_id _ (by omega) (by omega)
      clear c1 c2 c4 c5 hk hr
      go_enter Try.func19, Try.ntmps19
      go_upto_region 1 with fail
      rw [← HW0.out]
      go_wp2_with fail
      refine (HT.out _).mono ?_
      rintro e w1 ⟨rfl, hb⟩
      have B1 := Lib.hid (stepB B0.out hb)
      have M1 := Lib.hid (M0.out.step hb)
      clear hb d0 d1 d2 d3
      obtain ⟨⟨d0, d1, d2, d3⟩, _⟩ := M1.out.four
      go_wp2_with fail
      go_ret2
      exact ⟨by first | rfl | (rw [u8]), B1.out⟩
  · rw [if_neg c4] at hs
    have q4 : decide (0 < m) = false := decide_eq_false c4
    subst hs
    by_cases c5 : 1099511627776 - t < a
    · rw [if_pos c5]
      have q5 : decide (1099511627776 - t < a) = true := decide_eq_true c5
      clear c1 c2 c4 c5 hk hr
      go_enter Try.func19, Try.ntmps19
      go_upto_region 1 with fail
      rw [← HW0.out]
      go_wp2_with fail
      refine (HT.out _).mono ?_
      rintro e w1 ⟨rfl, hb⟩
      have B1 := Lib.hid (stepB B0.out hb)
      have M1 := Lib.hid (M0.out.step hb)
      clear hb d0 d1 d2 d3
      obtain ⟨⟨d0, d1, d2, d3⟩, _⟩ := M1.out.four
      go_wp2_with fail
      go_ret2
      exact ⟨rfl, B1.out⟩
    · rw [if_neg c5]
      have q5 : decide (1099511627776 - t < a) = false := decide_eq_false c5
      have u8 : wrap64 (t + a) = t + a := wrap64_id _ (by omega) (by omega)
      clear c1 c2 c4 c5 hk hr
      go_enter Try.func19, Try.ntmps19
      go_upto_region 1 with fail
      rw [← HW0.out]
      go_wp2_with fail
      refine (HT.out _).mono ?_
      rintro e w1 ⟨rfl, hb⟩
      have B1 := Lib.hid (stepB B0.out hb)
      have M1 := Lib.hid (M0.out.step hb)
      clear hb d0 d1 d2 d3
      obtain ⟨⟨d0, d1, d2, d3⟩, _⟩ := M1.out.four
      go_wp2_with fail
      go_ret2
      exact ⟨by first | rfl | (rw [u8]), B1.out⟩
end Go.Proofs.Ytmcocepjdhpecaa
