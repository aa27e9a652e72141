/-
  What the program's functions on buckets answer; its examples of quotas. Conditions: the bucket is valid, the instants are instants.
-/
import Derived.Test.YtmcocepjdhpecaaLiJ
import Derived.Lib.MinMax
namespace Go.Proofs.Ytmcocepjdhpecaa
open Go.RowKit

/-- how many instants pass until there is as much more -/
def ceilL (a r : Int) : Int := (a + r - 1) / r
theorem ceil_le {a r d : Int} (hr : 0 < r) : ceilL a r ≤ d ↔ a ≤ r * d := by
  unfold ceilL
  have h1 := Int.mul_ediv_add_emod (a + r - 1) r
  have h2 := Int.emod_lt_of_pos (a + r - 1) hr
  have h3 := Int.emod_nonneg (a + r - 1) (by omega : r ≠ 0)
  constructor
  · intro h
    have h4 : r * ((a + r - 1) / r) ≤ r * d := Int.mul_le_mul_of_nonneg_left h (by omega)
    omega
  · intro h
    apply Classical.byContradiction
    intro hc
    have h4 : r * (d + 1) ≤ r * ((a + r - 1) / r) := Int.mul_le_mul_of_nonneg_left (by omega) (by omega)
    rw [Int.mul_add, Int.mul_one] at h4
    omega
theorem ceil_steps {r v n : Int} (hr : 0 < r) : ceilL (n - v) r = stepsL r v n := by
  have h1 := (ceil_le (a := n - v) (d := stepsL r v n) hr).2 ((steps_enough hr).1 (Int.le_refl _))
  have h2 := (steps_enough (v := v) (n := n) (d := ceilL (n - v) r) hr).2 ((ceil_le hr).1 (Int.le_refl _))
  omega
theorem ceil_range {a r : Int} (hr : 0 < r) (ha : 0 ≤ a) : 0 ≤ ceilL a r ∧ ceilL a r ≤ a := by
  refine ⟨Int.ediv_nonneg (by omega) (by omega), (ceil_le hr).2 ?_⟩
  have : 1 * a ≤ r * a := Int.mul_le_mul_of_nonneg_right (by omega) ha
  omega
theorem tok_ceil {r b v t now : Int} (h : okL r b v t) (h1 : ¬ now ≤ t) (h2 : r ≠ 0) : tokL r b v t now = if ceilL (b - v) r ≤ now - t then b else v + r * (now - t) := by
  have hr : 0 < r := by have := h.1; omega
  rw [tok_min h (by omega)]
  have := ceil_le (a := b - v) (d := now - t) hr
  split <;> omega
theorem last_max (t now : Int) : lastL t now = max t now := by unfold lastL; split <;> omega

set_option maxHeartbeats 2000000 in
theorem lInstants_any (r b v t n : Int) (hr : 1 ≤ r ∧ r ≤ 1099511627776) (_hv : 0 ≤ v ∧ v ≤ 1099511627776) (hn : 0 ≤ n - v ∧ n - v ≤ 1099511627776) (w : World) :
    Calls Try.prog 29 #[bk r b v t, .int .i64 n] w fun e w' => e = .returned (.int .i64 (ceilL (n - v) r)) ∧ Below w.heap.size w w' := by
  have HB := Lib.hid (below_new w (.cells #[.int .i64 r, .int .i64 b, .int .i64 v, .int .i64 t] 23))
  have w1 : wrap64 (n - v) = n - v := wrap64_id _ (by omega) (by omega)
  have w2 : wrap64 (n - v + r) = n - v + r := wrap64_id _ (by omega) (by omega)
  have w3 : wrap64 (n - v + r - 1) = n - v + r - 1 := wrap64_id _ (by omega) (by omega)
  have d1 : (n - v + r - 1).tdiv r = ceilL (n - v) r := tdiv_nonneg (by omega) (by omega)
  have hc := ceil_range (a := n - v) (r := r) (by omega) (by omega)
  have w4 : wrap64 (ceilL (n - v) r) = ceilL (n - v) r := wrap64_id _ (by omega) (by omega)
  have hne : ¬ r = 0 := by omega
  generalize ceilL (n - v) r = c at *
  clear hr hn hc
  go_enter Try.func29, Try.ntmps29
  go_wp2
  go_ret
  exact ⟨ret_i (by first | rfl | exact w4 | (rw [d1]; exact w4) | (rw [w1, w2, w3, d1]; exact w4)), HB.out⟩

set_option maxRecDepth 20000 in
set_option maxHeartbeats 4000000 in
theorem lTokens_any (r b v t now : Int) (h : okL r b v t) (h0 : 0 ≤ now) (h1 : now ≤ 1099511627776) (w : World) :
    Calls Try.prog 28 #[bk r b v t, .int .i64 now] w fun e w' => e = .returned (.int .i64 (tokL r b v t now)) ∧ Below w.heap.size w w' := by
  obtain ⟨w0, hw0⟩ : ∃ w0, w0 = w.alloc (.cells #[.int .i64 r, .int .i64 b, .int .i64 v, .int .i64 t] 23) := ⟨_, rfl⟩
  have Mt_w0 : Hid (BK 23 w0 w.heap.size [.int .i64 r, .int .i64 b, .int .i64 v, .int .i64 t]) := Lib.hid (by rw [hw0]; exact BK.new w _ _)
  have B_w0 : Hid (Below w.heap.size w w0) := Lib.hid (by rw [hw0]; exact below_new w _)
  have HW0 := Lib.hid hw0
  clear hw0
  by_cases c1 : now ≤ t
  · rw [tok_before c1]
    have q1 : decide (now ≤ t) = true := decide_eq_true c1
    clear c1 h h0 h1
    go_enter Try.func28, Try.ntmps28
    go_upto_region 1 with fail
    rw [← HW0.out]
    clear HW0
    have dt0 := Mt_w0.out.cell 0 rfl
    have dt1 := Mt_w0.out.cell 1 rfl
    have dt2 := Mt_w0.out.cell 2 rfl
    have dt3 := Mt_w0.out.cell 3 rfl
    go_wp2_with fail
    go_ret
    exact ⟨rfl, B_w0.out⟩
  have q1 : decide (now ≤ t) = false := decide_eq_false c1
  by_cases c2 : r = 0
  · rw [show tokL r b v t now = v by unfold tokL; rw [if_pos (.inr c2)]]
    have q2 : (r == 0) = true := by simp [c2]
    clear c1 c2 h h0 h1
    go_enter Try.func28, Try.ntmps28
    go_upto_region 1 with fail
    rw [← HW0.out]
    clear HW0
    have dt0 := Mt_w0.out.cell 0 rfl
    have dt1 := Mt_w0.out.cell 1 rfl
    have dt2 := Mt_w0.out.cell 2 rfl
    have dt3 := Mt_w0.out.cell 3 rfl
    go_wp2_with fail
    go_ret
    exact ⟨rfl, B_w0.out⟩
  have q2 : (r == 0) = false := by simp [c2]
  rw [tok_ceil h c1 c2]
  obtain ⟨g1, g2, g3, g4, g5, g6, g7, g8⟩ := h
  have HI := Lib.hid (fun w => lInstants_any r b v t b (by omega) (by omega) (by omega) w)
  have w2 : wrap64 (now - t) = now - t := wrap64_id _ (by omega) (by omega)
  have w2' : IntKind.i64.wrap (now - t) = now - t := wrap_i64_id _ (by omega) (by omega)
  have hm : ¬ ceilL (b - v) r ≤ now - t → 0 ≤ r * (now - t) ∧ v + r * (now - t) ≤ b := fun hc => by
    have := ceil_le (a := b - v) (r := r) (d := now - t) (by omega)
    have := Int.mul_nonneg g1 (by omega : 0 ≤ now - t)
    omega
  generalize ceilL (b - v) r = c at HI hm ⊢
  by_cases c3 : c ≤ now - t
  · rw [if_pos c3]
    have q3 : decide (c ≤ now - t) = true := decide_eq_true c3
    clear c1 c2 c3 hm g1 g2 g3 g4 g5 g6 g7 g8 h0 h1
    go_enter Try.func28, Try.ntmps28
    go_upto_region 1 with fail
    rw [← HW0.out]
    clear HW0
    have dt0 := Mt_w0.out.cell 0 rfl
    have dt1 := Mt_w0.out.cell 1 rfl
    have dt2 := Mt_w0.out.cell 2 rfl
    have dt3 := Mt_w0.out.cell 3 rfl
    go_upto_region 4 with fail
    clear dt0 dt1 dt2 dt3
    obtain ⟨x0v1, hx0v1⟩ : ∃ x0v1, x0v1 = World.drew w0 := ⟨_, rfl⟩
    have hbD : Below w0.heap.size w0 x0v1 := by rw [hx0v1]; exact (Below.refl _ _).drew
    have B_x0v1 : Hid (Below w.heap.size w x0v1) := Lib.hid (stepB B_w0.out hbD)
    have Mt_x0v1 : Hid (BK 23 x0v1 (w.heap.size) [.int .i64 r, .int .i64 b, .int .i64 v, .int .i64 t]) := Lib.hid (Mt_w0.out.step hbD)
    clear B_w0 Mt_w0
    have hbd : (fun w' => BK 23 w' (w.heap.size) [.int .i64 r, .int .i64 b, .int .i64 v, .int .i64 t]) (World.drew w0) := by rw [← hx0v1]; exact Mt_x0v1.out
    have hSD : (fun w' => BK 23 w' (w.heap.size) [.int .i64 r, .int .i64 b, .int .i64 v, .int .i64 t]) x0v1 := Mt_x0v1.out
    have HWD := Lib.hid hx0v1
    clear hx0v1 hbD
    refine wp_region_held_drew (S := fun w' => BK 23 w' (w.heap.size) [.int .i64 r, .int .i64 b, .int .i64 v, .int .i64 t]) (by kernel_rfl) hbd (fun hHeld => ?_)
    rw [← HWD.out]
    clear hHeld
    have hHeld := hSD
    clear hSD hbd HWD
    refine wpAnyH_take (i := 0) (v := .int .i64 now) (get_ops _ _ _ rfl) (by kernel_rfl) (by kernel_rfl) (by kernel_rfl) (fun _ _ _ h => h) (Or.inl ⟨by rfl, fun wS hSw => by (try dsimp only at hSw); go_simp⟩) hHeld ?_
    try simp only [Act.put, List.setIfInBounds_toArray, List.set_cons_zero, List.set_cons_succ]
    refine wpAnyH_take (i := 1) (v := .pointer (some ⟨(w.heap.size), 3, none⟩)) (get_ops _ _ _ rfl) (by kernel_rfl) (by kernel_rfl) (by kernel_rfl) (fun _ _ _ h => h) (Or.inl ⟨by rfl, fun wS hSw => by (try dsimp only at hSw); go_simp⟩) hHeld ?_
    try simp only [Act.put, List.setIfInBounds_toArray, List.set_cons_zero, List.set_cons_succ]
    refine wpAnyH_take (i := 2) (v := .int .i64 t) (get_ops _ _ _ rfl) (by kernel_rfl) (by kernel_rfl) (by kernel_rfl) (fun _ _ _ h => h) (Or.inl ⟨by rfl, fun wS hSw => by (try dsimp only at hSw); have cS : wS.cell? ⟨(w.heap.size), 3, none⟩ = some (.int .i64 t) := hSw.cell 3 rfl; clear hSw; go_simp⟩) hHeld ?_
    try simp only [Act.put, List.setIfInBounds_toArray, List.set_cons_zero, List.set_cons_succ]
    refine wpAnyH_take (i := 3) (v := .int .i64 ((now - t))) (get_ops _ _ _ rfl) (by kernel_rfl) (by kernel_rfl) (by kernel_rfl) (fun _ _ _ h => h) (Or.inl ⟨by rfl, fun wS hSw => by (try dsimp only at hSw); first | (go_simp; done) | (go_simp; exact w2')⟩) hHeld ?_
    try simp only [Act.put, List.setIfInBounds_toArray, List.set_cons_zero, List.set_cons_succ]
    refine wpAnyH_take (i := 4) (v := .agg [.int .i64 r, .int .i64 b, .int .i64 v, .int .i64 t].toArray) (get_ops _ _ _ rfl) (by kernel_rfl) (by kernel_rfl) (by kernel_rfl) (fun _ _ _ h => h) (Or.inl ⟨by rfl, fun wS hSw => by (try dsimp only at hSw); exact exec_load 23 _ rfl ⟨(w.heap.size), 0, none⟩ (by go_simp) _ (run_load_all hSw Try.underlying23 rfl infoB4)⟩) hHeld ?_
    try simp only [Act.put, List.setIfInBounds_toArray, List.set_cons_zero, List.set_cons_succ]
    refine wpAnyH_take (i := 5) (v := .pointer (some ⟨(w.heap.size), 1, none⟩)) (get_ops _ _ _ rfl) (by kernel_rfl) (by kernel_rfl) (by kernel_rfl) (fun _ _ _ h => h) (Or.inl ⟨by rfl, fun wS hSw => by (try dsimp only at hSw); go_simp⟩) hHeld ?_
    try simp only [Act.put, List.setIfInBounds_toArray, List.set_cons_zero, List.set_cons_succ]
    refine wpAnyH_take (i := 6) (v := .int .i64 b) (get_ops _ _ _ rfl) (by kernel_rfl) (by kernel_rfl) (by kernel_rfl) (fun _ _ _ h => h) (Or.inl ⟨by rfl, fun wS hSw => by (try dsimp only at hSw); have cS : wS.cell? ⟨(w.heap.size), 1, none⟩ = some (.int .i64 b) := hSw.cell 1 rfl; clear hSw; go_simp⟩) hHeld ?_
    try simp only [Act.put, List.setIfInBounds_toArray, List.set_cons_zero, List.set_cons_succ]
    refine wpAnyH_ready (rs := [7]) (by kernel_rfl) (by simp) ?_
    refine (AllReadyH.cons (get_ops _ _ _ rfl) (fun K hK => ?_) AllReadyH.nil)
    go_simp
    go_at_call 29
    refine (HI.out x0v1).mono ?_
    rintro e x0v2 ⟨rfl, hb⟩
    have B_x0v2 : Hid (Below w.heap.size w x0v2) := Lib.hid (stepB B_x0v1.out hb)
    have Mt_x0v2 : Hid (BK 23 x0v2 (w.heap.size) [.int .i64 r, .int .i64 b, .int .i64 v, .int .i64 t]) := Lib.hid (Mt_x0v1.out.step hb)
    clear B_x0v1 Mt_x0v1
    clear hHeld hb
    go_wp2_with fail
    refine hK.out _ _ Mt_x0v2.out (fun hHeld => ?_)
    clear hK K
    try simp only [Act.put, List.setIfInBounds_toArray, List.set_cons_zero, List.set_cons_succ]
    refine wpAnyH_take (i := 8) (v := .bool true) (get_ops _ _ _ rfl) (by kernel_rfl) (by kernel_rfl) (by kernel_rfl) (fun _ _ _ h => h) (Or.inl ⟨by rfl, fun wS hSw => by (try dsimp only at hSw); go_simp⟩) hHeld ?_
    try simp only [Act.put, List.setIfInBounds_toArray, List.set_cons_zero, List.set_cons_succ]
    refine wpAnyH_take (i := 9) (v := .bool true) (get_ops _ _ _ rfl) (by kernel_rfl) (by kernel_rfl) (by kernel_rfl) (fun _ _ _ h => h) (Or.inl ⟨by rfl, fun wS hSw => by (try dsimp only at hSw); go_simp⟩) hHeld ?_
    try simp only [Act.put, List.setIfInBounds_toArray, List.set_cons_zero, List.set_cons_succ]
    refine wpAnyH_done (by kernel_rfl) ?_ _
    have dt0 := Mt_x0v2.out.cell 0 rfl
    have dt1 := Mt_x0v2.out.cell 1 rfl
    have dt2 := Mt_x0v2.out.cell 2 rfl
    have dt3 := Mt_x0v2.out.cell 3 rfl
    go_wp2_with fail
    go_ret
    exact ⟨rfl, B_x0v2.out⟩
  · rw [if_neg c3]
    have q3 : decide (c ≤ now - t) = false := decide_eq_false c3
    have w4 : wrap64 (r * (now - t)) = r * (now - t) := wrap64_id _ (by have := hm c3; omega) (by have := hm c3; omega)
    have w5 : wrap64 (v + r * (now - t)) = v + r * (now - t) := wrap64_id _ (by have := hm c3; omega) (by have := hm c3; omega)
    clear c1 c2 c3 hm g1 g2 g3 g4 g5 g6 g7 g8 h0 h1
    go_enter Try.func28, Try.ntmps28
    go_upto_region 1 with fail
    rw [← HW0.out]
    clear HW0
    have dt0 := Mt_w0.out.cell 0 rfl
    have dt1 := Mt_w0.out.cell 1 rfl
    have dt2 := Mt_w0.out.cell 2 rfl
    have dt3 := Mt_w0.out.cell 3 rfl
    go_upto_region 4 with fail
    clear dt0 dt1 dt2 dt3
    obtain ⟨x0v1, hx0v1⟩ : ∃ x0v1, x0v1 = World.drew w0 := ⟨_, rfl⟩
    have hbD : Below w0.heap.size w0 x0v1 := by rw [hx0v1]; exact (Below.refl _ _).drew
    have B_x0v1 : Hid (Below w.heap.size w x0v1) := Lib.hid (stepB B_w0.out hbD)
    have Mt_x0v1 : Hid (BK 23 x0v1 (w.heap.size) [.int .i64 r, .int .i64 b, .int .i64 v, .int .i64 t]) := Lib.hid (Mt_w0.out.step hbD)
    clear B_w0 Mt_w0
    have hbd : (fun w' => BK 23 w' (w.heap.size) [.int .i64 r, .int .i64 b, .int .i64 v, .int .i64 t]) (World.drew w0) := by rw [← hx0v1]; exact Mt_x0v1.out
    have hSD : (fun w' => BK 23 w' (w.heap.size) [.int .i64 r, .int .i64 b, .int .i64 v, .int .i64 t]) x0v1 := Mt_x0v1.out
    have HWD := Lib.hid hx0v1
    clear hx0v1 hbD
    refine wp_region_held_drew (S := fun w' => BK 23 w' (w.heap.size) [.int .i64 r, .int .i64 b, .int .i64 v, .int .i64 t]) (by kernel_rfl) hbd (fun hHeld => ?_)
    rw [← HWD.out]
    clear hHeld
    have hHeld := hSD
    clear hSD hbd HWD
    refine wpAnyH_take (i := 0) (v := .int .i64 now) (get_ops _ _ _ rfl) (by kernel_rfl) (by kernel_rfl) (by kernel_rfl) (fun _ _ _ h => h) (Or.inl ⟨by rfl, fun wS hSw => by (try dsimp only at hSw); go_simp⟩) hHeld ?_
    try simp only [Act.put, List.setIfInBounds_toArray, List.set_cons_zero, List.set_cons_succ]
    refine wpAnyH_take (i := 1) (v := .pointer (some ⟨(w.heap.size), 3, none⟩)) (get_ops _ _ _ rfl) (by kernel_rfl) (by kernel_rfl) (by kernel_rfl) (fun _ _ _ h => h) (Or.inl ⟨by rfl, fun wS hSw => by (try dsimp only at hSw); go_simp⟩) hHeld ?_
    try simp only [Act.put, List.setIfInBounds_toArray, List.set_cons_zero, List.set_cons_succ]
    refine wpAnyH_take (i := 2) (v := .int .i64 t) (get_ops _ _ _ rfl) (by kernel_rfl) (by kernel_rfl) (by kernel_rfl) (fun _ _ _ h => h) (Or.inl ⟨by rfl, fun wS hSw => by (try dsimp only at hSw); have cS : wS.cell? ⟨(w.heap.size), 3, none⟩ = some (.int .i64 t) := hSw.cell 3 rfl; clear hSw; go_simp⟩) hHeld ?_
    try simp only [Act.put, List.setIfInBounds_toArray, List.set_cons_zero, List.set_cons_succ]
    refine wpAnyH_take (i := 3) (v := .int .i64 ((now - t))) (get_ops _ _ _ rfl) (by kernel_rfl) (by kernel_rfl) (by kernel_rfl) (fun _ _ _ h => h) (Or.inl ⟨by rfl, fun wS hSw => by (try dsimp only at hSw); first | (go_simp; done) | (go_simp; exact w2')⟩) hHeld ?_
    try simp only [Act.put, List.setIfInBounds_toArray, List.set_cons_zero, List.set_cons_succ]
    refine wpAnyH_take (i := 4) (v := .agg [.int .i64 r, .int .i64 b, .int .i64 v, .int .i64 t].toArray) (get_ops _ _ _ rfl) (by kernel_rfl) (by kernel_rfl) (by kernel_rfl) (fun _ _ _ h => h) (Or.inl ⟨by rfl, fun wS hSw => by (try dsimp only at hSw); exact exec_load 23 _ rfl ⟨(w.heap.size), 0, none⟩ (by go_simp) _ (run_load_all hSw Try.underlying23 rfl infoB4)⟩) hHeld ?_
    try simp only [Act.put, List.setIfInBounds_toArray, List.set_cons_zero, List.set_cons_succ]
    refine wpAnyH_take (i := 5) (v := .pointer (some ⟨(w.heap.size), 1, none⟩)) (get_ops _ _ _ rfl) (by kernel_rfl) (by kernel_rfl) (by kernel_rfl) (fun _ _ _ h => h) (Or.inl ⟨by rfl, fun wS hSw => by (try dsimp only at hSw); go_simp⟩) hHeld ?_
    try simp only [Act.put, List.setIfInBounds_toArray, List.set_cons_zero, List.set_cons_succ]
    refine wpAnyH_take (i := 6) (v := .int .i64 b) (get_ops _ _ _ rfl) (by kernel_rfl) (by kernel_rfl) (by kernel_rfl) (fun _ _ _ h => h) (Or.inl ⟨by rfl, fun wS hSw => by (try dsimp only at hSw); have cS : wS.cell? ⟨(w.heap.size), 1, none⟩ = some (.int .i64 b) := hSw.cell 1 rfl; clear hSw; go_simp⟩) hHeld ?_
    try simp only [Act.put, List.setIfInBounds_toArray, List.set_cons_zero, List.set_cons_succ]
    refine wpAnyH_ready (rs := [7]) (by kernel_rfl) (by simp) ?_
    refine (AllReadyH.cons (get_ops _ _ _ rfl) (fun K hK => ?_) AllReadyH.nil)
    go_simp
    go_at_call 29
    refine (HI.out x0v1).mono ?_
    rintro e x0v2 ⟨rfl, hb⟩
    have B_x0v2 : Hid (Below w.heap.size w x0v2) := Lib.hid (stepB B_x0v1.out hb)
    have Mt_x0v2 : Hid (BK 23 x0v2 (w.heap.size) [.int .i64 r, .int .i64 b, .int .i64 v, .int .i64 t]) := Lib.hid (Mt_x0v1.out.step hb)
    clear B_x0v1 Mt_x0v1
    clear hHeld hb
    go_wp2_with fail
    refine hK.out _ _ Mt_x0v2.out (fun hHeld => ?_)
    clear hK K
    try simp only [Act.put, List.setIfInBounds_toArray, List.set_cons_zero, List.set_cons_succ]
    refine wpAnyH_take (i := 8) (v := .bool false) (get_ops _ _ _ rfl) (by kernel_rfl) (by kernel_rfl) (by kernel_rfl) (fun _ _ _ h => h) (Or.inl ⟨by rfl, fun wS hSw => by (try dsimp only at hSw); go_simp⟩) hHeld ?_
    try simp only [Act.put, List.setIfInBounds_toArray, List.set_cons_zero, List.set_cons_succ]
    refine wpAnyH_take (i := 9) (v := .bool false) (get_ops _ _ _ rfl) (by kernel_rfl) (by kernel_rfl) (by kernel_rfl) (fun _ _ _ h => h) (Or.inl ⟨by rfl, fun wS hSw => by (try dsimp only at hSw); go_simp⟩) hHeld ?_
    try simp only [Act.put, List.setIfInBounds_toArray, List.set_cons_zero, List.set_cons_succ]
    refine wpAnyH_done (by kernel_rfl) ?_ _
    have dt0 := Mt_x0v2.out.cell 0 rfl
    have dt1 := Mt_x0v2.out.cell 1 rfl
    have dt2 := Mt_x0v2.out.cell 2 rfl
    have dt3 := Mt_x0v2.out.cell 3 rfl
    go_wp2_with fail
    go_ret
    exact ⟨ret_i (by first | rfl | exact w5), B_x0v2.out⟩
set_option maxRecDepth 20000 in
set_option maxHeartbeats 4000000 in
theorem lRefill_any (r b v t now : Int) (h : okL r b v t) (h0 : 0 ≤ now) (h1 : now ≤ 1099511627776) (w : World) :
    Calls Try.prog 15 #[bk r b v t, .int .i64 now] w (RetL r b (tokL r b v t now) (lastL t now) w) := by
  have HT := Lib.hid (fun w => lTokens_any r b v t now h h0 h1 w)
  rw [last_max]
  generalize tokL r b v t now = k at HT ⊢
  clear h h0 h1
  obtain ⟨w0, hw0⟩ : ∃ w0, w0 = (w.alloc (.cells #[.int .i64 r, .int .i64 b, .int .i64 v, .int .i64 t] 23)).alloc (.cells #[.int .i64 0, .int .i64 0, .int .i64 0, .int .i64 0] 23) := ⟨_, rfl⟩
  obtain ⟨t1, t2, _, tb⟩ := two_laid (v1 := [.int .i64 r, .int .i64 b, .int .i64 v, .int .i64 t]) (v2 := [.int .i64 0, .int .i64 0, .int .i64 0, .int .i64 0]) hw0
  have Mt_w0 := Lib.hid t1
  have Mr_w0 := Lib.hid t2
  have B_w0 := Lib.hid tb
  have Lt_r : Hid (w.heap.size < w.heap.size + 1) := Lib.hid (Nat.lt_succ_self _)
  have Zr : Hid (w.heap.size ≤ w.heap.size + 1) := Lib.hid (Nat.le_succ _)
  have Zt : Hid (w.heap.size ≤ w.heap.size) := Lib.hid (Nat.le_refl _)
  have HW0 := Lib.hid hw0
  clear hw0 t1 t2 tb
  go_enter Try.func15, Try.ntmps15
  go_upto_region 1 with fail
  rw [← HW0.out]
  clear HW0
  have dt0 := Mt_w0.out.cell 0 rfl
  have dt1 := Mt_w0.out.cell 1 rfl
  have dt2 := Mt_w0.out.cell 2 rfl
  have dt3 := Mt_w0.out.cell 3 rfl
  go_wp2_with fail
  refine (HT.out w0).mono ?_
  rintro e w1 ⟨rfl, hb⟩
  have B_w1 : Hid (Below w.heap.size w w1) := Lib.hid (stepB B_w0.out hb)
  have Mt_w1 : Hid (BK 23 w1 (w.heap.size) [.int .i64 r, .int .i64 b, .int .i64 v, .int .i64 t]) := Lib.hid (Mt_w0.out.step hb)
  have Mr_w1 : Hid (BK 23 w1 (w.heap.size + 1) [.int .i64 0, .int .i64 0, .int .i64 0, .int .i64 0]) := Lib.hid (Mr_w0.out.step hb)
  clear dt0 dt1 dt2 dt3
  clear B_w0 Mt_w0 Mr_w0
  clear hb
  have dt0 := Mt_w1.out.cell 0 rfl
  have ft0 := Mt_w1.out.free 0
  have dt1 := Mt_w1.out.cell 1 rfl
  have ft1 := Mt_w1.out.free 1
  have dt2 := Mt_w1.out.cell 2 rfl
  have ft2 := Mt_w1.out.free 2
  have dt3 := Mt_w1.out.cell 3 rfl
  have ft3 := Mt_w1.out.free 3
  go_upto_region 2 with fail
  have Mt_w20 : BK 23 (w1.setCell ⟨w.heap.size, 2, none⟩ (.int .i64 k)) (w.heap.size) [.int .i64 r, .int .i64 b, .int .i64 k, .int .i64 t] := Mt_w1.out.set 2 _
  have Mr_w20 : BK 23 (w1.setCell ⟨w.heap.size, 2, none⟩ (.int .i64 k)) (w.heap.size + 1) [.int .i64 0, .int .i64 0, .int .i64 0, .int .i64 0] := Mr_w1.out.other (p := ⟨w.heap.size, 2, none⟩) (by show _ ≠ _; simp) _
  have B_w20 : Below w.heap.size w (w1.setCell ⟨w.heap.size, 2, none⟩ (.int .i64 k)) := B_w1.out.setCell (p := ⟨w.heap.size, 2, none⟩) (Nat.le_refl _) _
  generalize w1.setCell ⟨w.heap.size, 2, none⟩ (.int .i64 k) = w2 at *
  have Mt_w2 : Hid (BK 23 w2 (w.heap.size) [.int .i64 r, .int .i64 b, .int .i64 k, .int .i64 t]) := Lib.hid Mt_w20
  have Mr_w2 : Hid (BK 23 w2 (w.heap.size + 1) [.int .i64 0, .int .i64 0, .int .i64 0, .int .i64 0]) := Lib.hid Mr_w20
  have B_w2 : Hid (Below w.heap.size w w2) := Lib.hid B_w20
  clear dt0 ft0 dt1 ft1 dt2 ft2 dt3 ft3
  clear Mt_w20 Mr_w20 B_w20 Mt_w1 Mr_w1 B_w1
  have dt0 := Mt_w2.out.cell 0 rfl
  have ft0 := Mt_w2.out.free 0
  have dt1 := Mt_w2.out.cell 1 rfl
  have ft1 := Mt_w2.out.free 1
  have dt2 := Mt_w2.out.cell 2 rfl
  have ft2 := Mt_w2.out.free 2
  have dt3 := Mt_w2.out.cell 3 rfl
  have ft3 := Mt_w2.out.free 3
  go_upto_region 3 with fail
  have Mt_w30 : BK 23 (w2.setCell ⟨w.heap.size, 3, none⟩ (.int .i64 (max t now))) (w.heap.size) [.int .i64 r, .int .i64 b, .int .i64 k, .int .i64 (max t now)] := Mt_w2.out.set 3 _
  have Mr_w30 : BK 23 (w2.setCell ⟨w.heap.size, 3, none⟩ (.int .i64 (max t now))) (w.heap.size + 1) [.int .i64 0, .int .i64 0, .int .i64 0, .int .i64 0] := Mr_w2.out.other (p := ⟨w.heap.size, 3, none⟩) (by show _ ≠ _; simp) _
  have B_w30 : Below w.heap.size w (w2.setCell ⟨w.heap.size, 3, none⟩ (.int .i64 (max t now))) := B_w2.out.setCell (p := ⟨w.heap.size, 3, none⟩) (Nat.le_refl _) _
  generalize w2.setCell ⟨w.heap.size, 3, none⟩ (.int .i64 (max t now)) = w3 at *
  have Mt_w3 : Hid (BK 23 w3 (w.heap.size) [.int .i64 r, .int .i64 b, .int .i64 k, .int .i64 (max t now)]) := Lib.hid Mt_w30
  have Mr_w3 : Hid (BK 23 w3 (w.heap.size + 1) [.int .i64 0, .int .i64 0, .int .i64 0, .int .i64 0]) := Lib.hid Mr_w30
  have B_w3 : Hid (Below w.heap.size w w3) := Lib.hid B_w30
  clear dt0 ft0 dt1 ft1 dt2 ft2 dt3 ft3
  clear Mt_w30 Mr_w30 B_w30 Mt_w2 Mr_w2 B_w2
  have dt0 := Mt_w3.out.cell 0 rfl
  have dt1 := Mt_w3.out.cell 1 rfl
  have dt2 := Mt_w3.out.cell 2 rfl
  have dt3 := Mt_w3.out.cell 3 rfl
  go_wp2_with first | (refine wpList_store_all (by rfl) 23 (.tmp 4) (.tmp 14) rfl rfl (w.heap.size + 1) rfl [.int .i64 r, .int .i64 b, .int .i64 k, .int .i64 (max t now)] rfl 23 [.int .i64 0, .int .i64 0, .int .i64 0, .int .i64 0] Mr_w3.out infoB4 rfl (all_one rfl) ?_; intro w4 hM hP; have Mr_w4 : Hid (BK 23 w4 (w.heap.size + 1) [.int .i64 r, .int .i64 b, .int .i64 k, .int .i64 (max t now)]) := Lib.hid hM; have B_w4 : Hid (Below w.heap.size w w4) := Lib.hid (hP.below B_w3.out Zr.out); have Mt_w4 : Hid (BK 23 w4 (w.heap.size) [.int .i64 r, .int .i64 b, .int .i64 k, .int .i64 (max t now)]) := Lib.hid (hP.other Mt_w3.out (Nat.ne_of_lt Lt_r.out)); clear B_w3 Mt_w3 Mr_w3 hM hP dt0 dt1 dt2 dt3)
  exact bodyPost_ret (v := bk r b k (max t now)) (res_cell rfl _ _ (w.heap.size + 1) 23 _ _ rfl Mr_w4.out Try.underlying23 rfl infoB4) rfl ⟨rfl, B_w4.out⟩
set_option maxRecDepth 20000 in
set_option maxHeartbeats 4000000 in
theorem lTake_any (r b v t now n : Int) (h : okL r b v t) (h0 : 0 ≤ now) (h1 : now ≤ 1099511627776) (w : World) :
    Calls Try.prog 13 #[bk r b v t, .int .i64 now, .int .i64 n] w (RetTL r b (takeL r b v t now n).1 (lastL t now) (takeL r b v t now n).2 w) := by
  have HT := Lib.hid (fun w => lRefill_any r b v t now h h0 h1 w)
  have hk := tok_range (now := now) h
  have hbb := h.2.2.2.1
  have hvv := h.2.2.2.2.1
  unfold takeL
  generalize tokL r b v t now = k at HT hk ⊢
  generalize lastL t now = l at HT ⊢
  obtain ⟨w0, hw0⟩ : ∃ w0, w0 = (w.alloc (.cells #[.int .i64 r, .int .i64 b, .int .i64 v, .int .i64 t] 23)).alloc (.cells #[.int .i64 0, .int .i64 0, .int .i64 0, .int .i64 0] 23) := ⟨_, rfl⟩
  obtain ⟨t1, t2, _, tb⟩ := two_laid (v1 := [.int .i64 r, .int .i64 b, .int .i64 v, .int .i64 t]) (v2 := [.int .i64 0, .int .i64 0, .int .i64 0, .int .i64 0]) hw0
  have Mt_w0 := Lib.hid t1
  have Mr_w0 := Lib.hid t2
  have B_w0 := Lib.hid tb
  have Lt_r : Hid (w.heap.size < w.heap.size + 1) := Lib.hid (Nat.lt_succ_self _)
  have Zr : Hid (w.heap.size ≤ w.heap.size + 1) := Lib.hid (Nat.le_succ _)
  have Zt : Hid (w.heap.size ≤ w.heap.size) := Lib.hid (Nat.le_refl _)
  have HW0 := Lib.hid hw0
  clear hw0 t1 t2 tb
  by_cases hc : n < 0 ∨ k < n
  · rw [if_pos hc]
    by_cases hn : n < 0
    · have q1 : decide (n < 0) = true := decide_eq_true hn
      clear hc hn hk hbb hvv
      clear h h0 h1
      go_enter Try.func13, Try.ntmps13
      go_upto_region 1 with fail
      rw [← HW0.out]
      clear HW0
      have dt0 := Mt_w0.out.cell 0 rfl
      have dt1 := Mt_w0.out.cell 1 rfl
      have dt2 := Mt_w0.out.cell 2 rfl
      have dt3 := Mt_w0.out.cell 3 rfl
      go_wp2_with fail
      refine (HT.out w0).mono ?_
      rintro e w1 ⟨rfl, hb⟩
      have B_w1 : Hid (Below w.heap.size w w1) := Lib.hid (stepB B_w0.out hb)
      have Mt_w1 : Hid (BK 23 w1 (w.heap.size) [.int .i64 r, .int .i64 b, .int .i64 v, .int .i64 t]) := Lib.hid (Mt_w0.out.step hb)
      have Mr_w1 : Hid (BK 23 w1 (w.heap.size + 1) [.int .i64 0, .int .i64 0, .int .i64 0, .int .i64 0]) := Lib.hid (Mr_w0.out.step hb)
      clear dt0 dt1 dt2 dt3
      clear B_w0 Mt_w0 Mr_w0
      clear hb
      have dt0 := Mt_w1.out.cell 0 rfl
      have dt1 := Mt_w1.out.cell 1 rfl
      have dt2 := Mt_w1.out.cell 2 rfl
      have dt3 := Mt_w1.out.cell 3 rfl
      go_wp2_with first | (refine wpList_store_all (by rfl) 23 (.tmp 3) (.tmp 10) rfl rfl (w.heap.size) rfl [.int .i64 r, .int .i64 b, .int .i64 k, .int .i64 l] rfl 23 [.int .i64 r, .int .i64 b, .int .i64 v, .int .i64 t] Mt_w1.out infoB4 rfl (all_one rfl) ?_; intro w2 hM hP; have Mt_w2 : Hid (BK 23 w2 (w.heap.size) [.int .i64 r, .int .i64 b, .int .i64 k, .int .i64 l]) := Lib.hid hM; have B_w2 : Hid (Below w.heap.size w w2) := Lib.hid (hP.below B_w1.out Zt.out); have Mr_w2 : Hid (BK 23 w2 (w.heap.size + 1) [.int .i64 0, .int .i64 0, .int .i64 0, .int .i64 0]) := Lib.hid (hP.other Mr_w1.out (Nat.ne_of_gt Lt_r.out)); clear B_w1 Mt_w1 Mr_w1 hM hP dt0 dt1 dt2 dt3; have dt0 := Mt_w2.out.cell 0 rfl; have dt1 := Mt_w2.out.cell 1 rfl; have dt2 := Mt_w2.out.cell 2 rfl; have dt3 := Mt_w2.out.cell 3 rfl) | (refine wpList_store_all (by rfl) 23 (.tmp 6) (.tmp 19) rfl rfl (w.heap.size + 1) rfl [.int .i64 r, .int .i64 b, .int .i64 k, .int .i64 l] rfl 23 [.int .i64 0, .int .i64 0, .int .i64 0, .int .i64 0] Mr_w2.out infoB4 rfl (all_one rfl) ?_; intro w3 hM hP; have Mr_w3 : Hid (BK 23 w3 (w.heap.size + 1) [.int .i64 r, .int .i64 b, .int .i64 k, .int .i64 l]) := Lib.hid hM; have B_w3 : Hid (Below w.heap.size w w3) := Lib.hid (hP.below B_w2.out Zr.out); have Mt_w3 : Hid (BK 23 w3 (w.heap.size) [.int .i64 r, .int .i64 b, .int .i64 k, .int .i64 l]) := Lib.hid (hP.other Mt_w2.out (Nat.ne_of_lt Lt_r.out)); clear B_w2 Mt_w2 Mr_w2 hM hP dt0 dt1 dt2 dt3)
      exact bodyPost_ret (v := .tuple #[bk r b k l, .bool false]) (res_cell_tmp rfl _ _ (w.heap.size + 1) 23 _ _ _ rfl rfl Mr_w3.out Try.underlying23 rfl infoB4) rfl ⟨rfl, B_w3.out⟩
    · have q1 : decide (n < 0) = false := decide_eq_false hn
      have q2 : decide (k < n) = true := decide_eq_true (by omega)
      clear hc hn hk hbb hvv
      clear h h0 h1
      go_enter Try.func13, Try.ntmps13
      go_upto_region 1 with fail
      rw [← HW0.out]
      clear HW0
      have dt0 := Mt_w0.out.cell 0 rfl
      have dt1 := Mt_w0.out.cell 1 rfl
      have dt2 := Mt_w0.out.cell 2 rfl
      have dt3 := Mt_w0.out.cell 3 rfl
      go_wp2_with fail
      refine (HT.out w0).mono ?_
      rintro e w1 ⟨rfl, hb⟩
      have B_w1 : Hid (Below w.heap.size w w1) := Lib.hid (stepB B_w0.out hb)
      have Mt_w1 : Hid (BK 23 w1 (w.heap.size) [.int .i64 r, .int .i64 b, .int .i64 v, .int .i64 t]) := Lib.hid (Mt_w0.out.step hb)
      have Mr_w1 : Hid (BK 23 w1 (w.heap.size + 1) [.int .i64 0, .int .i64 0, .int .i64 0, .int .i64 0]) := Lib.hid (Mr_w0.out.step hb)
      clear dt0 dt1 dt2 dt3
      clear B_w0 Mt_w0 Mr_w0
      clear hb
      have dt0 := Mt_w1.out.cell 0 rfl
      have dt1 := Mt_w1.out.cell 1 rfl
      have dt2 := Mt_w1.out.cell 2 rfl
      have dt3 := Mt_w1.out.cell 3 rfl
      go_wp2_with first | (refine wpList_store_all (by rfl) 23 (.tmp 3) (.tmp 10) rfl rfl (w.heap.size) rfl [.int .i64 r, .int .i64 b, .int .i64 k, .int .i64 l] rfl 23 [.int .i64 r, .int .i64 b, .int .i64 v, .int .i64 t] Mt_w1.out infoB4 rfl (all_one rfl) ?_; intro w2 hM hP; have Mt_w2 : Hid (BK 23 w2 (w.heap.size) [.int .i64 r, .int .i64 b, .int .i64 k, .int .i64 l]) := Lib.hid hM; have B_w2 : Hid (Below w.heap.size w w2) := Lib.hid (hP.below B_w1.out Zt.out); have Mr_w2 : Hid (BK 23 w2 (w.heap.size + 1) [.int .i64 0, .int .i64 0, .int .i64 0, .int .i64 0]) := Lib.hid (hP.other Mr_w1.out (Nat.ne_of_gt Lt_r.out)); clear B_w1 Mt_w1 Mr_w1 hM hP dt0 dt1 dt2 dt3; have dt0 := Mt_w2.out.cell 0 rfl; have dt1 := Mt_w2.out.cell 1 rfl; have dt2 := Mt_w2.out.cell 2 rfl; have dt3 := Mt_w2.out.cell 3 rfl) | (refine wpList_store_all (by rfl) 23 (.tmp 6) (.tmp 19) rfl rfl (w.heap.size + 1) rfl [.int .i64 r, .int .i64 b, .int .i64 k, .int .i64 l] rfl 23 [.int .i64 0, .int .i64 0, .int .i64 0, .int .i64 0] Mr_w2.out infoB4 rfl (all_one rfl) ?_; intro w3 hM hP; have Mr_w3 : Hid (BK 23 w3 (w.heap.size + 1) [.int .i64 r, .int .i64 b, .int .i64 k, .int .i64 l]) := Lib.hid hM; have B_w3 : Hid (Below w.heap.size w w3) := Lib.hid (hP.below B_w2.out Zr.out); have Mt_w3 : Hid (BK 23 w3 (w.heap.size) [.int .i64 r, .int .i64 b, .int .i64 k, .int .i64 l]) := Lib.hid (hP.other Mt_w2.out (Nat.ne_of_lt Lt_r.out)); clear B_w2 Mt_w2 Mr_w2 hM hP dt0 dt1 dt2 dt3)
      exact bodyPost_ret (v := .tuple #[bk r b k l, .bool false]) (res_cell_tmp rfl _ _ (w.heap.size + 1) 23 _ _ _ rfl rfl Mr_w3.out Try.underlying23 rfl infoB4) rfl ⟨rfl, B_w3.out⟩
  · rw [if_neg hc]
    have q1 : decide (n < 0) = false := decide_eq_false (by omega)
    have q2 : decide (k < n) = false := decide_eq_false (by omega)
    have q3 : wrap64 (k - n) = k - n := wrap64_id _ (by omega) (by omega)
    have q4 : IntKind.i64.wrap (k - n) = k - n := wrap_i64_id _ (by omega) (by omega)
    clear hc hk hbb hvv
    clear h h0 h1
    go_enter Try.func13, Try.ntmps13
    go_upto_region 1 with fail
    rw [← HW0.out]
    clear HW0
    have dt0 := Mt_w0.out.cell 0 rfl
    have dt1 := Mt_w0.out.cell 1 rfl
    have dt2 := Mt_w0.out.cell 2 rfl
    have dt3 := Mt_w0.out.cell 3 rfl
    go_wp2_with fail
    refine (HT.out w0).mono ?_
    rintro e w1 ⟨rfl, hb⟩
    have B_w1 : Hid (Below w.heap.size w w1) := Lib.hid (stepB B_w0.out hb)
    have Mt_w1 : Hid (BK 23 w1 (w.heap.size) [.int .i64 r, .int .i64 b, .int .i64 v, .int .i64 t]) := Lib.hid (Mt_w0.out.step hb)
    have Mr_w1 : Hid (BK 23 w1 (w.heap.size + 1) [.int .i64 0, .int .i64 0, .int .i64 0, .int .i64 0]) := Lib.hid (Mr_w0.out.step hb)
    clear dt0 dt1 dt2 dt3
    clear B_w0 Mt_w0 Mr_w0
    clear hb
    have dt0 := Mt_w1.out.cell 0 rfl
    have dt1 := Mt_w1.out.cell 1 rfl
    have dt2 := Mt_w1.out.cell 2 rfl
    have dt3 := Mt_w1.out.cell 3 rfl
    go_upto_region 4 with first | (refine wpList_store_all (by rfl) 23 (.tmp 3) (.tmp 10) rfl rfl (w.heap.size) rfl [.int .i64 r, .int .i64 b, .int .i64 k, .int .i64 l] rfl 23 [.int .i64 r, .int .i64 b, .int .i64 v, .int .i64 t] Mt_w1.out infoB4 rfl (all_one rfl) ?_; intro w2 hM hP; have Mt_w2 : Hid (BK 23 w2 (w.heap.size) [.int .i64 r, .int .i64 b, .int .i64 k, .int .i64 l]) := Lib.hid hM; have B_w2 : Hid (Below w.heap.size w w2) := Lib.hid (hP.below B_w1.out Zt.out); have Mr_w2 : Hid (BK 23 w2 (w.heap.size + 1) [.int .i64 0, .int .i64 0, .int .i64 0, .int .i64 0]) := Lib.hid (hP.other Mr_w1.out (Nat.ne_of_gt Lt_r.out)); clear B_w1 Mt_w1 Mr_w1 hM hP dt0 dt1 dt2 dt3; have dt0 := Mt_w2.out.cell 0 rfl; have dt1 := Mt_w2.out.cell 1 rfl; have dt2 := Mt_w2.out.cell 2 rfl; have dt3 := Mt_w2.out.cell 3 rfl; have ft0 := Mt_w2.out.free 0; have ft1 := Mt_w2.out.free 1; have ft2 := Mt_w2.out.free 2; have ft3 := Mt_w2.out.free 3)
    go_upto_region 5 with fail
    have Mt_w30 : BK 23 (w2.setCell ⟨w.heap.size, 2, none⟩ (.int .i64 (k - n))) (w.heap.size) [.int .i64 r, .int .i64 b, .int .i64 (k - n), .int .i64 l] := Mt_w2.out.set 2 _
    have Mr_w30 : BK 23 (w2.setCell ⟨w.heap.size, 2, none⟩ (.int .i64 (k - n))) (w.heap.size + 1) [.int .i64 0, .int .i64 0, .int .i64 0, .int .i64 0] := Mr_w2.out.other (p := ⟨w.heap.size, 2, none⟩) (by show _ ≠ _; simp) _
    have B_w30 : Below w.heap.size w (w2.setCell ⟨w.heap.size, 2, none⟩ (.int .i64 (k - n))) := B_w2.out.setCell (p := ⟨w.heap.size, 2, none⟩) (Nat.le_refl _) _
    generalize w2.setCell ⟨w.heap.size, 2, none⟩ (.int .i64 (k - n)) = w3 at *
    have Mt_w3 : Hid (BK 23 w3 (w.heap.size) [.int .i64 r, .int .i64 b, .int .i64 (k - n), .int .i64 l]) := Lib.hid Mt_w30
    have Mr_w3 : Hid (BK 23 w3 (w.heap.size + 1) [.int .i64 0, .int .i64 0, .int .i64 0, .int .i64 0]) := Lib.hid Mr_w30
    have B_w3 : Hid (Below w.heap.size w w3) := Lib.hid B_w30
    clear dt0 dt1 dt2 dt3 ft0 ft1 ft2 ft3
    clear Mt_w30 Mr_w30 B_w30 Mt_w2 Mr_w2 B_w2
    have dt0 := Mt_w3.out.cell 0 rfl
    have dt1 := Mt_w3.out.cell 1 rfl
    have dt2 := Mt_w3.out.cell 2 rfl
    have dt3 := Mt_w3.out.cell 3 rfl
    go_wp2_with first | (refine wpList_store_all (by rfl) 23 (.tmp 6) (.tmp 25) rfl rfl (w.heap.size + 1) rfl [.int .i64 r, .int .i64 b, .int .i64 (k - n), .int .i64 l] rfl 23 [.int .i64 0, .int .i64 0, .int .i64 0, .int .i64 0] Mr_w3.out infoB4 rfl (all_one rfl) ?_; intro w4 hM hP; have Mr_w4 : Hid (BK 23 w4 (w.heap.size + 1) [.int .i64 r, .int .i64 b, .int .i64 (k - n), .int .i64 l]) := Lib.hid hM; have B_w4 : Hid (Below w.heap.size w w4) := Lib.hid (hP.below B_w3.out Zr.out); have Mt_w4 : Hid (BK 23 w4 (w.heap.size) [.int .i64 r, .int .i64 b, .int .i64 (k - n), .int .i64 l]) := Lib.hid (hP.other Mt_w3.out (Nat.ne_of_lt Lt_r.out)); clear B_w3 Mt_w3 Mr_w3 hM hP dt0 dt1 dt2 dt3)
    exact bodyPost_ret (v := .tuple #[bk r b (k - n) l, .bool true]) (res_cell_tmp rfl _ _ (w.heap.size + 1) 23 _ _ _ rfl rfl Mr_w4.out Try.underlying23 rfl infoB4) rfl ⟨rfl, B_w4.out⟩
set_option maxRecDepth 20000 in
set_option maxHeartbeats 4000000 in
theorem lWait_any (r b v t now n : Int) (h : okL r b v t) (h0 : 0 ≤ now) (h1 : now ≤ 1099511627776) (w : World) :
    Calls Try.prog 18 #[bk r b v t, .int .i64 now, .int .i64 n] w fun e w' => e = .returned (.tuple #[.int .i64 (waitL r b v t now n).1, .bool (waitL r b v t now n).2]) ∧ Below w.heap.size w w' := by
  have HT := Lib.hid (fun w => lTokens_any r b v t now h h0 h1 w)
  have hr := tok_range (now := now) h
  obtain ⟨g1, g2, g3, g4, g5, g6, g7, g8⟩ := h
  obtain ⟨w0, hw0⟩ : ∃ w0, w0 = w.alloc (.cells #[.int .i64 r, .int .i64 b, .int .i64 v, .int .i64 t] 23) := ⟨_, rfl⟩
  have Mt_w0 : Hid (BK 23 w0 w.heap.size [.int .i64 r, .int .i64 b, .int .i64 v, .int .i64 t]) := Lib.hid (by rw [hw0]; exact BK.new w _ _)
  have B_w0 : Hid (Below w.heap.size w w0) := Lib.hid (by rw [hw0]; exact below_new w _)
  have HW0 := Lib.hid hw0
  clear hw0
  unfold waitL
  obtain ⟨k, hk⟩ : ∃ k, tokL r b v t now = k := ⟨_, rfl⟩
  rw [hk] at HT hr ⊢
  by_cases c1 : n ≤ k
  · rw [if_pos c1]
    have q1 : decide (n ≤ k) = true := decide_eq_true c1
    clear c1 g1 g2 g3 g4 g5 g6 g7 g8 hr hk h0 h1
    go_enter Try.func18, Try.ntmps18
    go_upto_region 1 with fail
    rw [← HW0.out]
    clear HW0
    have dt0 := Mt_w0.out.cell 0 rfl
    have dt1 := Mt_w0.out.cell 1 rfl
    have dt2 := Mt_w0.out.cell 2 rfl
    have dt3 := Mt_w0.out.cell 3 rfl
    go_wp2_with fail
    refine (HT.out w0).mono ?_
    rintro e w1 ⟨rfl, hb⟩
    have B_w1 : Hid (Below w.heap.size w w1) := Lib.hid (stepB B_w0.out hb)
    have Mt_w1 : Hid (BK 23 w1 (w.heap.size) [.int .i64 r, .int .i64 b, .int .i64 v, .int .i64 t]) := Lib.hid (Mt_w0.out.step hb)
    clear dt0 dt1 dt2 dt3
    clear B_w0 Mt_w0
    clear hb
    go_wp2_with fail
    go_ret2
    exact ⟨rfl, B_w1.out⟩
  rw [if_neg c1]
  have q1 : decide (n ≤ k) = false := decide_eq_false c1
  by_cases c2 : b < n
  · rw [if_pos (.inl c2)]
    have q2 : decide (b < n) = true := decide_eq_true c2
    clear c1 g1 g2 g3 g4 g5 g6 g7 g8 hr hk h0 h1 c2
    go_enter Try.func18, Try.ntmps18
    go_upto_region 1 with fail
    rw [← HW0.out]
    clear HW0
    have dt0 := Mt_w0.out.cell 0 rfl
    have dt1 := Mt_w0.out.cell 1 rfl
    have dt2 := Mt_w0.out.cell 2 rfl
    have dt3 := Mt_w0.out.cell 3 rfl
    go_wp2_with fail
    refine (HT.out w0).mono ?_
    rintro e w1 ⟨rfl, hb⟩
    have B_w1 : Hid (Below w.heap.size w w1) := Lib.hid (stepB B_w0.out hb)
    have Mt_w1 : Hid (BK 23 w1 (w.heap.size) [.int .i64 r, .int .i64 b, .int .i64 v, .int .i64 t]) := Lib.hid (Mt_w0.out.step hb)
    clear dt0 dt1 dt2 dt3
    clear B_w0 Mt_w0
    clear hb
    have dt0 := Mt_w1.out.cell 0 rfl
    have dt1 := Mt_w1.out.cell 1 rfl
    have dt2 := Mt_w1.out.cell 2 rfl
    have dt3 := Mt_w1.out.cell 3 rfl
    go_wp2_with fail
    go_ret2
    exact ⟨rfl, B_w1.out⟩
  have q2 : decide (b < n) = false := decide_eq_false c2
  by_cases c3 : r = 0
  · rw [if_pos (.inr c3)]
    have q3 : (r == 0) = true := by simp [c3]
    clear c1 g1 g2 g3 g4 g5 g6 g7 g8 hr hk h0 h1 c2 c3
    go_enter Try.func18, Try.ntmps18
    go_upto_region 1 with fail
    rw [← HW0.out]
    clear HW0
    have dt0 := Mt_w0.out.cell 0 rfl
    have dt1 := Mt_w0.out.cell 1 rfl
    have dt2 := Mt_w0.out.cell 2 rfl
    have dt3 := Mt_w0.out.cell 3 rfl
    go_wp2_with fail
    refine (HT.out w0).mono ?_
    rintro e w1 ⟨rfl, hb⟩
    have B_w1 : Hid (Below w.heap.size w w1) := Lib.hid (stepB B_w0.out hb)
    have Mt_w1 : Hid (BK 23 w1 (w.heap.size) [.int .i64 r, .int .i64 b, .int .i64 v, .int .i64 t]) := Lib.hid (Mt_w0.out.step hb)
    clear dt0 dt1 dt2 dt3
    clear B_w0 Mt_w0
    clear hb
    have dt0 := Mt_w1.out.cell 0 rfl
    have dt1 := Mt_w1.out.cell 1 rfl
    have dt2 := Mt_w1.out.cell 2 rfl
    have dt3 := Mt_w1.out.cell 3 rfl
    go_wp2_with fail
    go_ret2
    exact ⟨rfl, B_w1.out⟩
  rw [if_neg (by omega)]
  have q3 : (r == 0) = false := by simp [c3]
  have HI := Lib.hid (fun w => lInstants_any r b v t n (by omega) (by omega) (by omega) w)
  have hcr := ceil_range (a := n - v) (r := r) (by omega) (by omega)
  rw [ceil_steps (by omega)] at HI hcr
  generalize stepsL r v n = c at HI hcr ⊢
  have w1 : wrap64 (t + c) = t + c := wrap64_id _ (by omega) (by omega)
  have w2 : IntKind.i64.wrap (t + c) = t + c := wrap_i64_id _ (by omega) (by omega)
  by_cases c5 : 1099511627776 - t < c
  · rw [if_pos c5]
    have q5 : decide (1099511627776 < t + c) = true := decide_eq_true (by omega)
    clear c1 g1 g2 g3 g4 g5 g6 g7 g8 hr hk h0 h1 c2 c3 c5 hcr
    go_enter Try.func18, Try.ntmps18
    go_upto_region 1 with fail
    rw [← HW0.out]
    clear HW0
    have dt0 := Mt_w0.out.cell 0 rfl
    have dt1 := Mt_w0.out.cell 1 rfl
    have dt2 := Mt_w0.out.cell 2 rfl
    have dt3 := Mt_w0.out.cell 3 rfl
    go_wp2_with fail
    refine (HT.out w0).mono ?_
    rintro e w1 ⟨rfl, hb⟩
    have B_w1 : Hid (Below w.heap.size w w1) := Lib.hid (stepB B_w0.out hb)
    have Mt_w1 : Hid (BK 23 w1 (w.heap.size) [.int .i64 r, .int .i64 b, .int .i64 v, .int .i64 t]) := Lib.hid (Mt_w0.out.step hb)
    clear dt0 dt1 dt2 dt3
    clear B_w0 Mt_w0
    clear hb
    have dt0 := Mt_w1.out.cell 0 rfl
    have dt1 := Mt_w1.out.cell 1 rfl
    have dt2 := Mt_w1.out.cell 2 rfl
    have dt3 := Mt_w1.out.cell 3 rfl
    go_upto_region 5 with fail
    clear dt0 dt1 dt2 dt3
    obtain ⟨x1v1, hx1v1⟩ : ∃ x1v1, x1v1 = World.drew w1 := ⟨_, rfl⟩
    have hbD : Below w1.heap.size w1 x1v1 := by rw [hx1v1]; exact (Below.refl _ _).drew
    have B_x1v1 : Hid (Below w.heap.size w x1v1) := Lib.hid (stepB B_w1.out hbD)
    have Mt_x1v1 : Hid (BK 23 x1v1 (w.heap.size) [.int .i64 r, .int .i64 b, .int .i64 v, .int .i64 t]) := Lib.hid (Mt_w1.out.step hbD)
    clear B_w1 Mt_w1
    have hbd : (fun w' => BK 23 w' (w.heap.size) [.int .i64 r, .int .i64 b, .int .i64 v, .int .i64 t]) (World.drew w1) := by rw [← hx1v1]; exact Mt_x1v1.out
    have hSD : (fun w' => BK 23 w' (w.heap.size) [.int .i64 r, .int .i64 b, .int .i64 v, .int .i64 t]) x1v1 := Mt_x1v1.out
    have HWD := Lib.hid hx1v1
    clear hx1v1 hbD
    refine wp_region_held_drew (S := fun w' => BK 23 w' (w.heap.size) [.int .i64 r, .int .i64 b, .int .i64 v, .int .i64 t]) (by kernel_rfl) hbd (fun hHeld => ?_)
    rw [← HWD.out]
    clear hHeld
    have hHeld := hSD
    clear hSD hbd HWD
    refine wpAnyH_take (i := 0) (v := .pointer (some ⟨(w.heap.size), 3, none⟩)) (get_ops _ _ _ rfl) (by kernel_rfl) (by kernel_rfl) (by kernel_rfl) (fun _ _ _ h => h) (Or.inl ⟨by rfl, fun wS hSw => by (try dsimp only at hSw); go_simp⟩) hHeld ?_
    try simp only [Act.put, List.setIfInBounds_toArray, List.set_cons_zero, List.set_cons_succ]
    refine wpAnyH_take (i := 1) (v := .int .i64 t) (get_ops _ _ _ rfl) (by kernel_rfl) (by kernel_rfl) (by kernel_rfl) (fun _ _ _ h => h) (Or.inl ⟨by rfl, fun wS hSw => by (try dsimp only at hSw); have cS : wS.cell? ⟨(w.heap.size), 3, none⟩ = some (.int .i64 t) := hSw.cell 3 rfl; clear hSw; go_simp⟩) hHeld ?_
    try simp only [Act.put, List.setIfInBounds_toArray, List.set_cons_zero, List.set_cons_succ]
    refine wpAnyH_take (i := 2) (v := .agg [.int .i64 r, .int .i64 b, .int .i64 v, .int .i64 t].toArray) (get_ops _ _ _ rfl) (by kernel_rfl) (by kernel_rfl) (by kernel_rfl) (fun _ _ _ h => h) (Or.inl ⟨by rfl, fun wS hSw => by (try dsimp only at hSw); exact exec_load 23 _ rfl ⟨(w.heap.size), 0, none⟩ (by go_simp) _ (run_load_all hSw Try.underlying23 rfl infoB4)⟩) hHeld ?_
    try simp only [Act.put, List.setIfInBounds_toArray, List.set_cons_zero, List.set_cons_succ]
    refine wpAnyH_take (i := 3) (v := .int .i64 n) (get_ops _ _ _ rfl) (by kernel_rfl) (by kernel_rfl) (by kernel_rfl) (fun _ _ _ h => h) (Or.inl ⟨by rfl, fun wS hSw => by (try dsimp only at hSw); go_simp⟩) hHeld ?_
    try simp only [Act.put, List.setIfInBounds_toArray, List.set_cons_zero, List.set_cons_succ]
    refine wpAnyH_ready (rs := [4]) (by kernel_rfl) (by simp) ?_
    refine (AllReadyH.cons (get_ops _ _ _ rfl) (fun K hK => ?_) AllReadyH.nil)
    go_simp
    go_at_call 29
    refine (HI.out x1v1).mono ?_
    rintro e x1v2 ⟨rfl, hb⟩
    have B_x1v2 : Hid (Below w.heap.size w x1v2) := Lib.hid (stepB B_x1v1.out hb)
    have Mt_x1v2 : Hid (BK 23 x1v2 (w.heap.size) [.int .i64 r, .int .i64 b, .int .i64 v, .int .i64 t]) := Lib.hid (Mt_x1v1.out.step hb)
    clear B_x1v1 Mt_x1v1
    clear hHeld hb
    go_wp2_with fail
    refine hK.out _ _ Mt_x1v2.out (fun hHeld => ?_)
    clear hK K
    try simp only [Act.put, List.setIfInBounds_toArray, List.set_cons_zero, List.set_cons_succ]
    refine wpAnyH_take (i := 5) (v := .int .i64 ((t + c))) (get_ops _ _ _ rfl) (by kernel_rfl) (by kernel_rfl) (by kernel_rfl) (fun _ _ _ h => h) (Or.inl ⟨by rfl, fun wS hSw => by (try dsimp only at hSw); first | (go_simp; done) | (go_simp; exact w2)⟩) hHeld ?_
    try simp only [Act.put, List.setIfInBounds_toArray, List.set_cons_zero, List.set_cons_succ]
    refine wpAnyH_take (i := 6) (v := .int .i64 ((t + c))) (get_ops _ _ _ rfl) (by kernel_rfl) (by kernel_rfl) (by kernel_rfl) (fun _ _ _ h => h) (Or.inl ⟨by rfl, fun wS hSw => by (try dsimp only at hSw); go_simp⟩) hHeld ?_
    try simp only [Act.put, List.setIfInBounds_toArray, List.set_cons_zero, List.set_cons_succ]
    refine wpAnyH_done (by kernel_rfl) ?_ _
    go_wp2_with fail
    go_ret2
    exact ⟨rfl, B_x1v2.out⟩
  · rw [if_neg c5]
    have q5 : decide (1099511627776 < t + c) = false := decide_eq_false (by omega)
    clear c1 g1 g2 g3 g4 g5 g6 g7 g8 hr hk h0 h1 c2 c3 c5 hcr
    go_enter Try.func18, Try.ntmps18
    go_upto_region 1 with fail
    rw [← HW0.out]
    clear HW0
    have dt0 := Mt_w0.out.cell 0 rfl
    have dt1 := Mt_w0.out.cell 1 rfl
    have dt2 := Mt_w0.out.cell 2 rfl
    have dt3 := Mt_w0.out.cell 3 rfl
    go_wp2_with fail
    refine (HT.out w0).mono ?_
    rintro e w1 ⟨rfl, hb⟩
    have B_w1 : Hid (Below w.heap.size w w1) := Lib.hid (stepB B_w0.out hb)
    have Mt_w1 : Hid (BK 23 w1 (w.heap.size) [.int .i64 r, .int .i64 b, .int .i64 v, .int .i64 t]) := Lib.hid (Mt_w0.out.step hb)
    clear dt0 dt1 dt2 dt3
    clear B_w0 Mt_w0
    clear hb
    have dt0 := Mt_w1.out.cell 0 rfl
    have dt1 := Mt_w1.out.cell 1 rfl
    have dt2 := Mt_w1.out.cell 2 rfl
    have dt3 := Mt_w1.out.cell 3 rfl
    go_upto_region 5 with fail
    clear dt0 dt1 dt2 dt3
    obtain ⟨x1v1, hx1v1⟩ : ∃ x1v1, x1v1 = World.drew w1 := ⟨_, rfl⟩
    have hbD : Below w1.heap.size w1 x1v1 := by rw [hx1v1]; exact (Below.refl _ _).drew
    have B_x1v1 : Hid (Below w.heap.size w x1v1) := Lib.hid (stepB B_w1.out hbD)
    have Mt_x1v1 : Hid (BK 23 x1v1 (w.heap.size) [.int .i64 r, .int .i64 b, .int .i64 v, .int .i64 t]) := Lib.hid (Mt_w1.out.step hbD)
    clear B_w1 Mt_w1
    have hbd : (fun w' => BK 23 w' (w.heap.size) [.int .i64 r, .int .i64 b, .int .i64 v, .int .i64 t]) (World.drew w1) := by rw [← hx1v1]; exact Mt_x1v1.out
    have hSD : (fun w' => BK 23 w' (w.heap.size) [.int .i64 r, .int .i64 b, .int .i64 v, .int .i64 t]) x1v1 := Mt_x1v1.out
    have HWD := Lib.hid hx1v1
    clear hx1v1 hbD
    refine wp_region_held_drew (S := fun w' => BK 23 w' (w.heap.size) [.int .i64 r, .int .i64 b, .int .i64 v, .int .i64 t]) (by kernel_rfl) hbd (fun hHeld => ?_)
    rw [← HWD.out]
    clear hHeld
    have hHeld := hSD
    clear hSD hbd HWD
    refine wpAnyH_take (i := 0) (v := .pointer (some ⟨(w.heap.size), 3, none⟩)) (get_ops _ _ _ rfl) (by kernel_rfl) (by kernel_rfl) (by kernel_rfl) (fun _ _ _ h => h) (Or.inl ⟨by rfl, fun wS hSw => by (try dsimp only at hSw); go_simp⟩) hHeld ?_
    try simp only [Act.put, List.setIfInBounds_toArray, List.set_cons_zero, List.set_cons_succ]
    refine wpAnyH_take (i := 1) (v := .int .i64 t) (get_ops _ _ _ rfl) (by kernel_rfl) (by kernel_rfl) (by kernel_rfl) (fun _ _ _ h => h) (Or.inl ⟨by rfl, fun wS hSw => by (try dsimp only at hSw); have cS : wS.cell? ⟨(w.heap.size), 3, none⟩ = some (.int .i64 t) := hSw.cell 3 rfl; clear hSw; go_simp⟩) hHeld ?_
    try simp only [Act.put, List.setIfInBounds_toArray, List.set_cons_zero, List.set_cons_succ]
    refine wpAnyH_take (i := 2) (v := .agg [.int .i64 r, .int .i64 b, .int .i64 v, .int .i64 t].toArray) (get_ops _ _ _ rfl) (by kernel_rfl) (by kernel_rfl) (by kernel_rfl) (fun _ _ _ h => h) (Or.inl ⟨by rfl, fun wS hSw => by (try dsimp only at hSw); exact exec_load 23 _ rfl ⟨(w.heap.size), 0, none⟩ (by go_simp) _ (run_load_all hSw Try.underlying23 rfl infoB4)⟩) hHeld ?_
    try simp only [Act.put, List.setIfInBounds_toArray, List.set_cons_zero, List.set_cons_succ]
    refine wpAnyH_take (i := 3) (v := .int .i64 n) (get_ops _ _ _ rfl) (by kernel_rfl) (by kernel_rfl) (by kernel_rfl) (fun _ _ _ h => h) (Or.inl ⟨by rfl, fun wS hSw => by (try dsimp only at hSw); go_simp⟩) hHeld ?_
    try simp only [Act.put, List.setIfInBounds_toArray, List.set_cons_zero, List.set_cons_succ]
    refine wpAnyH_ready (rs := [4]) (by kernel_rfl) (by simp) ?_
    refine (AllReadyH.cons (get_ops _ _ _ rfl) (fun K hK => ?_) AllReadyH.nil)
    go_simp
    go_at_call 29
    refine (HI.out x1v1).mono ?_
    rintro e x1v2 ⟨rfl, hb⟩
    have B_x1v2 : Hid (Below w.heap.size w x1v2) := Lib.hid (stepB B_x1v1.out hb)
    have Mt_x1v2 : Hid (BK 23 x1v2 (w.heap.size) [.int .i64 r, .int .i64 b, .int .i64 v, .int .i64 t]) := Lib.hid (Mt_x1v1.out.step hb)
    clear B_x1v1 Mt_x1v1
    clear hHeld hb
    go_wp2_with fail
    refine hK.out _ _ Mt_x1v2.out (fun hHeld => ?_)
    clear hK K
    try simp only [Act.put, List.setIfInBounds_toArray, List.set_cons_zero, List.set_cons_succ]
    refine wpAnyH_take (i := 5) (v := .int .i64 ((t + c))) (get_ops _ _ _ rfl) (by kernel_rfl) (by kernel_rfl) (by kernel_rfl) (fun _ _ _ h => h) (Or.inl ⟨by rfl, fun wS hSw => by (try dsimp only at hSw); first | (go_simp; done) | (go_simp; exact w2)⟩) hHeld ?_
    try simp only [Act.put, List.setIfInBounds_toArray, List.set_cons_zero, List.set_cons_succ]
    refine wpAnyH_take (i := 6) (v := .int .i64 ((t + c))) (get_ops _ _ _ rfl) (by kernel_rfl) (by kernel_rfl) (by kernel_rfl) (fun _ _ _ h => h) (Or.inl ⟨by rfl, fun wS hSw => by (try dsimp only at hSw); go_simp⟩) hHeld ?_
    try simp only [Act.put, List.setIfInBounds_toArray, List.set_cons_zero, List.set_cons_succ]
    refine wpAnyH_done (by kernel_rfl) ?_ _
    go_wp2_with fail
    go_ret2
    exact ⟨rfl, B_x1v2.out⟩
theorem below_set {B : Nat} {w w' : World} (h : Below B w w') (p : Addr) (hp : B ≤ p.block) (u : Value) : Below B w (w'.setCell p u) := h.setCell hp u
set_option maxRecDepth 20000 in
set_option maxHeartbeats 4000000 in
theorem lCharge_ex (w : World) : Calls Try.prog 22 #[.agg #[.int .i64 2, .int .i64 10, .int .i64 1, .int .i64 7], .int .i64 3] w fun e w' => e = .returned (.tuple #[.agg #[.int .i64 2, .int .i64 10, .int .i64 2, .int .i64 10], .int .i64 0]) ∧ Below w.heap.size w w' := by
  have hmf : ∀ (fn : Fn) (first cap : Array Value) (w : World), (Instr.makeFunc fn first cap).run Try.prog w = .ok (.func fn first cap) w := fun _ _ _ _ => rfl
  have HB : Hid (Below w.heap.size w (((w.alloc (.cells #[.int .i64 2, .int .i64 10, .int .i64 1, .int .i64 7] 45)).alloc (.cells #[.int .i64 0, .int .i64 0, .int .i64 0, .int .i64 0] 45)).alloc (.cells #[.int .i64 0] 25))) := Lib.hid (stepB (stepB (below_new w _) (below_new _ _)) (below_new _ _))
  go_enter_defers Try.func22, Try.ntmps22
  go_wp2_with fail
  refine (lRequire_yes 1 _).mono ?_
  rintro e w' ⟨rfl, rfl⟩
  go_wp2_with fail
  refine (lRequire_yes 18 _).mono ?_
  rintro e w' ⟨rfl, rfl⟩
  go_wp2_with fail
  refine leaves_cons (f := 30) (args := #[.pointer (some ⟨w.heap.size + 2, 0, none⟩)]) (by simp) (by simp [go_sem]) ?_
  refine (lChargeD_idle ⟨w.heap.size + 2, 0, none⟩ 0 _ ?_ ?_).mono ?_
  · simp [go_sem]
  · simp [go_sem]
  rintro e u' w'' ⟨rfl, rfl, rfl⟩
  refine ⟨.tuple #[.agg #[.int .i64 2, .int .i64 10, .int .i64 2, .int .i64 10], .int .i64 0], by simp [results, Try.results22, go_sem], rfl, ?_⟩
  repeat (first | exact HB.out | exact stepB (stepB (below_new w _) (below_new _ _)) (below_new _ _) | refine below_set ?_ _ (by simp) _)
set_option maxRecDepth 20000 in
set_option maxHeartbeats 4000000 in
theorem lRefund_ex (w : World) : Calls Try.prog 23 #[.agg #[.int .i64 2, .int .i64 10, .int .i64 2, .int .i64 10], .int .i64 11] w fun e w' => e = .returned (.tuple #[.agg #[.int .i64 0, .int .i64 0, .int .i64 0, .int .i64 0], .int .i64 9]) ∧ Below w.heap.size w w' := by
  have hmf : ∀ (fn : Fn) (first cap : Array Value) (w : World), (Instr.makeFunc fn first cap).run Try.prog w = .ok (.func fn first cap) w := fun _ _ _ _ => rfl
  have HB : Hid (Below w.heap.size w (((w.alloc (.cells #[.int .i64 2, .int .i64 10, .int .i64 2, .int .i64 10] 45)).alloc (.cells #[.int .i64 0, .int .i64 0, .int .i64 0, .int .i64 0] 45)).alloc (.cells #[.int .i64 0] 25))) := Lib.hid (stepB (stepB (below_new w _) (below_new _ _)) (below_new _ _))
  go_enter_defers Try.func23, Try.ntmps23
  go_wp2_with fail
  refine (lRequire_yes 1 _).mono ?_
  rintro e w' ⟨rfl, rfl⟩
  go_wp2_with fail
  refine (lRequire_no 9 _).mono ?_
  rintro e w' ⟨rfl, rfl⟩
  go_wp2_with fail
  refine leaves_cons (f := 31) (args := #[.pointer (some ⟨w.heap.size + 2, 0, none⟩)]) (by simp) (by simp [go_sem]) ?_
  refine (lRefundD_panic ⟨w.heap.size + 2, 0, none⟩ 9 0 [] _ ?_ ?_).mono ?_
  · simp [go_sem]
  · simp [go_sem]
  rintro e u' w'' ⟨rfl, rfl, rfl⟩
  refine ⟨.tuple #[.agg #[.int .i64 0, .int .i64 0, .int .i64 0, .int .i64 0], .int .i64 9], by simp [results, Try.results23, go_sem], rfl, ?_⟩
  repeat (first | exact HB.out | exact stepB (stepB (below_new w _) (below_new _ _)) (below_new _ _) | refine below_set ?_ _ (by simp) _)
end Go.Proofs.Ytmcocepjdhpecaa
