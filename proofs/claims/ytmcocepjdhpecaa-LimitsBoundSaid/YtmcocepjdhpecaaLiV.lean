/-
  The walks of the first statements of brokerlaw21: each answers true. Conditions: the numbers fit an int.
-/
import Derived.Test.YtmcocepjdhpecaaLiW
namespace Go.Proofs.Ytmcocepjdhpecaa
open Go.RowKit

theorem sameL_self (r b v t : Int) (w : World) : Calls Try.prog 16 #[bk r b v t, bk r b v t] w fun e w' => e = .returned (.bool true) ∧ Below w.heap.size w w' := by
  have := rSameL_any r b v t r b v t w
  simpa using this
theorem take_ok {r b v t now n : Int} (h : okL r b v t) (h0 : 0 ≤ now) (h1 : now ≤ 1099511627776) : okL r b (takeL r b v t now n).1 (lastL t now) := by
  have h2 := tok_range (now := now) h
  have h3 := fill_ok h h0 h1
  obtain ⟨g1, g2, g3, g4, g5, g6, g7, g8⟩ := h3
  unfold takeL
  split
  · exact ⟨g1, g2, g3, g4, g5, g6, g7, g8⟩
  · refine ⟨g1, g2, g3, g4, ?_, ?_, g7, g8⟩ <;> dsimp only <;> omega
theorem lCheck_ok (r b v t : Int) (h : okL r b v t) (w : World) : Calls Try.prog 10 #[bk r b v t] w fun e w' => e = .returned (.int .i64 0) ∧ Below w.heap.size w w' := by
  have := lCheckL_any r b v t w
  rw [ckL_ok.2 h] at this
  exact this

set_option maxRecDepth 20000 in
set_option maxHeartbeats 4000000 in
theorem limitsChecks_walk (r b v t : Int) (w : World) :
    Calls Try.prog 3 #[bk r b v t] w fun e w' => e = .returned (.bool true) ∧ Below w.heap.size w w' := by
  have HA := Lib.hid (fun w => awake21_any w)
  obtain ⟨w0, hw0⟩ : ∃ w0, w0 = w.alloc (.cells #[.int .i64 r, .int .i64 b, .int .i64 v, .int .i64 t] 23) := ⟨_, rfl⟩
  have M0 : BK 23 w0 w.heap.size [.int .i64 r, .int .i64 b, .int .i64 v, .int .i64 t] := by rw [hw0]; exact BK.new w _ _
  have hb0 : Below w.heap.size w w0 := by rw [hw0]; exact below_new w _
  have B_w0 := Lib.hid hb0
  have Mt_w0 := Lib.hid M0
  have HW0 := Lib.hid hw0
  have C1 := Lib.hid (fun w => lCheckL_any r b v t w)
  have C2 := Lib.hid (fun w => rCheckL_any r b v t w)
  generalize ckL r b v t = C at C1 C2
  clear hw0 M0 hb0
  go_enter Try.func3, Try.ntmps3
  go_upto_region 1 with fail
  rw [← HW0.out]
  clear HW0
  obtain ⟨x0v1, hx0v1⟩ : ∃ x0v1, x0v1 = World.drew w0 := ⟨_, rfl⟩
  have hbD : Below w0.heap.size w0 x0v1 := by rw [hx0v1]; exact (Below.refl _ _).drew
  have B_x0v1 : Hid (Below w.heap.size w x0v1) := Lib.hid (stepB B_w0.out hbD)
  have Mt_x0v1 : Hid (BK 23 x0v1 (w.heap.size) [.int .i64 r, .int .i64 b, .int .i64 v, .int .i64 t]) := Lib.hid (Mt_w0.out.step hbD)
  clear B_w0 Mt_w0
  have hbd : (fun w' => BK 23 w' (w.heap.size) [.int .i64 r, .int .i64 b, .int .i64 v, .int .i64 t]) (World.drew w0) := by rw [← hx0v1]; exact Mt_x0v1.out
  have hSD : (fun w' => BK 23 w' (w.heap.size) [.int .i64 r, .int .i64 b, .int .i64 v, .int .i64 t]) x0v1 := Mt_x0v1.out
  have HWD := Lib.hid hx0v1
  clear hx0v1 hbD
  refine wp_region_held_drew (S := fun w' => BK 23 w' (w.heap.size) [.int .i64 r, .int .i64 b, .int .i64 v, .int .i64 t]) (by kernel_rfl) hbd (fun hHeld => ?_)
  rw [← HWD.out]
  clear hHeld
  have hHeld := hSD
  clear hSD hbd HWD
  refine wpAnyH_ready (rs := [0]) (by kernel_rfl) (by simp) ?_
  refine (AllReadyH.cons (get_ops _ _ _ rfl) (fun K hK => ?_) AllReadyH.nil)
  go_simp
  go_at_call 9
  refine (HA.out x0v1).mono ?_
  rintro e x0v2 ⟨rfl, hb⟩
  have B_x0v2 : Hid (Below w.heap.size w x0v2) := Lib.hid (stepB B_x0v1.out hb)
  have Mt_x0v2 : Hid (BK 23 x0v2 (w.heap.size) [.int .i64 r, .int .i64 b, .int .i64 v, .int .i64 t]) := Lib.hid (Mt_x0v1.out.step hb)
  clear B_x0v1 Mt_x0v1
  clear hHeld hb
  go_wp2_with fail
  refine hK.out _ _ Mt_x0v2.out (fun hHeld => ?_)
  clear hK K
  try simp only [Act.put, List.setIfInBounds_toArray, List.set_cons_zero, List.set_cons_succ]
  refine wpAnyH_take (i := 1) (v := .bool true) (get_ops _ _ _ rfl) (by kernel_rfl) (by kernel_rfl) (by kernel_rfl) (fun _ _ _ h => h) (Or.inl ⟨by rfl, fun wS hSw => by (try dsimp only at hSw); go_simp⟩) hHeld ?_
  try simp only [Act.put, List.setIfInBounds_toArray, List.set_cons_zero, List.set_cons_succ]
  refine wpAnyH_take (i := 2) (v := .agg [.int .i64 r, .int .i64 b, .int .i64 v, .int .i64 t].toArray) (get_ops _ _ _ rfl) (by kernel_rfl) (by kernel_rfl) (by kernel_rfl) (fun _ _ _ h => h) (Or.inl ⟨by rfl, fun wS hSw => by (try dsimp only at hSw); exact exec_load 23 _ rfl ⟨(w.heap.size), 0, none⟩ (by go_simp) _ (run_load_all hSw Try.underlying23 rfl infoB4)⟩) hHeld ?_
  try simp only [Act.put, List.setIfInBounds_toArray, List.set_cons_zero, List.set_cons_succ]
  refine wpAnyH_take (i := 4) (v := .agg [.int .i64 r, .int .i64 b, .int .i64 v, .int .i64 t].toArray) (get_ops _ _ _ rfl) (by kernel_rfl) (by kernel_rfl) (by kernel_rfl) (fun _ _ _ h => h) (Or.inl ⟨by rfl, fun wS hSw => by (try dsimp only at hSw); exact exec_load 23 _ rfl ⟨(w.heap.size), 0, none⟩ (by go_simp) _ (run_load_all hSw Try.underlying23 rfl infoB4)⟩) hHeld ?_
  try simp only [Act.put, List.setIfInBounds_toArray, List.set_cons_zero, List.set_cons_succ]
  refine wpAnyH_ready (rs := [3]) (by kernel_rfl) (by simp) ?_
  refine (AllReadyH.cons (get_ops _ _ _ rfl) (fun K hK => ?_) AllReadyH.nil)
  go_simp
  go_at_call 10
  refine (C1.out x0v2).mono ?_
  rintro e x0v3 ⟨rfl, hb⟩
  have B_x0v3 : Hid (Below w.heap.size w x0v3) := Lib.hid (stepB B_x0v2.out hb)
  have Mt_x0v3 : Hid (BK 23 x0v3 (w.heap.size) [.int .i64 r, .int .i64 b, .int .i64 v, .int .i64 t]) := Lib.hid (Mt_x0v2.out.step hb)
  clear B_x0v2 Mt_x0v2
  clear hHeld hb
  go_wp2_with fail
  refine hK.out _ _ Mt_x0v3.out (fun hHeld => ?_)
  clear hK K
  try simp only [Act.put, List.setIfInBounds_toArray, List.set_cons_zero, List.set_cons_succ]
  refine wpAnyH_ready (rs := [5]) (by kernel_rfl) (by simp) ?_
  refine (AllReadyH.cons (get_ops _ _ _ rfl) (fun K hK => ?_) AllReadyH.nil)
  go_simp
  go_at_call 11
  refine (C2.out x0v3).mono ?_
  rintro e x0v4 ⟨rfl, hb⟩
  have B_x0v4 : Hid (Below w.heap.size w x0v4) := Lib.hid (stepB B_x0v3.out hb)
  have Mt_x0v4 : Hid (BK 23 x0v4 (w.heap.size) [.int .i64 r, .int .i64 b, .int .i64 v, .int .i64 t]) := Lib.hid (Mt_x0v3.out.step hb)
  clear B_x0v3 Mt_x0v3
  clear hHeld hb
  go_wp2_with fail
  refine hK.out _ _ Mt_x0v4.out (fun hHeld => ?_)
  clear hK K
  try simp only [Act.put, List.setIfInBounds_toArray, List.set_cons_zero, List.set_cons_succ]
  refine wpAnyH_take (i := 6) (v := .bool true) (get_ops _ _ _ rfl) (by kernel_rfl) (by kernel_rfl) (by kernel_rfl) (fun _ _ _ h => h) (Or.inl ⟨by rfl, fun wS hSw => by (try dsimp only at hSw); go_simp⟩) hHeld ?_
  try simp only [Act.put, List.setIfInBounds_toArray, List.set_cons_zero, List.set_cons_succ]
  refine wpAnyH_take (i := 7) (v := .bool true) (get_ops _ _ _ rfl) (by kernel_rfl) (by kernel_rfl) (by kernel_rfl) (fun _ _ _ h => h) (Or.inl ⟨by rfl, fun wS hSw => by (try dsimp only at hSw); go_simp⟩) hHeld ?_
  try simp only [Act.put, List.setIfInBounds_toArray, List.set_cons_zero, List.set_cons_succ]
  refine wpAnyH_take (i := 8) (v := .bool true) (get_ops _ _ _ rfl) (by kernel_rfl) (by kernel_rfl) (by kernel_rfl) (fun _ _ _ h => h) (Or.inl ⟨by rfl, fun wS hSw => by (try dsimp only at hSw); go_simp⟩) hHeld ?_
  try simp only [Act.put, List.setIfInBounds_toArray, List.set_cons_zero, List.set_cons_succ]
  refine wpAnyH_done (by kernel_rfl) ?_ _
  go_wp2_with fail
  go_ret
  exact ⟨rfl, B_x0v4.out⟩
set_option maxRecDepth 20000 in
set_option maxHeartbeats 4000000 in
theorem limitsTakes_bad (r b v t : Int) (now n : Int) (w : World) (hv : vbL r b v t now = false) :
    Calls Try.prog 4 #[bk r b v t, .int .i64 now, .int .i64 n] w fun e w' => e = .returned (.bool true) ∧ Below w.heap.size w w' := by
  have HA := Lib.hid (fun w => awake21_any w)
  obtain ⟨w0, hw0⟩ : ∃ w0, w0 = w.alloc (.cells #[.int .i64 r, .int .i64 b, .int .i64 v, .int .i64 t] 23) := ⟨_, rfl⟩
  have M0 : BK 23 w0 w.heap.size [.int .i64 r, .int .i64 b, .int .i64 v, .int .i64 t] := by rw [hw0]; exact BK.new w _ _
  have hb0 : Below w.heap.size w w0 := by rw [hw0]; exact below_new w _
  have B_w0 := Lib.hid hb0
  have Mt_w0 := Lib.hid M0
  have HW0 := Lib.hid hw0
  have CV := Lib.hid (fun w => valid21_any r b v t now w)
  rw [hv] at CV
  clear hv
  clear hw0 M0 hb0
  go_enter Try.func4, Try.ntmps4
  go_upto_region 1 with fail
  rw [← HW0.out]
  clear HW0
  have dt0 := Mt_w0.out.cell 0 rfl
  have dt1 := Mt_w0.out.cell 1 rfl
  have dt2 := Mt_w0.out.cell 2 rfl
  have dt3 := Mt_w0.out.cell 3 rfl
  go_wp2_with fail
  refine (CV.out w0).mono ?_
  rintro e w1 ⟨rfl, hb⟩
  have B_w1 : Hid (Below w.heap.size w w1) := Lib.hid (stepB B_w0.out hb)
  have Mt_w1 : Hid (BK 23 w1 (w.heap.size) [.int .i64 r, .int .i64 b, .int .i64 v, .int .i64 t]) := Lib.hid (Mt_w0.out.step hb)
  clear dt0 dt1 dt2 dt3
  clear B_w0 Mt_w0
  clear hb
  go_wp2_with fail
  refine (HA.out w1).mono ?_
  rintro e w2 ⟨rfl, hb⟩
  have B_w2 : Hid (Below w.heap.size w w2) := Lib.hid (stepB B_w1.out hb)
  have Mt_w2 : Hid (BK 23 w2 (w.heap.size) [.int .i64 r, .int .i64 b, .int .i64 v, .int .i64 t]) := Lib.hid (Mt_w1.out.step hb)
  clear B_w1 Mt_w1
  clear hb
  go_wp2_with fail
  go_ret
  exact ⟨rfl, B_w2.out⟩
set_option maxRecDepth 20000 in
set_option maxHeartbeats 4000000 in
theorem limitsTakes_good (r b v t : Int) (now n : Int) (w : World) (hv : vbL r b v t now = true) :
    Calls Try.prog 4 #[bk r b v t, .int .i64 now, .int .i64 n] w fun e w' => e = .returned (.bool true) ∧ Below w.heap.size w w' := by
  have HA := Lib.hid (fun w => awake21_any w)
  obtain ⟨w0, hw0⟩ : ∃ w0, w0 = w.alloc (.cells #[.int .i64 r, .int .i64 b, .int .i64 v, .int .i64 t] 23) := ⟨_, rfl⟩
  have M0 : BK 23 w0 w.heap.size [.int .i64 r, .int .i64 b, .int .i64 v, .int .i64 t] := by rw [hw0]; exact BK.new w _ _
  have hb0 : Below w.heap.size w w0 := by rw [hw0]; exact below_new w _
  have B_w0 := Lib.hid hb0
  have Mt_w0 := Lib.hid M0
  have HW0 := Lib.hid hw0
  have CV := Lib.hid (fun w => valid21_any r b v t now w)
  rw [hv] at CV
  obtain ⟨hok, h0, h1⟩ := vbL_iff.1 hv
  have C3 := Lib.hid (fun w => lTake_any r b v t now n hok h0 h1 w)
  have C4 := Lib.hid (fun w => rTake_any r b v t now n hok h0 h1 w)
  have C5 := Lib.hid (fun w => lRefill_any r b v t now hok h0 h1 w)
  have C6 := Lib.hid (fun w => rRefill_any r b v t now hok h0 h1 w)
  have C7 := Lib.hid (fun w => lCheck_ok r b (takeL r b v t now n).1 (lastL t now) (take_ok hok h0 h1) w)
  have C8 := Lib.hid (fun w => lCheck_ok r b (tokL r b v t now) (lastL t now) (fill_ok hok h0 h1) w)
  generalize (takeL r b v t now n).1 = x at C3 C4 C7
  generalize (takeL r b v t now n).2 = ok at C3 C4
  generalize tokL r b v t now = k at C5 C6 C8
  generalize lastL t now = l at C3 C4 C5 C6 C7 C8
  clear hv hok h0 h1
  clear hw0 M0 hb0
  go_enter Try.func4, Try.ntmps4
  go_upto_region 1 with fail
  rw [← HW0.out]
  clear HW0
  have dt0 := Mt_w0.out.cell 0 rfl
  have dt1 := Mt_w0.out.cell 1 rfl
  have dt2 := Mt_w0.out.cell 2 rfl
  have dt3 := Mt_w0.out.cell 3 rfl
  go_wp2_with fail
  refine (CV.out w0).mono ?_
  rintro e w1 ⟨rfl, hb⟩
  have B_w1 : Hid (Below w.heap.size w w1) := Lib.hid (stepB B_w0.out hb)
  have Mt_w1 : Hid (BK 23 w1 (w.heap.size) [.int .i64 r, .int .i64 b, .int .i64 v, .int .i64 t]) := Lib.hid (Mt_w0.out.step hb)
  clear dt0 dt1 dt2 dt3
  clear B_w0 Mt_w0
  clear hb
  have dt0 := Mt_w1.out.cell 0 rfl
  have dt1 := Mt_w1.out.cell 1 rfl
  have dt2 := Mt_w1.out.cell 2 rfl
  have dt3 := Mt_w1.out.cell 3 rfl
  go_wp2_with fail
  refine (C3.out w1).mono ?_
  rintro e w2 ⟨rfl, hb⟩
  have B_w2 : Hid (Below w.heap.size w w2) := Lib.hid (stepB B_w1.out hb)
  have Mt_w2 : Hid (BK 23 w2 (w.heap.size) [.int .i64 r, .int .i64 b, .int .i64 v, .int .i64 t]) := Lib.hid (Mt_w1.out.step hb)
  clear dt0 dt1 dt2 dt3
  clear B_w1 Mt_w1
  clear hb
  have dt0 := Mt_w2.out.cell 0 rfl
  have dt1 := Mt_w2.out.cell 1 rfl
  have dt2 := Mt_w2.out.cell 2 rfl
  have dt3 := Mt_w2.out.cell 3 rfl
  go_wp2_with first | (refine wpList_store_all (by rfl) 23 (.tmp 7) (.tmp 22) rfl rfl (w2.heap.size) rfl [.int .i64 r, .int .i64 b, .int .i64 x, .int .i64 l] rfl 23 [.int .i64 0, .int .i64 0, .int .i64 0, .int .i64 0] (BK.new w2 _ _) infoB4 rfl (all_one rfl) ?_; intro w3 hM hP; have Mc_w3 : Hid (BK 23 w3 (w2.heap.size) [.int .i64 r, .int .i64 b, .int .i64 x, .int .i64 l]) := Lib.hid hM; have Lt_c : Hid (w.heap.size < w2.heap.size) := Lib.hid Mt_w2.out.lt; have Zc : Hid (w.heap.size ≤ w2.heap.size) := Lib.hid B_w2.out.size; have B_w3 : Hid (Below w.heap.size w w3) := Lib.hid (hP.below (stepB B_w2.out (below_new w2 _)) B_w2.out.size); have Mt_w3 : Hid (BK 23 w3 (w.heap.size) [.int .i64 r, .int .i64 b, .int .i64 v, .int .i64 t]) := Lib.hid (hP.other (BK.alloc Mt_w2.out _) (Nat.ne_of_lt Mt_w2.out.lt)); clear B_w2 Mt_w2 hM hP dt0 dt1 dt2 dt3; have dt0 := Mt_w3.out.cell 0 rfl; have dt1 := Mt_w3.out.cell 1 rfl; have dt2 := Mt_w3.out.cell 2 rfl; have dt3 := Mt_w3.out.cell 3 rfl)
  refine (C4.out w3).mono ?_
  rintro e w4 ⟨rfl, hb⟩
  have B_w4 : Hid (Below w.heap.size w w4) := Lib.hid (stepB B_w3.out hb)
  have Mt_w4 : Hid (BK 23 w4 (w.heap.size) [.int .i64 r, .int .i64 b, .int .i64 v, .int .i64 t]) := Lib.hid (Mt_w3.out.step hb)
  have Mc_w4 : Hid (BK 23 w4 (w2.heap.size) [.int .i64 r, .int .i64 b, .int .i64 x, .int .i64 l]) := Lib.hid (Mc_w3.out.step hb)
  clear dt0 dt1 dt2 dt3
  clear B_w3 Mt_w3 Mc_w3
  clear hb
  have dt0 := Mt_w4.out.cell 0 rfl
  have dt1 := Mt_w4.out.cell 1 rfl
  have dt2 := Mt_w4.out.cell 2 rfl
  have dt3 := Mt_w4.out.cell 3 rfl
  go_wp2_with first | (refine wpList_store_all (by rfl) 23 (.tmp 9) (.tmp 29) rfl rfl (w4.heap.size) rfl [.int .i64 r, .int .i64 b, .int .i64 x, .int .i64 l] rfl 23 [.int .i64 0, .int .i64 0, .int .i64 0, .int .i64 0] (BK.new w4 _ _) infoB4 rfl (all_one rfl) ?_; intro w5 hM hP; have Md_w5 : Hid (BK 23 w5 (w4.heap.size) [.int .i64 r, .int .i64 b, .int .i64 x, .int .i64 l]) := Lib.hid hM; have Lt_d : Hid (w.heap.size < w4.heap.size) := Lib.hid Mt_w4.out.lt; have Lc_d : Hid (w2.heap.size < w4.heap.size) := Lib.hid Mc_w4.out.lt; have Zd : Hid (w.heap.size ≤ w4.heap.size) := Lib.hid B_w4.out.size; have B_w5 : Hid (Below w.heap.size w w5) := Lib.hid (hP.below (stepB B_w4.out (below_new w4 _)) B_w4.out.size); have Mt_w5 : Hid (BK 23 w5 (w.heap.size) [.int .i64 r, .int .i64 b, .int .i64 v, .int .i64 t]) := Lib.hid (hP.other (BK.alloc Mt_w4.out _) (Nat.ne_of_lt Mt_w4.out.lt)); have Mc_w5 : Hid (BK 23 w5 (w2.heap.size) [.int .i64 r, .int .i64 b, .int .i64 x, .int .i64 l]) := Lib.hid (hP.other (BK.alloc Mc_w4.out _) (Nat.ne_of_lt Mc_w4.out.lt)); clear B_w4 Mt_w4 Mc_w4 hM hP dt0 dt1 dt2 dt3; have dt0 := Mt_w5.out.cell 0 rfl; have dt1 := Mt_w5.out.cell 1 rfl; have dt2 := Mt_w5.out.cell 2 rfl; have dt3 := Mt_w5.out.cell 3 rfl)
  refine (C5.out w5).mono ?_
  rintro e w6 ⟨rfl, hb⟩
  have B_w6 : Hid (Below w.heap.size w w6) := Lib.hid (stepB B_w5.out hb)
  have Mt_w6 : Hid (BK 23 w6 (w.heap.size) [.int .i64 r, .int .i64 b, .int .i64 v, .int .i64 t]) := Lib.hid (Mt_w5.out.step hb)
  have Mc_w6 : Hid (BK 23 w6 (w2.heap.size) [.int .i64 r, .int .i64 b, .int .i64 x, .int .i64 l]) := Lib.hid (Mc_w5.out.step hb)
  have Md_w6 : Hid (BK 23 w6 (w4.heap.size) [.int .i64 r, .int .i64 b, .int .i64 x, .int .i64 l]) := Lib.hid (Md_w5.out.step hb)
  clear dt0 dt1 dt2 dt3
  clear B_w5 Mt_w5 Mc_w5 Md_w5
  clear hb
  go_upto_region 6 with first | (refine wpList_store_all (by rfl) 23 (.tmp 11) (.tmp 33) rfl rfl (w6.heap.size) rfl [.int .i64 r, .int .i64 b, .int .i64 k, .int .i64 l] rfl 23 [.int .i64 0, .int .i64 0, .int .i64 0, .int .i64 0] (BK.new w6 _ _) infoB4 rfl (all_one rfl) ?_; intro w7 hM hP; have Me_w7 : Hid (BK 23 w7 (w6.heap.size) [.int .i64 r, .int .i64 b, .int .i64 k, .int .i64 l]) := Lib.hid hM; have Lt_e : Hid (w.heap.size < w6.heap.size) := Lib.hid Mt_w6.out.lt; have Lc_e : Hid (w2.heap.size < w6.heap.size) := Lib.hid Mc_w6.out.lt; have Ld_e : Hid (w4.heap.size < w6.heap.size) := Lib.hid Md_w6.out.lt; have Ze : Hid (w.heap.size ≤ w6.heap.size) := Lib.hid B_w6.out.size; have B_w7 : Hid (Below w.heap.size w w7) := Lib.hid (hP.below (stepB B_w6.out (below_new w6 _)) B_w6.out.size); have Mt_w7 : Hid (BK 23 w7 (w.heap.size) [.int .i64 r, .int .i64 b, .int .i64 v, .int .i64 t]) := Lib.hid (hP.other (BK.alloc Mt_w6.out _) (Nat.ne_of_lt Mt_w6.out.lt)); have Mc_w7 : Hid (BK 23 w7 (w2.heap.size) [.int .i64 r, .int .i64 b, .int .i64 x, .int .i64 l]) := Lib.hid (hP.other (BK.alloc Mc_w6.out _) (Nat.ne_of_lt Mc_w6.out.lt)); have Md_w7 : Hid (BK 23 w7 (w4.heap.size) [.int .i64 r, .int .i64 b, .int .i64 x, .int .i64 l]) := Lib.hid (hP.other (BK.alloc Md_w6.out _) (Nat.ne_of_lt Md_w6.out.lt)); clear B_w6 Mt_w6 Mc_w6 Md_w6 hM hP)
  obtain ⟨x7v1, hx7v1⟩ : ∃ x7v1, x7v1 = World.drew w7 := ⟨_, rfl⟩
  have hbD : Below w7.heap.size w7 x7v1 := by rw [hx7v1]; exact (Below.refl _ _).drew
  have B_x7v1 : Hid (Below w.heap.size w x7v1) := Lib.hid (stepB B_w7.out hbD)
  have Mt_x7v1 : Hid (BK 23 x7v1 (w.heap.size) [.int .i64 r, .int .i64 b, .int .i64 v, .int .i64 t]) := Lib.hid (Mt_w7.out.step hbD)
  have Mc_x7v1 : Hid (BK 23 x7v1 (w2.heap.size) [.int .i64 r, .int .i64 b, .int .i64 x, .int .i64 l]) := Lib.hid (Mc_w7.out.step hbD)
  have Md_x7v1 : Hid (BK 23 x7v1 (w4.heap.size) [.int .i64 r, .int .i64 b, .int .i64 x, .int .i64 l]) := Lib.hid (Md_w7.out.step hbD)
  have Me_x7v1 : Hid (BK 23 x7v1 (w6.heap.size) [.int .i64 r, .int .i64 b, .int .i64 k, .int .i64 l]) := Lib.hid (Me_w7.out.step hbD)
  clear B_w7 Mt_w7 Mc_w7 Md_w7 Me_w7
  have hbd : (fun w' => BK 23 w' (w.heap.size) [.int .i64 r, .int .i64 b, .int .i64 v, .int .i64 t] ∧ BK 23 w' (w2.heap.size) [.int .i64 r, .int .i64 b, .int .i64 x, .int .i64 l] ∧ BK 23 w' (w4.heap.size) [.int .i64 r, .int .i64 b, .int .i64 x, .int .i64 l] ∧ BK 23 w' (w6.heap.size) [.int .i64 r, .int .i64 b, .int .i64 k, .int .i64 l]) (World.drew w7) := by rw [← hx7v1]; exact ⟨Mt_x7v1.out, Mc_x7v1.out, Md_x7v1.out, Me_x7v1.out⟩
  have hSD : (fun w' => BK 23 w' (w.heap.size) [.int .i64 r, .int .i64 b, .int .i64 v, .int .i64 t] ∧ BK 23 w' (w2.heap.size) [.int .i64 r, .int .i64 b, .int .i64 x, .int .i64 l] ∧ BK 23 w' (w4.heap.size) [.int .i64 r, .int .i64 b, .int .i64 x, .int .i64 l] ∧ BK 23 w' (w6.heap.size) [.int .i64 r, .int .i64 b, .int .i64 k, .int .i64 l]) x7v1 := ⟨Mt_x7v1.out, Mc_x7v1.out, Md_x7v1.out, Me_x7v1.out⟩
  have HWD := Lib.hid hx7v1
  clear hx7v1 hbD
  refine wp_region_held_drew (S := fun w' => BK 23 w' (w.heap.size) [.int .i64 r, .int .i64 b, .int .i64 v, .int .i64 t] ∧ BK 23 w' (w2.heap.size) [.int .i64 r, .int .i64 b, .int .i64 x, .int .i64 l] ∧ BK 23 w' (w4.heap.size) [.int .i64 r, .int .i64 b, .int .i64 x, .int .i64 l] ∧ BK 23 w' (w6.heap.size) [.int .i64 r, .int .i64 b, .int .i64 k, .int .i64 l]) (by kernel_rfl) hbd (fun hHeld => ?_)
  rw [← HWD.out]
  clear hHeld
  have hHeld := hSD
  clear hSD hbd HWD
  refine wpAnyH_ready (rs := [0]) (by kernel_rfl) (by simp) ?_
  refine (AllReadyH.cons (get_ops _ _ _ rfl) (fun K hK => ?_) AllReadyH.nil)
  go_simp
  go_at_call 9
  refine (HA.out x7v1).mono ?_
  rintro e x7v2 ⟨rfl, hb⟩
  have B_x7v2 : Hid (Below w.heap.size w x7v2) := Lib.hid (stepB B_x7v1.out hb)
  have Mt_x7v2 : Hid (BK 23 x7v2 (w.heap.size) [.int .i64 r, .int .i64 b, .int .i64 v, .int .i64 t]) := Lib.hid (Mt_x7v1.out.step hb)
  have Mc_x7v2 : Hid (BK 23 x7v2 (w2.heap.size) [.int .i64 r, .int .i64 b, .int .i64 x, .int .i64 l]) := Lib.hid (Mc_x7v1.out.step hb)
  have Md_x7v2 : Hid (BK 23 x7v2 (w4.heap.size) [.int .i64 r, .int .i64 b, .int .i64 x, .int .i64 l]) := Lib.hid (Md_x7v1.out.step hb)
  have Me_x7v2 : Hid (BK 23 x7v2 (w6.heap.size) [.int .i64 r, .int .i64 b, .int .i64 k, .int .i64 l]) := Lib.hid (Me_x7v1.out.step hb)
  clear B_x7v1 Mt_x7v1 Mc_x7v1 Md_x7v1 Me_x7v1
  clear hHeld hb
  go_wp2_with fail
  refine hK.out _ _ ⟨Mt_x7v2.out, Mc_x7v2.out, Md_x7v2.out, Me_x7v2.out⟩ (fun hHeld => ?_)
  clear hK K
  try simp only [Act.put, List.setIfInBounds_toArray, List.set_cons_zero, List.set_cons_succ]
  refine wpAnyH_take (i := 1) (v := .bool true) (get_ops _ _ _ rfl) (by kernel_rfl) (by kernel_rfl) (by kernel_rfl) (fun _ _ _ h => h) (Or.inl ⟨by rfl, fun wS hSw => by (try dsimp only at hSw); go_simp⟩) hHeld ?_
  try simp only [Act.put, List.setIfInBounds_toArray, List.set_cons_zero, List.set_cons_succ]
  refine wpAnyH_take (i := 2) (v := .bool ok) (get_ops _ _ _ rfl) (by kernel_rfl) (by kernel_rfl) (by kernel_rfl) (fun _ _ _ h => h) (Or.inl ⟨by rfl, fun wS hSw => by (try dsimp only at hSw); go_simp⟩) hHeld ?_
  try simp only [Act.put, List.setIfInBounds_toArray, List.set_cons_zero, List.set_cons_succ]
  refine wpAnyH_take (i := 3) (v := .bool ok) (get_ops _ _ _ rfl) (by kernel_rfl) (by kernel_rfl) (by kernel_rfl) (fun _ _ _ h => h) (Or.inl ⟨by rfl, fun wS hSw => by (try dsimp only at hSw); go_simp⟩) hHeld ?_
  try simp only [Act.put, List.setIfInBounds_toArray, List.set_cons_zero, List.set_cons_succ]
  refine wpAnyH_take (i := 4) (v := .bool true) (get_ops _ _ _ rfl) (by kernel_rfl) (by kernel_rfl) (by kernel_rfl) (fun _ _ _ h => h) (Or.inl ⟨by rfl, fun wS hSw => by (try dsimp only at hSw); go_simp⟩) hHeld ?_
  try simp only [Act.put, List.setIfInBounds_toArray, List.set_cons_zero, List.set_cons_succ]
  refine wpAnyH_take (i := 5) (v := .bool true) (get_ops _ _ _ rfl) (by kernel_rfl) (by kernel_rfl) (by kernel_rfl) (fun _ _ _ h => h) (Or.inl ⟨by rfl, fun wS hSw => by (try dsimp only at hSw); go_simp⟩) hHeld ?_
  try simp only [Act.put, List.setIfInBounds_toArray, List.set_cons_zero, List.set_cons_succ]
  refine wpAnyH_take (i := 6) (v := .bool true) (get_ops _ _ _ rfl) (by kernel_rfl) (by kernel_rfl) (by kernel_rfl) (fun _ _ _ h => h) (Or.inl ⟨by rfl, fun wS hSw => by (try dsimp only at hSw); go_simp⟩) hHeld ?_
  try simp only [Act.put, List.setIfInBounds_toArray, List.set_cons_zero, List.set_cons_succ]
  refine wpAnyH_take (i := 7) (v := .agg [.int .i64 r, .int .i64 b, .int .i64 x, .int .i64 l].toArray) (get_ops _ _ _ rfl) (by kernel_rfl) (by kernel_rfl) (by kernel_rfl) (fun _ _ _ h => h) (Or.inl ⟨by rfl, fun wS hSw => by (try dsimp only at hSw); exact exec_load 23 _ rfl ⟨(w2.heap.size), 0, none⟩ (by go_simp) _ (run_load_all hSw.2.1 Try.underlying23 rfl infoB4)⟩) hHeld ?_
  try simp only [Act.put, List.setIfInBounds_toArray, List.set_cons_zero, List.set_cons_succ]
  refine wpAnyH_take (i := 8) (v := .agg [.int .i64 r, .int .i64 b, .int .i64 x, .int .i64 l].toArray) (get_ops _ _ _ rfl) (by kernel_rfl) (by kernel_rfl) (by kernel_rfl) (fun _ _ _ h => h) (Or.inl ⟨by rfl, fun wS hSw => by (try dsimp only at hSw); exact exec_load 23 _ rfl ⟨(w4.heap.size), 0, none⟩ (by go_simp) _ (run_load_all hSw.2.2.1 Try.underlying23 rfl infoB4)⟩) hHeld ?_
  try simp only [Act.put, List.setIfInBounds_toArray, List.set_cons_zero, List.set_cons_succ]
  refine wpAnyH_ready (rs := [9]) (by kernel_rfl) (by simp) ?_
  refine (AllReadyH.cons (get_ops _ _ _ rfl) (fun K hK => ?_) AllReadyH.nil)
  go_simp
  go_at_call 16
  refine (sameL_self r b x l x7v2).mono ?_
  rintro e x7v3 ⟨rfl, hb⟩
  have B_x7v3 : Hid (Below w.heap.size w x7v3) := Lib.hid (stepB B_x7v2.out hb)
  have Mt_x7v3 : Hid (BK 23 x7v3 (w.heap.size) [.int .i64 r, .int .i64 b, .int .i64 v, .int .i64 t]) := Lib.hid (Mt_x7v2.out.step hb)
  have Mc_x7v3 : Hid (BK 23 x7v3 (w2.heap.size) [.int .i64 r, .int .i64 b, .int .i64 x, .int .i64 l]) := Lib.hid (Mc_x7v2.out.step hb)
  have Md_x7v3 : Hid (BK 23 x7v3 (w4.heap.size) [.int .i64 r, .int .i64 b, .int .i64 x, .int .i64 l]) := Lib.hid (Md_x7v2.out.step hb)
  have Me_x7v3 : Hid (BK 23 x7v3 (w6.heap.size) [.int .i64 r, .int .i64 b, .int .i64 k, .int .i64 l]) := Lib.hid (Me_x7v2.out.step hb)
  clear B_x7v2 Mt_x7v2 Mc_x7v2 Md_x7v2 Me_x7v2
  clear hHeld hb
  go_wp2_with fail
  refine hK.out _ _ ⟨Mt_x7v3.out, Mc_x7v3.out, Md_x7v3.out, Me_x7v3.out⟩ (fun hHeld => ?_)
  clear hK K
  try simp only [Act.put, List.setIfInBounds_toArray, List.set_cons_zero, List.set_cons_succ]
  refine wpAnyH_take (i := 10) (v := .bool true) (get_ops _ _ _ rfl) (by kernel_rfl) (by kernel_rfl) (by kernel_rfl) (fun _ _ _ h => h) (Or.inl ⟨by rfl, fun wS hSw => by (try dsimp only at hSw); go_simp⟩) hHeld ?_
  try simp only [Act.put, List.setIfInBounds_toArray, List.set_cons_zero, List.set_cons_succ]
  refine wpAnyH_take (i := 11) (v := .bool true) (get_ops _ _ _ rfl) (by kernel_rfl) (by kernel_rfl) (by kernel_rfl) (fun _ _ _ h => h) (Or.inl ⟨by rfl, fun wS hSw => by (try dsimp only at hSw); go_simp⟩) hHeld ?_
  try simp only [Act.put, List.setIfInBounds_toArray, List.set_cons_zero, List.set_cons_succ]
  refine wpAnyH_take (i := 12) (v := .agg [.int .i64 r, .int .i64 b, .int .i64 k, .int .i64 l].toArray) (get_ops _ _ _ rfl) (by kernel_rfl) (by kernel_rfl) (by kernel_rfl) (fun _ _ _ h => h) (Or.inl ⟨by rfl, fun wS hSw => by (try dsimp only at hSw); exact exec_load 23 _ rfl ⟨(w6.heap.size), 0, none⟩ (by go_simp) _ (run_load_all hSw.2.2.2 Try.underlying23 rfl infoB4)⟩) hHeld ?_
  try simp only [Act.put, List.setIfInBounds_toArray, List.set_cons_zero, List.set_cons_succ]
  refine wpAnyH_take (i := 13) (v := .agg [.int .i64 r, .int .i64 b, .int .i64 v, .int .i64 t].toArray) (get_ops _ _ _ rfl) (by kernel_rfl) (by kernel_rfl) (by kernel_rfl) (fun _ _ _ h => h) (Or.inl ⟨by rfl, fun wS hSw => by (try dsimp only at hSw); exact exec_load 23 _ rfl ⟨(w.heap.size), 0, none⟩ (by go_simp) _ (run_load_all hSw.1 Try.underlying23 rfl infoB4)⟩) hHeld ?_
  try simp only [Act.put, List.setIfInBounds_toArray, List.set_cons_zero, List.set_cons_succ]
  refine wpAnyH_take (i := 14) (v := .int .i64 now) (get_ops _ _ _ rfl) (by kernel_rfl) (by kernel_rfl) (by kernel_rfl) (fun _ _ _ h => h) (Or.inl ⟨by rfl, fun wS hSw => by (try dsimp only at hSw); go_simp⟩) hHeld ?_
  try simp only [Act.put, List.setIfInBounds_toArray, List.set_cons_zero, List.set_cons_succ]
  refine wpAnyH_ready (rs := [15]) (by kernel_rfl) (by simp) ?_
  refine (AllReadyH.cons (get_ops _ _ _ rfl) (fun K hK => ?_) AllReadyH.nil)
  go_simp
  go_at_call 17
  refine (C6.out x7v3).mono ?_
  rintro e x7v4 ⟨rfl, hb⟩
  have B_x7v4 : Hid (Below w.heap.size w x7v4) := Lib.hid (stepB B_x7v3.out hb)
  have Mt_x7v4 : Hid (BK 23 x7v4 (w.heap.size) [.int .i64 r, .int .i64 b, .int .i64 v, .int .i64 t]) := Lib.hid (Mt_x7v3.out.step hb)
  have Mc_x7v4 : Hid (BK 23 x7v4 (w2.heap.size) [.int .i64 r, .int .i64 b, .int .i64 x, .int .i64 l]) := Lib.hid (Mc_x7v3.out.step hb)
  have Md_x7v4 : Hid (BK 23 x7v4 (w4.heap.size) [.int .i64 r, .int .i64 b, .int .i64 x, .int .i64 l]) := Lib.hid (Md_x7v3.out.step hb)
  have Me_x7v4 : Hid (BK 23 x7v4 (w6.heap.size) [.int .i64 r, .int .i64 b, .int .i64 k, .int .i64 l]) := Lib.hid (Me_x7v3.out.step hb)
  clear B_x7v3 Mt_x7v3 Mc_x7v3 Md_x7v3 Me_x7v3
  clear hHeld hb
  go_wp2_with fail
  refine hK.out _ _ ⟨Mt_x7v4.out, Mc_x7v4.out, Md_x7v4.out, Me_x7v4.out⟩ (fun hHeld => ?_)
  clear hK K
  try simp only [Act.put, List.setIfInBounds_toArray, List.set_cons_zero, List.set_cons_succ]
  refine wpAnyH_ready (rs := [16]) (by kernel_rfl) (by simp) ?_
  refine (AllReadyH.cons (get_ops _ _ _ rfl) (fun K hK => ?_) AllReadyH.nil)
  go_simp
  go_at_call 16
  refine (sameL_self r b k l x7v4).mono ?_
  rintro e x7v5 ⟨rfl, hb⟩
  have B_x7v5 : Hid (Below w.heap.size w x7v5) := Lib.hid (stepB B_x7v4.out hb)
  have Mt_x7v5 : Hid (BK 23 x7v5 (w.heap.size) [.int .i64 r, .int .i64 b, .int .i64 v, .int .i64 t]) := Lib.hid (Mt_x7v4.out.step hb)
  have Mc_x7v5 : Hid (BK 23 x7v5 (w2.heap.size) [.int .i64 r, .int .i64 b, .int .i64 x, .int .i64 l]) := Lib.hid (Mc_x7v4.out.step hb)
  have Md_x7v5 : Hid (BK 23 x7v5 (w4.heap.size) [.int .i64 r, .int .i64 b, .int .i64 x, .int .i64 l]) := Lib.hid (Md_x7v4.out.step hb)
  have Me_x7v5 : Hid (BK 23 x7v5 (w6.heap.size) [.int .i64 r, .int .i64 b, .int .i64 k, .int .i64 l]) := Lib.hid (Me_x7v4.out.step hb)
  clear B_x7v4 Mt_x7v4 Mc_x7v4 Md_x7v4 Me_x7v4
  clear hHeld hb
  go_wp2_with fail
  refine hK.out _ _ ⟨Mt_x7v5.out, Mc_x7v5.out, Md_x7v5.out, Me_x7v5.out⟩ (fun hHeld => ?_)
  clear hK K
  try simp only [Act.put, List.setIfInBounds_toArray, List.set_cons_zero, List.set_cons_succ]
  refine wpAnyH_take (i := 17) (v := .bool true) (get_ops _ _ _ rfl) (by kernel_rfl) (by kernel_rfl) (by kernel_rfl) (fun _ _ _ h => h) (Or.inl ⟨by rfl, fun wS hSw => by (try dsimp only at hSw); go_simp⟩) hHeld ?_
  try simp only [Act.put, List.setIfInBounds_toArray, List.set_cons_zero, List.set_cons_succ]
  refine wpAnyH_take (i := 18) (v := .bool true) (get_ops _ _ _ rfl) (by kernel_rfl) (by kernel_rfl) (by kernel_rfl) (fun _ _ _ h => h) (Or.inl ⟨by rfl, fun wS hSw => by (try dsimp only at hSw); go_simp⟩) hHeld ?_
  try simp only [Act.put, List.setIfInBounds_toArray, List.set_cons_zero, List.set_cons_succ]
  refine wpAnyH_take (i := 19) (v := .agg [.int .i64 r, .int .i64 b, .int .i64 x, .int .i64 l].toArray) (get_ops _ _ _ rfl) (by kernel_rfl) (by kernel_rfl) (by kernel_rfl) (fun _ _ _ h => h) (Or.inl ⟨by rfl, fun wS hSw => by (try dsimp only at hSw); exact exec_load 23 _ rfl ⟨(w2.heap.size), 0, none⟩ (by go_simp) _ (run_load_all hSw.2.1 Try.underlying23 rfl infoB4)⟩) hHeld ?_
  try simp only [Act.put, List.setIfInBounds_toArray, List.set_cons_zero, List.set_cons_succ]
  refine wpAnyH_ready (rs := [20]) (by kernel_rfl) (by simp) ?_
  refine (AllReadyH.cons (get_ops _ _ _ rfl) (fun K hK => ?_) AllReadyH.nil)
  go_simp
  go_at_call 10
  refine (C7.out x7v5).mono ?_
  rintro e x7v6 ⟨rfl, hb⟩
  have B_x7v6 : Hid (Below w.heap.size w x7v6) := Lib.hid (stepB B_x7v5.out hb)
  have Mt_x7v6 : Hid (BK 23 x7v6 (w.heap.size) [.int .i64 r, .int .i64 b, .int .i64 v, .int .i64 t]) := Lib.hid (Mt_x7v5.out.step hb)
  have Mc_x7v6 : Hid (BK 23 x7v6 (w2.heap.size) [.int .i64 r, .int .i64 b, .int .i64 x, .int .i64 l]) := Lib.hid (Mc_x7v5.out.step hb)
  have Md_x7v6 : Hid (BK 23 x7v6 (w4.heap.size) [.int .i64 r, .int .i64 b, .int .i64 x, .int .i64 l]) := Lib.hid (Md_x7v5.out.step hb)
  have Me_x7v6 : Hid (BK 23 x7v6 (w6.heap.size) [.int .i64 r, .int .i64 b, .int .i64 k, .int .i64 l]) := Lib.hid (Me_x7v5.out.step hb)
  clear B_x7v5 Mt_x7v5 Mc_x7v5 Md_x7v5 Me_x7v5
  clear hHeld hb
  go_wp2_with fail
  refine hK.out _ _ ⟨Mt_x7v6.out, Mc_x7v6.out, Md_x7v6.out, Me_x7v6.out⟩ (fun hHeld => ?_)
  clear hK K
  try simp only [Act.put, List.setIfInBounds_toArray, List.set_cons_zero, List.set_cons_succ]
  refine wpAnyH_take (i := 21) (v := .bool true) (get_ops _ _ _ rfl) (by kernel_rfl) (by kernel_rfl) (by kernel_rfl) (fun _ _ _ h => h) (Or.inl ⟨by rfl, fun wS hSw => by (try dsimp only at hSw); go_simp⟩) hHeld ?_
  try simp only [Act.put, List.setIfInBounds_toArray, List.set_cons_zero, List.set_cons_succ]
  refine wpAnyH_take (i := 22) (v := .bool true) (get_ops _ _ _ rfl) (by kernel_rfl) (by kernel_rfl) (by kernel_rfl) (fun _ _ _ h => h) (Or.inl ⟨by rfl, fun wS hSw => by (try dsimp only at hSw); go_simp⟩) hHeld ?_
  try simp only [Act.put, List.setIfInBounds_toArray, List.set_cons_zero, List.set_cons_succ]
  refine wpAnyH_take (i := 23) (v := .bool true) (get_ops _ _ _ rfl) (by kernel_rfl) (by kernel_rfl) (by kernel_rfl) (fun _ _ _ h => h) (Or.inl ⟨by rfl, fun wS hSw => by (try dsimp only at hSw); go_simp⟩) hHeld ?_
  try simp only [Act.put, List.setIfInBounds_toArray, List.set_cons_zero, List.set_cons_succ]
  refine wpAnyH_take (i := 24) (v := .agg [.int .i64 r, .int .i64 b, .int .i64 k, .int .i64 l].toArray) (get_ops _ _ _ rfl) (by kernel_rfl) (by kernel_rfl) (by kernel_rfl) (fun _ _ _ h => h) (Or.inl ⟨by rfl, fun wS hSw => by (try dsimp only at hSw); exact exec_load 23 _ rfl ⟨(w6.heap.size), 0, none⟩ (by go_simp) _ (run_load_all hSw.2.2.2 Try.underlying23 rfl infoB4)⟩) hHeld ?_
  try simp only [Act.put, List.setIfInBounds_toArray, List.set_cons_zero, List.set_cons_succ]
  refine wpAnyH_ready (rs := [25]) (by kernel_rfl) (by simp) ?_
  refine (AllReadyH.cons (get_ops _ _ _ rfl) (fun K hK => ?_) AllReadyH.nil)
  go_simp
  go_at_call 10
  refine (C8.out x7v6).mono ?_
  rintro e x7v7 ⟨rfl, hb⟩
  have B_x7v7 : Hid (Below w.heap.size w x7v7) := Lib.hid (stepB B_x7v6.out hb)
  have Mt_x7v7 : Hid (BK 23 x7v7 (w.heap.size) [.int .i64 r, .int .i64 b, .int .i64 v, .int .i64 t]) := Lib.hid (Mt_x7v6.out.step hb)
  have Mc_x7v7 : Hid (BK 23 x7v7 (w2.heap.size) [.int .i64 r, .int .i64 b, .int .i64 x, .int .i64 l]) := Lib.hid (Mc_x7v6.out.step hb)
  have Md_x7v7 : Hid (BK 23 x7v7 (w4.heap.size) [.int .i64 r, .int .i64 b, .int .i64 x, .int .i64 l]) := Lib.hid (Md_x7v6.out.step hb)
  have Me_x7v7 : Hid (BK 23 x7v7 (w6.heap.size) [.int .i64 r, .int .i64 b, .int .i64 k, .int .i64 l]) := Lib.hid (Me_x7v6.out.step hb)
  clear B_x7v6 Mt_x7v6 Mc_x7v6 Md_x7v6 Me_x7v6
  clear hHeld hb
  go_wp2_with fail
  refine hK.out _ _ ⟨Mt_x7v7.out, Mc_x7v7.out, Md_x7v7.out, Me_x7v7.out⟩ (fun hHeld => ?_)
  clear hK K
  try simp only [Act.put, List.setIfInBounds_toArray, List.set_cons_zero, List.set_cons_succ]
  refine wpAnyH_take (i := 26) (v := .bool true) (get_ops _ _ _ rfl) (by kernel_rfl) (by kernel_rfl) (by kernel_rfl) (fun _ _ _ h => h) (Or.inl ⟨by rfl, fun wS hSw => by (try dsimp only at hSw); go_simp⟩) hHeld ?_
  try simp only [Act.put, List.setIfInBounds_toArray, List.set_cons_zero, List.set_cons_succ]
  refine wpAnyH_take (i := 27) (v := .bool true) (get_ops _ _ _ rfl) (by kernel_rfl) (by kernel_rfl) (by kernel_rfl) (fun _ _ _ h => h) (Or.inl ⟨by rfl, fun wS hSw => by (try dsimp only at hSw); go_simp⟩) hHeld ?_
  try simp only [Act.put, List.setIfInBounds_toArray, List.set_cons_zero, List.set_cons_succ]
  refine wpAnyH_take (i := 28) (v := .bool true) (get_ops _ _ _ rfl) (by kernel_rfl) (by kernel_rfl) (by kernel_rfl) (fun _ _ _ h => h) (Or.inl ⟨by rfl, fun wS hSw => by (try dsimp only at hSw); go_simp⟩) hHeld ?_
  try simp only [Act.put, List.setIfInBounds_toArray, List.set_cons_zero, List.set_cons_succ]
  refine wpAnyH_done (by kernel_rfl) ?_ _
  go_wp2_with fail
  go_ret
  exact ⟨rfl, B_x7v7.out⟩
theorem limitsTakes_walk (r b v t : Int) (now n : Int) (w : World) :
    Calls Try.prog 4 #[bk r b v t, .int .i64 now, .int .i64 n] w fun e w' => e = .returned (.bool true) ∧ Below w.heap.size w w' := by
  cases hv : vbL r b v t now with
  | true => exact limitsTakes_good r b v t now n w hv
  | false => exact limitsTakes_bad r b v t now n w hv
set_option maxRecDepth 20000 in
set_option maxHeartbeats 4000000 in
theorem limitsWaits_bad (r b v t : Int) (now n : Int) (w : World) (hv : vbL r b v t now = false) :
    Calls Try.prog 5 #[bk r b v t, .int .i64 now, .int .i64 n] w fun e w' => e = .returned (.bool true) ∧ Below w.heap.size w w' := by
  have HA := Lib.hid (fun w => awake21_any w)
  obtain ⟨w0, hw0⟩ : ∃ w0, w0 = w.alloc (.cells #[.int .i64 r, .int .i64 b, .int .i64 v, .int .i64 t] 23) := ⟨_, rfl⟩
  have M0 : BK 23 w0 w.heap.size [.int .i64 r, .int .i64 b, .int .i64 v, .int .i64 t] := by rw [hw0]; exact BK.new w _ _
  have hb0 : Below w.heap.size w w0 := by rw [hw0]; exact below_new w _
  have B_w0 := Lib.hid hb0
  have Mt_w0 := Lib.hid M0
  have HW0 := Lib.hid hw0
  have CV := Lib.hid (fun w => valid21_any r b v t now w)
  rw [hv] at CV
  clear hv
  clear hw0 M0 hb0
  go_enter Try.func5, Try.ntmps5
  go_upto_region 1 with fail
  rw [← HW0.out]
  clear HW0
  have dt0 := Mt_w0.out.cell 0 rfl
  have dt1 := Mt_w0.out.cell 1 rfl
  have dt2 := Mt_w0.out.cell 2 rfl
  have dt3 := Mt_w0.out.cell 3 rfl
  go_wp2_with fail
  refine (CV.out w0).mono ?_
  rintro e w1 ⟨rfl, hb⟩
  have B_w1 : Hid (Below w.heap.size w w1) := Lib.hid (stepB B_w0.out hb)
  have Mt_w1 : Hid (BK 23 w1 (w.heap.size) [.int .i64 r, .int .i64 b, .int .i64 v, .int .i64 t]) := Lib.hid (Mt_w0.out.step hb)
  clear dt0 dt1 dt2 dt3
  clear B_w0 Mt_w0
  clear hb
  go_wp2_with fail
  refine (HA.out w1).mono ?_
  rintro e w2 ⟨rfl, hb⟩
  have B_w2 : Hid (Below w.heap.size w w2) := Lib.hid (stepB B_w1.out hb)
  have Mt_w2 : Hid (BK 23 w2 (w.heap.size) [.int .i64 r, .int .i64 b, .int .i64 v, .int .i64 t]) := Lib.hid (Mt_w1.out.step hb)
  clear B_w1 Mt_w1
  clear hb
  go_wp2_with fail
  go_ret
  exact ⟨rfl, B_w2.out⟩
set_option maxRecDepth 20000 in
set_option maxHeartbeats 4000000 in
theorem limitsWaits_good (r b v t : Int) (now n : Int) (w : World) (hv : vbL r b v t now = true) :
    Calls Try.prog 5 #[bk r b v t, .int .i64 now, .int .i64 n] w fun e w' => e = .returned (.bool true) ∧ Below w.heap.size w w' := by
  have HA := Lib.hid (fun w => awake21_any w)
  obtain ⟨w0, hw0⟩ : ∃ w0, w0 = w.alloc (.cells #[.int .i64 r, .int .i64 b, .int .i64 v, .int .i64 t] 23) := ⟨_, rfl⟩
  have M0 : BK 23 w0 w.heap.size [.int .i64 r, .int .i64 b, .int .i64 v, .int .i64 t] := by rw [hw0]; exact BK.new w _ _
  have hb0 : Below w.heap.size w w0 := by rw [hw0]; exact below_new w _
  have B_w0 := Lib.hid hb0
  have Mt_w0 := Lib.hid M0
  have HW0 := Lib.hid hw0
  have CV := Lib.hid (fun w => valid21_any r b v t now w)
  rw [hv] at CV
  obtain ⟨hok, h0, h1⟩ := vbL_iff.1 hv
  have C3 := Lib.hid (fun w => lWait_any r b v t now n hok h0 h1 w)
  have C4 := Lib.hid (fun w => rWait_any r b v t now n hok h0 h1 w)
  generalize (waitL r b v t now n).1 = x at C3 C4
  generalize (waitL r b v t now n).2 = ok at C3 C4
  clear hv hok h0 h1
  clear hw0 M0 hb0
  go_enter Try.func5, Try.ntmps5
  go_upto_region 1 with fail
  rw [← HW0.out]
  clear HW0
  have dt0 := Mt_w0.out.cell 0 rfl
  have dt1 := Mt_w0.out.cell 1 rfl
  have dt2 := Mt_w0.out.cell 2 rfl
  have dt3 := Mt_w0.out.cell 3 rfl
  go_wp2_with fail
  refine (CV.out w0).mono ?_
  rintro e w1 ⟨rfl, hb⟩
  have B_w1 : Hid (Below w.heap.size w w1) := Lib.hid (stepB B_w0.out hb)
  have Mt_w1 : Hid (BK 23 w1 (w.heap.size) [.int .i64 r, .int .i64 b, .int .i64 v, .int .i64 t]) := Lib.hid (Mt_w0.out.step hb)
  clear dt0 dt1 dt2 dt3
  clear B_w0 Mt_w0
  clear hb
  have dt0 := Mt_w1.out.cell 0 rfl
  have dt1 := Mt_w1.out.cell 1 rfl
  have dt2 := Mt_w1.out.cell 2 rfl
  have dt3 := Mt_w1.out.cell 3 rfl
  go_wp2_with fail
  refine (C3.out w1).mono ?_
  rintro e w2 ⟨rfl, hb⟩
  have B_w2 : Hid (Below w.heap.size w w2) := Lib.hid (stepB B_w1.out hb)
  have Mt_w2 : Hid (BK 23 w2 (w.heap.size) [.int .i64 r, .int .i64 b, .int .i64 v, .int .i64 t]) := Lib.hid (Mt_w1.out.step hb)
  clear dt0 dt1 dt2 dt3
  clear B_w1 Mt_w1
  clear hb
  have dt0 := Mt_w2.out.cell 0 rfl
  have dt1 := Mt_w2.out.cell 1 rfl
  have dt2 := Mt_w2.out.cell 2 rfl
  have dt3 := Mt_w2.out.cell 3 rfl
  go_wp2_with fail
  refine (C4.out w2).mono ?_
  rintro e w3 ⟨rfl, hb⟩
  have B_w3 : Hid (Below w.heap.size w w3) := Lib.hid (stepB B_w2.out hb)
  have Mt_w3 : Hid (BK 23 w3 (w.heap.size) [.int .i64 r, .int .i64 b, .int .i64 v, .int .i64 t]) := Lib.hid (Mt_w2.out.step hb)
  clear dt0 dt1 dt2 dt3
  clear B_w2 Mt_w2
  clear hb
  go_wp2_with fail
  refine (HA.out w3).mono ?_
  rintro e w4 ⟨rfl, hb⟩
  have B_w4 : Hid (Below w.heap.size w w4) := Lib.hid (stepB B_w3.out hb)
  have Mt_w4 : Hid (BK 23 w4 (w.heap.size) [.int .i64 r, .int .i64 b, .int .i64 v, .int .i64 t]) := Lib.hid (Mt_w3.out.step hb)
  clear B_w3 Mt_w3
  clear hb
  go_wp2_with fail
  go_ret
  exact ⟨rfl, B_w4.out⟩
theorem limitsWaits_walk (r b v t : Int) (now n : Int) (w : World) :
    Calls Try.prog 5 #[bk r b v t, .int .i64 now, .int .i64 n] w fun e w' => e = .returned (.bool true) ∧ Below w.heap.size w w' := by
  cases hv : vbL r b v t now with
  | true => exact limitsWaits_good r b v t now n w hv
  | false => exact limitsWaits_bad r b v t now n w hv
set_option maxRecDepth 20000 in
set_option maxHeartbeats 4000000 in
theorem limitsSplits_bad0 (r b v t : Int) (now th : Int) (w : World) (hv : vbL r b v t now = false) :
    Calls Try.prog 7 #[bk r b v t, .int .i64 now, .int .i64 th] w fun e w' => e = .returned (.bool true) ∧ Below w.heap.size w w' := by
  have HA := Lib.hid (fun w => awake21_any w)
  obtain ⟨w0, hw0⟩ : ∃ w0, w0 = w.alloc (.cells #[.int .i64 r, .int .i64 b, .int .i64 v, .int .i64 t] 23) := ⟨_, rfl⟩
  have M0 : BK 23 w0 w.heap.size [.int .i64 r, .int .i64 b, .int .i64 v, .int .i64 t] := by rw [hw0]; exact BK.new w _ _
  have hb0 : Below w.heap.size w w0 := by rw [hw0]; exact below_new w _
  have B_w0 := Lib.hid hb0
  have Mt_w0 := Lib.hid M0
  have HW0 := Lib.hid hw0
  have CV := Lib.hid (fun w => valid21_any r b v t now w)
  rw [hv] at CV
  clear hv
  clear hw0 M0 hb0
  go_enter Try.func7, Try.ntmps7
  go_upto_region 1 with fail
  rw [← HW0.out]
  clear HW0
  have dt0 := Mt_w0.out.cell 0 rfl
  have dt1 := Mt_w0.out.cell 1 rfl
  have dt2 := Mt_w0.out.cell 2 rfl
  have dt3 := Mt_w0.out.cell 3 rfl
  go_wp2_with fail
  refine (CV.out w0).mono ?_
  rintro e w1 ⟨rfl, hb⟩
  have B_w1 : Hid (Below w.heap.size w w1) := Lib.hid (stepB B_w0.out hb)
  have Mt_w1 : Hid (BK 23 w1 (w.heap.size) [.int .i64 r, .int .i64 b, .int .i64 v, .int .i64 t]) := Lib.hid (Mt_w0.out.step hb)
  clear dt0 dt1 dt2 dt3
  clear B_w0 Mt_w0
  clear hb
  go_wp2_with fail
  refine (HA.out w1).mono ?_
  rintro e w2 ⟨rfl, hb⟩
  have B_w2 : Hid (Below w.heap.size w w2) := Lib.hid (stepB B_w1.out hb)
  have Mt_w2 : Hid (BK 23 w2 (w.heap.size) [.int .i64 r, .int .i64 b, .int .i64 v, .int .i64 t]) := Lib.hid (Mt_w1.out.step hb)
  clear B_w1 Mt_w1
  clear hb
  go_wp2_with fail
  go_ret
  exact ⟨rfl, B_w2.out⟩
set_option maxRecDepth 20000 in
set_option maxHeartbeats 4000000 in
theorem limitsSplits_bad1 (r b v t : Int) (now th : Int) (w : World) (hv : vbL r b v t now = true) (hi : isL th 1099511627776 = false) :
    Calls Try.prog 7 #[bk r b v t, .int .i64 now, .int .i64 th] w fun e w' => e = .returned (.bool true) ∧ Below w.heap.size w w' := by
  have HA := Lib.hid (fun w => awake21_any w)
  obtain ⟨w0, hw0⟩ : ∃ w0, w0 = w.alloc (.cells #[.int .i64 r, .int .i64 b, .int .i64 v, .int .i64 t] 23) := ⟨_, rfl⟩
  have M0 : BK 23 w0 w.heap.size [.int .i64 r, .int .i64 b, .int .i64 v, .int .i64 t] := by rw [hw0]; exact BK.new w _ _
  have hb0 : Below w.heap.size w w0 := by rw [hw0]; exact below_new w _
  have B_w0 := Lib.hid hb0
  have Mt_w0 := Lib.hid M0
  have HW0 := Lib.hid hw0
  have CV := Lib.hid (fun w => valid21_any r b v t now w)
  rw [hv] at CV
  have CI := Lib.hid (fun w => instant_any th w)
  rw [hi] at CI
  clear hv hi
  clear hw0 M0 hb0
  go_enter Try.func7, Try.ntmps7
  go_upto_region 1 with fail
  rw [← HW0.out]
  clear HW0
  have dt0 := Mt_w0.out.cell 0 rfl
  have dt1 := Mt_w0.out.cell 1 rfl
  have dt2 := Mt_w0.out.cell 2 rfl
  have dt3 := Mt_w0.out.cell 3 rfl
  go_wp2_with fail
  refine (CV.out w0).mono ?_
  rintro e w1 ⟨rfl, hb⟩
  have B_w1 : Hid (Below w.heap.size w w1) := Lib.hid (stepB B_w0.out hb)
  have Mt_w1 : Hid (BK 23 w1 (w.heap.size) [.int .i64 r, .int .i64 b, .int .i64 v, .int .i64 t]) := Lib.hid (Mt_w0.out.step hb)
  clear dt0 dt1 dt2 dt3
  clear B_w0 Mt_w0
  clear hb
  go_wp2_with fail
  refine (CI.out w1).mono ?_
  rintro e w' ⟨rfl, rfl⟩
  go_wp2_with fail
  refine (HA.out w1).mono ?_
  rintro e w2 ⟨rfl, hb⟩
  have B_w2 : Hid (Below w.heap.size w w2) := Lib.hid (stepB B_w1.out hb)
  have Mt_w2 : Hid (BK 23 w2 (w.heap.size) [.int .i64 r, .int .i64 b, .int .i64 v, .int .i64 t]) := Lib.hid (Mt_w1.out.step hb)
  clear B_w1 Mt_w1
  clear hb
  go_wp2_with fail
  go_ret
  exact ⟨rfl, B_w2.out⟩
set_option maxRecDepth 20000 in
set_option maxHeartbeats 4000000 in
theorem limitsSplits_bad2 (r b v t : Int) (now th : Int) (w : World) (hv : vbL r b v t now = true) (hi : isL th 1099511627776 = true) (hl : th < now) :
    Calls Try.prog 7 #[bk r b v t, .int .i64 now, .int .i64 th] w fun e w' => e = .returned (.bool true) ∧ Below w.heap.size w w' := by
  have HA := Lib.hid (fun w => awake21_any w)
  obtain ⟨w0, hw0⟩ : ∃ w0, w0 = w.alloc (.cells #[.int .i64 r, .int .i64 b, .int .i64 v, .int .i64 t] 23) := ⟨_, rfl⟩
  have M0 : BK 23 w0 w.heap.size [.int .i64 r, .int .i64 b, .int .i64 v, .int .i64 t] := by rw [hw0]; exact BK.new w _ _
  have hb0 : Below w.heap.size w w0 := by rw [hw0]; exact below_new w _
  have B_w0 := Lib.hid hb0
  have Mt_w0 := Lib.hid M0
  have HW0 := Lib.hid hw0
  have CV := Lib.hid (fun w => valid21_any r b v t now w)
  rw [hv] at CV
  have CI := Lib.hid (fun w => instant_any th w)
  rw [hi] at CI
  have q1 : decide (th < now) = true := decide_eq_true hl
  clear hv hi hl
  clear hw0 M0 hb0
  go_enter Try.func7, Try.ntmps7
  go_upto_region 1 with fail
  rw [← HW0.out]
  clear HW0
  have dt0 := Mt_w0.out.cell 0 rfl
  have dt1 := Mt_w0.out.cell 1 rfl
  have dt2 := Mt_w0.out.cell 2 rfl
  have dt3 := Mt_w0.out.cell 3 rfl
  go_wp2_with fail
  refine (CV.out w0).mono ?_
  rintro e w1 ⟨rfl, hb⟩
  have B_w1 : Hid (Below w.heap.size w w1) := Lib.hid (stepB B_w0.out hb)
  have Mt_w1 : Hid (BK 23 w1 (w.heap.size) [.int .i64 r, .int .i64 b, .int .i64 v, .int .i64 t]) := Lib.hid (Mt_w0.out.step hb)
  clear dt0 dt1 dt2 dt3
  clear B_w0 Mt_w0
  clear hb
  go_wp2_with fail
  refine (CI.out w1).mono ?_
  rintro e w' ⟨rfl, rfl⟩
  go_wp2_with fail
  refine (HA.out w1).mono ?_
  rintro e w2 ⟨rfl, hb⟩
  have B_w2 : Hid (Below w.heap.size w w2) := Lib.hid (stepB B_w1.out hb)
  have Mt_w2 : Hid (BK 23 w2 (w.heap.size) [.int .i64 r, .int .i64 b, .int .i64 v, .int .i64 t]) := Lib.hid (Mt_w1.out.step hb)
  clear B_w1 Mt_w1
  clear hb
  go_wp2_with fail
  go_ret
  exact ⟨rfl, B_w2.out⟩
set_option maxRecDepth 20000 in
set_option maxHeartbeats 4000000 in
theorem limitsSplits_good (r b v t : Int) (now th : Int) (w : World) (hv : vbL r b v t now = true) (hi : isL th 1099511627776 = true) (hl : ¬ th < now) :
    Calls Try.prog 7 #[bk r b v t, .int .i64 now, .int .i64 th] w fun e w' => e = .returned (.bool true) ∧ Below w.heap.size w w' := by
  have HA := Lib.hid (fun w => awake21_any w)
  obtain ⟨w0, hw0⟩ : ∃ w0, w0 = w.alloc (.cells #[.int .i64 r, .int .i64 b, .int .i64 v, .int .i64 t] 23) := ⟨_, rfl⟩
  have M0 : BK 23 w0 w.heap.size [.int .i64 r, .int .i64 b, .int .i64 v, .int .i64 t] := by rw [hw0]; exact BK.new w _ _
  have hb0 : Below w.heap.size w w0 := by rw [hw0]; exact below_new w _
  have B_w0 := Lib.hid hb0
  have Mt_w0 := Lib.hid M0
  have HW0 := Lib.hid hw0
  have CV := Lib.hid (fun w => valid21_any r b v t now w)
  rw [hv] at CV
  have CI := Lib.hid (fun w => instant_any th w)
  rw [hi] at CI
  have q1 : decide (th < now) = false := decide_eq_false hl
  obtain ⟨hok, h0, h1⟩ := vbL_iff.1 hv
  have hth : 0 ≤ th ∧ th ≤ 1099511627776 := by unfold isL at hi; simp only [Bool.and_eq_true, decide_eq_true_eq] at hi; exact hi
  have C3 := Lib.hid (fun w => lRefill_any r b v t now hok h0 h1 w)
  have C4 := Lib.hid (fun w => lRefill_any r b (tokL r b v t now) (lastL t now) th (fill_ok hok h0 h1) hth.1 hth.2 w)
  rw [fill_fill hok h0 h1 (by omega), last_last t now th (by omega)] at C4
  have C5 := Lib.hid (fun w => lRefill_any r b v t th hok hth.1 hth.2 w)
  generalize tokL r b v t now = k at C3 C4
  generalize lastL t now = l at C3 C4
  generalize tokL r b v t th = k2 at C4 C5
  generalize lastL t th = l2 at C4 C5
  clear hv hi hl hok h0 h1 hth
  clear hw0 M0 hb0
  go_enter Try.func7, Try.ntmps7
  go_upto_region 1 with fail
  rw [← HW0.out]
  clear HW0
  have dt0 := Mt_w0.out.cell 0 rfl
  have dt1 := Mt_w0.out.cell 1 rfl
  have dt2 := Mt_w0.out.cell 2 rfl
  have dt3 := Mt_w0.out.cell 3 rfl
  go_wp2_with fail
  refine (CV.out w0).mono ?_
  rintro e w1 ⟨rfl, hb⟩
  have B_w1 : Hid (Below w.heap.size w w1) := Lib.hid (stepB B_w0.out hb)
  have Mt_w1 : Hid (BK 23 w1 (w.heap.size) [.int .i64 r, .int .i64 b, .int .i64 v, .int .i64 t]) := Lib.hid (Mt_w0.out.step hb)
  clear dt0 dt1 dt2 dt3
  clear B_w0 Mt_w0
  clear hb
  go_wp2_with fail
  refine (CI.out w1).mono ?_
  rintro e w' ⟨rfl, rfl⟩
  go_upto_region 3 with fail
  obtain ⟨x1v1, hx1v1⟩ : ∃ x1v1, x1v1 = World.drew w1 := ⟨_, rfl⟩
  have hbD : Below w1.heap.size w1 x1v1 := by rw [hx1v1]; exact (Below.refl _ _).drew
  have B_x1v1 : Hid (Below w.heap.size w x1v1) := Lib.hid (stepB B_w1.out hbD)
  have Mt_x1v1 : Hid (BK 23 x1v1 (w.heap.size) [.int .i64 r, .int .i64 b, .int .i64 v, .int .i64 t]) := Lib.hid (Mt_w1.out.step hbD)
  clear B_w1 Mt_w1
  have hbd : (fun w' => BK 23 w' (w.heap.size) [.int .i64 r, .int .i64 b, .int .i64 v, .int .i64 t]) (World.drew w1) := by rw [← hx1v1]; exact Mt_x1v1.out
  have hSD : (fun w' => BK 23 w' (w.heap.size) [.int .i64 r, .int .i64 b, .int .i64 v, .int .i64 t]) x1v1 := Mt_x1v1.out
  have HWD := Lib.hid hx1v1
  clear hx1v1 hbD
  refine wp_region_held_drew (S := fun w' => BK 23 w' (w.heap.size) [.int .i64 r, .int .i64 b, .int .i64 v, .int .i64 t]) (by kernel_rfl) hbd (fun hHeld => ?_)
  rw [← HWD.out]
  clear hHeld
  have hHeld := hSD
  clear hSD hbd HWD
  refine wpAnyH_ready (rs := [0]) (by kernel_rfl) (by simp) ?_
  refine (AllReadyH.cons (get_ops _ _ _ rfl) (fun K hK => ?_) AllReadyH.nil)
  go_simp
  go_at_call 9
  refine (HA.out x1v1).mono ?_
  rintro e x1v2 ⟨rfl, hb⟩
  have B_x1v2 : Hid (Below w.heap.size w x1v2) := Lib.hid (stepB B_x1v1.out hb)
  have Mt_x1v2 : Hid (BK 23 x1v2 (w.heap.size) [.int .i64 r, .int .i64 b, .int .i64 v, .int .i64 t]) := Lib.hid (Mt_x1v1.out.step hb)
  clear B_x1v1 Mt_x1v1
  clear hHeld hb
  go_wp2_with fail
  refine hK.out _ _ Mt_x1v2.out (fun hHeld => ?_)
  clear hK K
  try simp only [Act.put, List.setIfInBounds_toArray, List.set_cons_zero, List.set_cons_succ]
  refine wpAnyH_take (i := 1) (v := .bool true) (get_ops _ _ _ rfl) (by kernel_rfl) (by kernel_rfl) (by kernel_rfl) (fun _ _ _ h => h) (Or.inl ⟨by rfl, fun wS hSw => by (try dsimp only at hSw); go_simp⟩) hHeld ?_
  try simp only [Act.put, List.setIfInBounds_toArray, List.set_cons_zero, List.set_cons_succ]
  refine wpAnyH_take (i := 2) (v := .agg [.int .i64 r, .int .i64 b, .int .i64 v, .int .i64 t].toArray) (get_ops _ _ _ rfl) (by kernel_rfl) (by kernel_rfl) (by kernel_rfl) (fun _ _ _ h => h) (Or.inl ⟨by rfl, fun wS hSw => by (try dsimp only at hSw); exact exec_load 23 _ rfl ⟨(w.heap.size), 0, none⟩ (by go_simp) _ (run_load_all hSw Try.underlying23 rfl infoB4)⟩) hHeld ?_
  try simp only [Act.put, List.setIfInBounds_toArray, List.set_cons_zero, List.set_cons_succ]
  refine wpAnyH_take (i := 3) (v := .int .i64 now) (get_ops _ _ _ rfl) (by kernel_rfl) (by kernel_rfl) (by kernel_rfl) (fun _ _ _ h => h) (Or.inl ⟨by rfl, fun wS hSw => by (try dsimp only at hSw); go_simp⟩) hHeld ?_
  try simp only [Act.put, List.setIfInBounds_toArray, List.set_cons_zero, List.set_cons_succ]
  refine wpAnyH_take (i := 5) (v := .int .i64 th) (get_ops _ _ _ rfl) (by kernel_rfl) (by kernel_rfl) (by kernel_rfl) (fun _ _ _ h => h) (Or.inl ⟨by rfl, fun wS hSw => by (try dsimp only at hSw); go_simp⟩) hHeld ?_
  try simp only [Act.put, List.setIfInBounds_toArray, List.set_cons_zero, List.set_cons_succ]
  refine wpAnyH_take (i := 7) (v := .agg [.int .i64 r, .int .i64 b, .int .i64 v, .int .i64 t].toArray) (get_ops _ _ _ rfl) (by kernel_rfl) (by kernel_rfl) (by kernel_rfl) (fun _ _ _ h => h) (Or.inl ⟨by rfl, fun wS hSw => by (try dsimp only at hSw); exact exec_load 23 _ rfl ⟨(w.heap.size), 0, none⟩ (by go_simp) _ (run_load_all hSw Try.underlying23 rfl infoB4)⟩) hHeld ?_
  try simp only [Act.put, List.setIfInBounds_toArray, List.set_cons_zero, List.set_cons_succ]
  refine wpAnyH_take (i := 8) (v := .int .i64 th) (get_ops _ _ _ rfl) (by kernel_rfl) (by kernel_rfl) (by kernel_rfl) (fun _ _ _ h => h) (Or.inl ⟨by rfl, fun wS hSw => by (try dsimp only at hSw); go_simp⟩) hHeld ?_
  try simp only [Act.put, List.setIfInBounds_toArray, List.set_cons_zero, List.set_cons_succ]
  refine wpAnyH_ready (rs := [4]) (by kernel_rfl) (by simp) ?_
  refine (AllReadyH.cons (get_ops _ _ _ rfl) (fun K hK => ?_) AllReadyH.nil)
  go_simp
  go_at_call 15
  refine (C3.out x1v2).mono ?_
  rintro e x1v3 ⟨rfl, hb⟩
  have B_x1v3 : Hid (Below w.heap.size w x1v3) := Lib.hid (stepB B_x1v2.out hb)
  have Mt_x1v3 : Hid (BK 23 x1v3 (w.heap.size) [.int .i64 r, .int .i64 b, .int .i64 v, .int .i64 t]) := Lib.hid (Mt_x1v2.out.step hb)
  clear B_x1v2 Mt_x1v2
  clear hHeld hb
  go_wp2_with fail
  refine hK.out _ _ Mt_x1v3.out (fun hHeld => ?_)
  clear hK K
  try simp only [Act.put, List.setIfInBounds_toArray, List.set_cons_zero, List.set_cons_succ]
  refine wpAnyH_ready (rs := [6]) (by kernel_rfl) (by simp) ?_
  refine (AllReadyH.cons (get_ops _ _ _ rfl) (fun K hK => ?_) AllReadyH.nil)
  go_simp
  go_at_call 15
  refine (C4.out x1v3).mono ?_
  rintro e x1v4 ⟨rfl, hb⟩
  have B_x1v4 : Hid (Below w.heap.size w x1v4) := Lib.hid (stepB B_x1v3.out hb)
  have Mt_x1v4 : Hid (BK 23 x1v4 (w.heap.size) [.int .i64 r, .int .i64 b, .int .i64 v, .int .i64 t]) := Lib.hid (Mt_x1v3.out.step hb)
  clear B_x1v3 Mt_x1v3
  clear hHeld hb
  go_wp2_with fail
  refine hK.out _ _ Mt_x1v4.out (fun hHeld => ?_)
  clear hK K
  try simp only [Act.put, List.setIfInBounds_toArray, List.set_cons_zero, List.set_cons_succ]
  refine wpAnyH_ready (rs := [9]) (by kernel_rfl) (by simp) ?_
  refine (AllReadyH.cons (get_ops _ _ _ rfl) (fun K hK => ?_) AllReadyH.nil)
  go_simp
  go_at_call 15
  refine (C5.out x1v4).mono ?_
  rintro e x1v5 ⟨rfl, hb⟩
  have B_x1v5 : Hid (Below w.heap.size w x1v5) := Lib.hid (stepB B_x1v4.out hb)
  have Mt_x1v5 : Hid (BK 23 x1v5 (w.heap.size) [.int .i64 r, .int .i64 b, .int .i64 v, .int .i64 t]) := Lib.hid (Mt_x1v4.out.step hb)
  clear B_x1v4 Mt_x1v4
  clear hHeld hb
  go_wp2_with fail
  refine hK.out _ _ Mt_x1v5.out (fun hHeld => ?_)
  clear hK K
  try simp only [Act.put, List.setIfInBounds_toArray, List.set_cons_zero, List.set_cons_succ]
  refine wpAnyH_ready (rs := [10]) (by kernel_rfl) (by simp) ?_
  refine (AllReadyH.cons (get_ops _ _ _ rfl) (fun K hK => ?_) AllReadyH.nil)
  go_simp
  go_at_call 16
  refine (sameL_self r b k2 l2 x1v5).mono ?_
  rintro e x1v6 ⟨rfl, hb⟩
  have B_x1v6 : Hid (Below w.heap.size w x1v6) := Lib.hid (stepB B_x1v5.out hb)
  have Mt_x1v6 : Hid (BK 23 x1v6 (w.heap.size) [.int .i64 r, .int .i64 b, .int .i64 v, .int .i64 t]) := Lib.hid (Mt_x1v5.out.step hb)
  clear B_x1v5 Mt_x1v5
  clear hHeld hb
  go_wp2_with fail
  refine hK.out _ _ Mt_x1v6.out (fun hHeld => ?_)
  clear hK K
  try simp only [Act.put, List.setIfInBounds_toArray, List.set_cons_zero, List.set_cons_succ]
  refine wpAnyH_take (i := 11) (v := .bool true) (get_ops _ _ _ rfl) (by kernel_rfl) (by kernel_rfl) (by kernel_rfl) (fun _ _ _ h => h) (Or.inl ⟨by rfl, fun wS hSw => by (try dsimp only at hSw); go_simp⟩) hHeld ?_
  try simp only [Act.put, List.setIfInBounds_toArray, List.set_cons_zero, List.set_cons_succ]
  refine wpAnyH_take (i := 12) (v := .bool true) (get_ops _ _ _ rfl) (by kernel_rfl) (by kernel_rfl) (by kernel_rfl) (fun _ _ _ h => h) (Or.inl ⟨by rfl, fun wS hSw => by (try dsimp only at hSw); go_simp⟩) hHeld ?_
  try simp only [Act.put, List.setIfInBounds_toArray, List.set_cons_zero, List.set_cons_succ]
  refine wpAnyH_done (by kernel_rfl) ?_ _
  go_wp2_with fail
  go_ret
  exact ⟨rfl, B_x1v6.out⟩
theorem limitsSplits_walk (r b v t now th : Int) (w : World) :
    Calls Try.prog 7 #[bk r b v t, .int .i64 now, .int .i64 th] w fun e w' => e = .returned (.bool true) ∧ Below w.heap.size w w' := by
  cases hv : vbL r b v t now with
  | false => exact limitsSplits_bad0 r b v t now th w hv
  | true =>
    cases hi : isL th 1099511627776 with
    | false => exact limitsSplits_bad1 r b v t now th w hv hi
    | true =>
      by_cases hl : th < now
      · exact limitsSplits_bad2 r b v t now th w hv hi hl
      · exact limitsSplits_good r b v t now th w hv hi hl
set_option maxRecDepth 20000 in
set_option maxHeartbeats 4000000 in
theorem limitsFirst_bad0 (r b v t : Int) (now n th : Int) (w : World) (hv : vbL r b v t now = false) :
    Calls Try.prog 6 #[bk r b v t, .int .i64 now, .int .i64 n, .int .i64 th] w fun e w' => e = .returned (.bool true) ∧ Below w.heap.size w w' := by
  have HA := Lib.hid (fun w => awake21_any w)
  obtain ⟨w0, hw0⟩ : ∃ w0, w0 = w.alloc (.cells #[.int .i64 r, .int .i64 b, .int .i64 v, .int .i64 t] 23) := ⟨_, rfl⟩
  have M0 : BK 23 w0 w.heap.size [.int .i64 r, .int .i64 b, .int .i64 v, .int .i64 t] := by rw [hw0]; exact BK.new w _ _
  have hb0 : Below w.heap.size w w0 := by rw [hw0]; exact below_new w _
  have B_w0 := Lib.hid hb0
  have Mt_w0 := Lib.hid M0
  have HW0 := Lib.hid hw0
  have CV := Lib.hid (fun w => valid21_any r b v t now w)
  rw [hv] at CV
  clear hv
  clear hw0 M0 hb0
  go_enter Try.func6, Try.ntmps6
  go_upto_region 1 with fail
  rw [← HW0.out]
  clear HW0
  have dt0 := Mt_w0.out.cell 0 rfl
  have dt1 := Mt_w0.out.cell 1 rfl
  have dt2 := Mt_w0.out.cell 2 rfl
  have dt3 := Mt_w0.out.cell 3 rfl
  go_wp2_with fail
  refine (CV.out w0).mono ?_
  rintro e w1 ⟨rfl, hb⟩
  have B_w1 : Hid (Below w.heap.size w w1) := Lib.hid (stepB B_w0.out hb)
  have Mt_w1 : Hid (BK 23 w1 (w.heap.size) [.int .i64 r, .int .i64 b, .int .i64 v, .int .i64 t]) := Lib.hid (Mt_w0.out.step hb)
  clear dt0 dt1 dt2 dt3
  clear B_w0 Mt_w0
  clear hb
  go_wp2_with fail
  refine (HA.out w1).mono ?_
  rintro e w2 ⟨rfl, hb⟩
  have B_w2 : Hid (Below w.heap.size w w2) := Lib.hid (stepB B_w1.out hb)
  have Mt_w2 : Hid (BK 23 w2 (w.heap.size) [.int .i64 r, .int .i64 b, .int .i64 v, .int .i64 t]) := Lib.hid (Mt_w1.out.step hb)
  clear B_w1 Mt_w1
  clear hb
  go_wp2_with fail
  go_ret
  exact ⟨rfl, B_w2.out⟩
set_option maxRecDepth 20000 in
set_option maxHeartbeats 4000000 in
theorem limitsFirst_bad1 (r b v t : Int) (now n th : Int) (w : World) (hv : vbL r b v t now = true) (hi : isL th 1099511627776 = false) :
    Calls Try.prog 6 #[bk r b v t, .int .i64 now, .int .i64 n, .int .i64 th] w fun e w' => e = .returned (.bool true) ∧ Below w.heap.size w w' := by
  have HA := Lib.hid (fun w => awake21_any w)
  obtain ⟨w0, hw0⟩ : ∃ w0, w0 = w.alloc (.cells #[.int .i64 r, .int .i64 b, .int .i64 v, .int .i64 t] 23) := ⟨_, rfl⟩
  have M0 : BK 23 w0 w.heap.size [.int .i64 r, .int .i64 b, .int .i64 v, .int .i64 t] := by rw [hw0]; exact BK.new w _ _
  have hb0 : Below w.heap.size w w0 := by rw [hw0]; exact below_new w _
  have B_w0 := Lib.hid hb0
  have Mt_w0 := Lib.hid M0
  have HW0 := Lib.hid hw0
  have CV := Lib.hid (fun w => valid21_any r b v t now w)
  rw [hv] at CV
  have CI := Lib.hid (fun w => instant_any th w)
  rw [hi] at CI
  clear hv hi
  clear hw0 M0 hb0
  go_enter Try.func6, Try.ntmps6
  go_upto_region 1 with fail
  rw [← HW0.out]
  clear HW0
  have dt0 := Mt_w0.out.cell 0 rfl
  have dt1 := Mt_w0.out.cell 1 rfl
  have dt2 := Mt_w0.out.cell 2 rfl
  have dt3 := Mt_w0.out.cell 3 rfl
  go_wp2_with fail
  refine (CV.out w0).mono ?_
  rintro e w1 ⟨rfl, hb⟩
  have B_w1 : Hid (Below w.heap.size w w1) := Lib.hid (stepB B_w0.out hb)
  have Mt_w1 : Hid (BK 23 w1 (w.heap.size) [.int .i64 r, .int .i64 b, .int .i64 v, .int .i64 t]) := Lib.hid (Mt_w0.out.step hb)
  clear dt0 dt1 dt2 dt3
  clear B_w0 Mt_w0
  clear hb
  go_wp2_with fail
  refine (CI.out w1).mono ?_
  rintro e w' ⟨rfl, rfl⟩
  go_wp2_with fail
  refine (HA.out w1).mono ?_
  rintro e w2 ⟨rfl, hb⟩
  have B_w2 : Hid (Below w.heap.size w w2) := Lib.hid (stepB B_w1.out hb)
  have Mt_w2 : Hid (BK 23 w2 (w.heap.size) [.int .i64 r, .int .i64 b, .int .i64 v, .int .i64 t]) := Lib.hid (Mt_w1.out.step hb)
  clear B_w1 Mt_w1
  clear hb
  go_wp2_with fail
  go_ret
  exact ⟨rfl, B_w2.out⟩
set_option maxRecDepth 20000 in
set_option maxHeartbeats 4000000 in
theorem limitsFirst_bad2 (r b v t : Int) (now n th : Int) (w : World) (hv : vbL r b v t now = true) (hi : isL th 1099511627776 = true) (hl : th < now) :
    Calls Try.prog 6 #[bk r b v t, .int .i64 now, .int .i64 n, .int .i64 th] w fun e w' => e = .returned (.bool true) ∧ Below w.heap.size w w' := by
  have HA := Lib.hid (fun w => awake21_any w)
  obtain ⟨w0, hw0⟩ : ∃ w0, w0 = w.alloc (.cells #[.int .i64 r, .int .i64 b, .int .i64 v, .int .i64 t] 23) := ⟨_, rfl⟩
  have M0 : BK 23 w0 w.heap.size [.int .i64 r, .int .i64 b, .int .i64 v, .int .i64 t] := by rw [hw0]; exact BK.new w _ _
  have hb0 : Below w.heap.size w w0 := by rw [hw0]; exact below_new w _
  have B_w0 := Lib.hid hb0
  have Mt_w0 := Lib.hid M0
  have HW0 := Lib.hid hw0
  have CV := Lib.hid (fun w => valid21_any r b v t now w)
  rw [hv] at CV
  have CI := Lib.hid (fun w => instant_any th w)
  rw [hi] at CI
  have q1 : decide (th < now) = true := decide_eq_true hl
  clear hv hi hl
  clear hw0 M0 hb0
  go_enter Try.func6, Try.ntmps6
  go_upto_region 1 with fail
  rw [← HW0.out]
  clear HW0
  have dt0 := Mt_w0.out.cell 0 rfl
  have dt1 := Mt_w0.out.cell 1 rfl
  have dt2 := Mt_w0.out.cell 2 rfl
  have dt3 := Mt_w0.out.cell 3 rfl
  go_wp2_with fail
  refine (CV.out w0).mono ?_
  rintro e w1 ⟨rfl, hb⟩
  have B_w1 : Hid (Below w.heap.size w w1) := Lib.hid (stepB B_w0.out hb)
  have Mt_w1 : Hid (BK 23 w1 (w.heap.size) [.int .i64 r, .int .i64 b, .int .i64 v, .int .i64 t]) := Lib.hid (Mt_w0.out.step hb)
  clear dt0 dt1 dt2 dt3
  clear B_w0 Mt_w0
  clear hb
  go_wp2_with fail
  refine (CI.out w1).mono ?_
  rintro e w' ⟨rfl, rfl⟩
  go_wp2_with fail
  refine (HA.out w1).mono ?_
  rintro e w2 ⟨rfl, hb⟩
  have B_w2 : Hid (Below w.heap.size w w2) := Lib.hid (stepB B_w1.out hb)
  have Mt_w2 : Hid (BK 23 w2 (w.heap.size) [.int .i64 r, .int .i64 b, .int .i64 v, .int .i64 t]) := Lib.hid (Mt_w1.out.step hb)
  clear B_w1 Mt_w1
  clear hb
  go_wp2_with fail
  go_ret
  exact ⟨rfl, B_w2.out⟩
set_option maxRecDepth 20000 in
set_option maxHeartbeats 4000000 in
theorem limitsFirst_bad3 (r b v t : Int) (now n th : Int) (w : World) (hv : vbL r b v t now = true) (hi : isL th 1099511627776 = true) (hl : ¬ th < now) (hn : n < 0) :
    Calls Try.prog 6 #[bk r b v t, .int .i64 now, .int .i64 n, .int .i64 th] w fun e w' => e = .returned (.bool true) ∧ Below w.heap.size w w' := by
  have HA := Lib.hid (fun w => awake21_any w)
  obtain ⟨w0, hw0⟩ : ∃ w0, w0 = w.alloc (.cells #[.int .i64 r, .int .i64 b, .int .i64 v, .int .i64 t] 23) := ⟨_, rfl⟩
  have M0 : BK 23 w0 w.heap.size [.int .i64 r, .int .i64 b, .int .i64 v, .int .i64 t] := by rw [hw0]; exact BK.new w _ _
  have hb0 : Below w.heap.size w w0 := by rw [hw0]; exact below_new w _
  have B_w0 := Lib.hid hb0
  have Mt_w0 := Lib.hid M0
  have HW0 := Lib.hid hw0
  have CV := Lib.hid (fun w => valid21_any r b v t now w)
  rw [hv] at CV
  have CI := Lib.hid (fun w => instant_any th w)
  rw [hi] at CI
  have q1 : decide (th < now) = false := decide_eq_false hl
  have q2 : decide (n < 0) = true := decide_eq_true hn
  clear hv hi hl hn
  clear hw0 M0 hb0
  go_enter Try.func6, Try.ntmps6
  go_upto_region 1 with fail
  rw [← HW0.out]
  clear HW0
  have dt0 := Mt_w0.out.cell 0 rfl
  have dt1 := Mt_w0.out.cell 1 rfl
  have dt2 := Mt_w0.out.cell 2 rfl
  have dt3 := Mt_w0.out.cell 3 rfl
  go_wp2_with fail
  refine (CV.out w0).mono ?_
  rintro e w1 ⟨rfl, hb⟩
  have B_w1 : Hid (Below w.heap.size w w1) := Lib.hid (stepB B_w0.out hb)
  have Mt_w1 : Hid (BK 23 w1 (w.heap.size) [.int .i64 r, .int .i64 b, .int .i64 v, .int .i64 t]) := Lib.hid (Mt_w0.out.step hb)
  clear dt0 dt1 dt2 dt3
  clear B_w0 Mt_w0
  clear hb
  go_wp2_with fail
  refine (CI.out w1).mono ?_
  rintro e w' ⟨rfl, rfl⟩
  go_wp2_with fail
  refine (HA.out w1).mono ?_
  rintro e w2 ⟨rfl, hb⟩
  have B_w2 : Hid (Below w.heap.size w w2) := Lib.hid (stepB B_w1.out hb)
  have Mt_w2 : Hid (BK 23 w2 (w.heap.size) [.int .i64 r, .int .i64 b, .int .i64 v, .int .i64 t]) := Lib.hid (Mt_w1.out.step hb)
  clear B_w1 Mt_w1
  clear hb
  go_wp2_with fail
  go_ret
  exact ⟨rfl, B_w2.out⟩
set_option maxRecDepth 20000 in
set_option maxHeartbeats 4000000 in
theorem limitsFirst_no (r b v t : Int) (now n th : Int) (w : World) (hv : vbL r b v t now = true) (hi : isL th 1099511627776 = true) (hl : ¬ th < now) (hn : ¬ n < 0) (hno : (waitL r b v t now n).2 = false) :
    Calls Try.prog 6 #[bk r b v t, .int .i64 now, .int .i64 n, .int .i64 th] w fun e w' => e = .returned (.bool true) ∧ Below w.heap.size w w' := by
  have HA := Lib.hid (fun w => awake21_any w)
  obtain ⟨w0, hw0⟩ : ∃ w0, w0 = w.alloc (.cells #[.int .i64 r, .int .i64 b, .int .i64 v, .int .i64 t] 23) := ⟨_, rfl⟩
  have M0 : BK 23 w0 w.heap.size [.int .i64 r, .int .i64 b, .int .i64 v, .int .i64 t] := by rw [hw0]; exact BK.new w _ _
  have hb0 : Below w.heap.size w w0 := by rw [hw0]; exact below_new w _
  have B_w0 := Lib.hid hb0
  have Mt_w0 := Lib.hid M0
  have HW0 := Lib.hid hw0
  have CV := Lib.hid (fun w => valid21_any r b v t now w)
  rw [hv] at CV
  have CI := Lib.hid (fun w => instant_any th w)
  rw [hi] at CI
  have q1 : decide (th < now) = false := decide_eq_false hl
  have q2 : decide (n < 0) = false := decide_eq_false hn
  obtain ⟨hok, h0, h1⟩ := vbL_iff.1 hv
  have hth : 0 ≤ th ∧ th ≤ 1099511627776 := by unfold isL at hi; simp only [Bool.and_eq_true, decide_eq_true_eq] at hi; exact hi
  have hw := wait_first (n := n) hok h0 h1 (by omega : now ≤ th) hth.2 (by omega)
  have C3 := Lib.hid (fun w => lWait_any r b v t now n hok h0 h1 w)
  have C4 := Lib.hid (fun w => lTake_any r b v t th n hok hth.1 hth.2 w)
  obtain ⟨e1, e2⟩ := hw.1 hno
  rw [e1, hno] at C3
  have e3 : (takeL r b v t th n).2 = false := by unfold takeL; rw [if_pos (by omega)]
  rw [e3] at C4
  generalize (takeL r b v t th n).1 = x at C4
  generalize lastL t th = l at C4
  clear hv hi hl hn hok h0 h1 hth hw hno e1 e2 e3
  clear hw0 M0 hb0
  go_enter Try.func6, Try.ntmps6
  go_upto_region 1 with fail
  rw [← HW0.out]
  clear HW0
  have dt0 := Mt_w0.out.cell 0 rfl
  have dt1 := Mt_w0.out.cell 1 rfl
  have dt2 := Mt_w0.out.cell 2 rfl
  have dt3 := Mt_w0.out.cell 3 rfl
  go_wp2_with fail
  refine (CV.out w0).mono ?_
  rintro e w1 ⟨rfl, hb⟩
  have B_w1 : Hid (Below w.heap.size w w1) := Lib.hid (stepB B_w0.out hb)
  have Mt_w1 : Hid (BK 23 w1 (w.heap.size) [.int .i64 r, .int .i64 b, .int .i64 v, .int .i64 t]) := Lib.hid (Mt_w0.out.step hb)
  clear dt0 dt1 dt2 dt3
  clear B_w0 Mt_w0
  clear hb
  go_wp2_with fail
  refine (CI.out w1).mono ?_
  rintro e w' ⟨rfl, rfl⟩
  have dt0 := Mt_w1.out.cell 0 rfl
  have dt1 := Mt_w1.out.cell 1 rfl
  have dt2 := Mt_w1.out.cell 2 rfl
  have dt3 := Mt_w1.out.cell 3 rfl
  go_wp2_with fail
  refine (C3.out w1).mono ?_
  rintro e w2 ⟨rfl, hb⟩
  have B_w2 : Hid (Below w.heap.size w w2) := Lib.hid (stepB B_w1.out hb)
  have Mt_w2 : Hid (BK 23 w2 (w.heap.size) [.int .i64 r, .int .i64 b, .int .i64 v, .int .i64 t]) := Lib.hid (Mt_w1.out.step hb)
  clear dt0 dt1 dt2 dt3
  clear B_w1 Mt_w1
  clear hb
  have dt0 := Mt_w2.out.cell 0 rfl
  have dt1 := Mt_w2.out.cell 1 rfl
  have dt2 := Mt_w2.out.cell 2 rfl
  have dt3 := Mt_w2.out.cell 3 rfl
  go_wp2_with fail
  refine (C4.out w2).mono ?_
  rintro e w3 ⟨rfl, hb⟩
  have B_w3 : Hid (Below w.heap.size w w3) := Lib.hid (stepB B_w2.out hb)
  have Mt_w3 : Hid (BK 23 w3 (w.heap.size) [.int .i64 r, .int .i64 b, .int .i64 v, .int .i64 t]) := Lib.hid (Mt_w2.out.step hb)
  clear dt0 dt1 dt2 dt3
  clear B_w2 Mt_w2
  clear hb
  go_wp2_with first | (refine wpList_store_all (by rfl) 23 (.tmp 11) (.tmp 46) rfl rfl (w3.heap.size) rfl [.int .i64 r, .int .i64 b, .int .i64 x, .int .i64 l] rfl 23 [.int .i64 0, .int .i64 0, .int .i64 0, .int .i64 0] (BK.new w3 _ _) infoB4 rfl (all_one rfl) ?_; intro w4 hM hP; have Mc_w4 : Hid (BK 23 w4 (w3.heap.size) [.int .i64 r, .int .i64 b, .int .i64 x, .int .i64 l]) := Lib.hid hM; have Lt_c : Hid (w.heap.size < w3.heap.size) := Lib.hid Mt_w3.out.lt; have Zc : Hid (w.heap.size ≤ w3.heap.size) := Lib.hid B_w3.out.size; have B_w4 : Hid (Below w.heap.size w w4) := Lib.hid (hP.below (stepB B_w3.out (below_new w3 _)) B_w3.out.size); have Mt_w4 : Hid (BK 23 w4 (w.heap.size) [.int .i64 r, .int .i64 b, .int .i64 v, .int .i64 t]) := Lib.hid (hP.other (BK.alloc Mt_w3.out _) (Nat.ne_of_lt Mt_w3.out.lt)); clear B_w3 Mt_w3 hM hP)
  refine (HA.out w4).mono ?_
  rintro e w5 ⟨rfl, hb⟩
  have B_w5 : Hid (Below w.heap.size w w5) := Lib.hid (stepB B_w4.out hb)
  have Mt_w5 : Hid (BK 23 w5 (w.heap.size) [.int .i64 r, .int .i64 b, .int .i64 v, .int .i64 t]) := Lib.hid (Mt_w4.out.step hb)
  have Mc_w5 : Hid (BK 23 w5 (w3.heap.size) [.int .i64 r, .int .i64 b, .int .i64 x, .int .i64 l]) := Lib.hid (Mc_w4.out.step hb)
  clear B_w4 Mt_w4 Mc_w4
  clear hb
  go_wp2_with fail
  go_ret
  exact ⟨rfl, B_w5.out⟩
set_option maxRecDepth 20000 in
set_option maxHeartbeats 4000000 in
theorem limitsFirst_late (r b v t : Int) (now n th : Int) (w : World) (hv : vbL r b v t now = true) (hi : isL th 1099511627776 = true) (hl : ¬ th < now) (hn : ¬ n < 0) (hyes : (waitL r b v t now n).2 = true) (hlt : (waitL r b v t now n).1 ≤ th) :
    Calls Try.prog 6 #[bk r b v t, .int .i64 now, .int .i64 n, .int .i64 th] w fun e w' => e = .returned (.bool true) ∧ Below w.heap.size w w' := by
  have HA := Lib.hid (fun w => awake21_any w)
  obtain ⟨w0, hw0⟩ : ∃ w0, w0 = w.alloc (.cells #[.int .i64 r, .int .i64 b, .int .i64 v, .int .i64 t] 23) := ⟨_, rfl⟩
  have M0 : BK 23 w0 w.heap.size [.int .i64 r, .int .i64 b, .int .i64 v, .int .i64 t] := by rw [hw0]; exact BK.new w _ _
  have hb0 : Below w.heap.size w w0 := by rw [hw0]; exact below_new w _
  have B_w0 := Lib.hid hb0
  have Mt_w0 := Lib.hid M0
  have HW0 := Lib.hid hw0
  have CV := Lib.hid (fun w => valid21_any r b v t now w)
  rw [hv] at CV
  have CI := Lib.hid (fun w => instant_any th w)
  rw [hi] at CI
  have q1 : decide (th < now) = false := decide_eq_false hl
  have q2 : decide (n < 0) = false := decide_eq_false hn
  obtain ⟨hok, h0, h1⟩ := vbL_iff.1 hv
  have hth : 0 ≤ th ∧ th ≤ 1099511627776 := by unfold isL at hi; simp only [Bool.and_eq_true, decide_eq_true_eq] at hi; exact hi
  have hw := wait_first (n := n) hok h0 h1 (by omega : now ≤ th) hth.2 (by omega)
  have C3 := Lib.hid (fun w => lWait_any r b v t now n hok h0 h1 w)
  have C4 := Lib.hid (fun w => lTake_any r b v t th n hok hth.1 hth.2 w)
  obtain ⟨e1, e2, e3, e4⟩ := hw.2 hyes
  rw [hyes] at C3
  have C5 := Lib.hid (fun w => lTake_any r b v t (waitL r b v t now n).1 n hok (by omega) e2 w)
  have e5 : (takeL r b v t (waitL r b v t now n).1 n).2 = true := by unfold takeL; rw [if_neg (by omega)]
  rw [e5] at C5
  generalize (takeL r b v t (waitL r b v t now n).1 n).1 = y at C5
  generalize lastL t (waitL r b v t now n).1 = l2 at C5
  have q3 : decide (now ≤ (waitL r b v t now n).1) = true := decide_eq_true e1
  have q4 : decide ((waitL r b v t now n).1 ≤ 1099511627776) = true := decide_eq_true e2
  have q5 : decide ((waitL r b v t now n).1 ≤ th) = true := decide_eq_true hlt
  generalize (waitL r b v t now n).1 = at_ at *
  generalize (takeL r b v t th n).2 = ok at C4
  clear hlt
  generalize (takeL r b v t th n).1 = x at C4
  generalize lastL t th = l at C4
  clear hv hi hl hn hok h0 h1 hth hw hyes e1 e2 e3 e4 e5
  clear hw0 M0 hb0
  go_enter Try.func6, Try.ntmps6
  go_upto_region 1 with fail
  rw [← HW0.out]
  clear HW0
  have dt0 := Mt_w0.out.cell 0 rfl
  have dt1 := Mt_w0.out.cell 1 rfl
  have dt2 := Mt_w0.out.cell 2 rfl
  have dt3 := Mt_w0.out.cell 3 rfl
  go_wp2_with fail
  refine (CV.out w0).mono ?_
  rintro e w1 ⟨rfl, hb⟩
  have B_w1 : Hid (Below w.heap.size w w1) := Lib.hid (stepB B_w0.out hb)
  have Mt_w1 : Hid (BK 23 w1 (w.heap.size) [.int .i64 r, .int .i64 b, .int .i64 v, .int .i64 t]) := Lib.hid (Mt_w0.out.step hb)
  clear dt0 dt1 dt2 dt3
  clear B_w0 Mt_w0
  clear hb
  go_wp2_with fail
  refine (CI.out w1).mono ?_
  rintro e w' ⟨rfl, rfl⟩
  have dt0 := Mt_w1.out.cell 0 rfl
  have dt1 := Mt_w1.out.cell 1 rfl
  have dt2 := Mt_w1.out.cell 2 rfl
  have dt3 := Mt_w1.out.cell 3 rfl
  go_wp2_with fail
  refine (C3.out w1).mono ?_
  rintro e w2 ⟨rfl, hb⟩
  have B_w2 : Hid (Below w.heap.size w w2) := Lib.hid (stepB B_w1.out hb)
  have Mt_w2 : Hid (BK 23 w2 (w.heap.size) [.int .i64 r, .int .i64 b, .int .i64 v, .int .i64 t]) := Lib.hid (Mt_w1.out.step hb)
  clear dt0 dt1 dt2 dt3
  clear B_w1 Mt_w1
  clear hb
  have dt0 := Mt_w2.out.cell 0 rfl
  have dt1 := Mt_w2.out.cell 1 rfl
  have dt2 := Mt_w2.out.cell 2 rfl
  have dt3 := Mt_w2.out.cell 3 rfl
  go_wp2_with fail
  refine (C4.out w2).mono ?_
  rintro e w3 ⟨rfl, hb⟩
  have B_w3 : Hid (Below w.heap.size w w3) := Lib.hid (stepB B_w2.out hb)
  have Mt_w3 : Hid (BK 23 w3 (w.heap.size) [.int .i64 r, .int .i64 b, .int .i64 v, .int .i64 t]) := Lib.hid (Mt_w2.out.step hb)
  clear dt0 dt1 dt2 dt3
  clear B_w2 Mt_w2
  clear hb
  have dt0 := Mt_w3.out.cell 0 rfl
  have dt1 := Mt_w3.out.cell 1 rfl
  have dt2 := Mt_w3.out.cell 2 rfl
  have dt3 := Mt_w3.out.cell 3 rfl
  go_wp2_with first | (refine wpList_store_all (by rfl) 23 (.tmp 11) (.tmp 46) rfl rfl (w3.heap.size) rfl [.int .i64 r, .int .i64 b, .int .i64 x, .int .i64 l] rfl 23 [.int .i64 0, .int .i64 0, .int .i64 0, .int .i64 0] (BK.new w3 _ _) infoB4 rfl (all_one rfl) ?_; intro w4 hM hP; have Mc_w4 : Hid (BK 23 w4 (w3.heap.size) [.int .i64 r, .int .i64 b, .int .i64 x, .int .i64 l]) := Lib.hid hM; have Lt_c : Hid (w.heap.size < w3.heap.size) := Lib.hid Mt_w3.out.lt; have Zc : Hid (w.heap.size ≤ w3.heap.size) := Lib.hid B_w3.out.size; have B_w4 : Hid (Below w.heap.size w w4) := Lib.hid (hP.below (stepB B_w3.out (below_new w3 _)) B_w3.out.size); have Mt_w4 : Hid (BK 23 w4 (w.heap.size) [.int .i64 r, .int .i64 b, .int .i64 v, .int .i64 t]) := Lib.hid (hP.other (BK.alloc Mt_w3.out _) (Nat.ne_of_lt Mt_w3.out.lt)); clear B_w3 Mt_w3 hM hP dt0 dt1 dt2 dt3; have dt0 := Mt_w4.out.cell 0 rfl; have dt1 := Mt_w4.out.cell 1 rfl; have dt2 := Mt_w4.out.cell 2 rfl; have dt3 := Mt_w4.out.cell 3 rfl)
  refine (C5.out w4).mono ?_
  rintro e w5 ⟨rfl, hb⟩
  have B_w5 : Hid (Below w.heap.size w w5) := Lib.hid (stepB B_w4.out hb)
  have Mt_w5 : Hid (BK 23 w5 (w.heap.size) [.int .i64 r, .int .i64 b, .int .i64 v, .int .i64 t]) := Lib.hid (Mt_w4.out.step hb)
  have Mc_w5 : Hid (BK 23 w5 (w3.heap.size) [.int .i64 r, .int .i64 b, .int .i64 x, .int .i64 l]) := Lib.hid (Mc_w4.out.step hb)
  clear dt0 dt1 dt2 dt3
  clear B_w4 Mt_w4 Mc_w4
  clear hb
  go_wp2_with first | (refine wpList_store_all (by rfl) 23 (.tmp 13) (.tmp 64) rfl rfl (w5.heap.size) rfl [.int .i64 r, .int .i64 b, .int .i64 y, .int .i64 l2] rfl 23 [.int .i64 0, .int .i64 0, .int .i64 0, .int .i64 0] (BK.new w5 _ _) infoB4 rfl (all_one rfl) ?_; intro w6 hM hP; have Md_w6 : Hid (BK 23 w6 (w5.heap.size) [.int .i64 r, .int .i64 b, .int .i64 y, .int .i64 l2]) := Lib.hid hM; have Lt_d : Hid (w.heap.size < w5.heap.size) := Lib.hid Mt_w5.out.lt; have Lc_d : Hid (w3.heap.size < w5.heap.size) := Lib.hid Mc_w5.out.lt; have Zd : Hid (w.heap.size ≤ w5.heap.size) := Lib.hid B_w5.out.size; have B_w6 : Hid (Below w.heap.size w w6) := Lib.hid (hP.below (stepB B_w5.out (below_new w5 _)) B_w5.out.size); have Mt_w6 : Hid (BK 23 w6 (w.heap.size) [.int .i64 r, .int .i64 b, .int .i64 v, .int .i64 t]) := Lib.hid (hP.other (BK.alloc Mt_w5.out _) (Nat.ne_of_lt Mt_w5.out.lt)); have Mc_w6 : Hid (BK 23 w6 (w3.heap.size) [.int .i64 r, .int .i64 b, .int .i64 x, .int .i64 l]) := Lib.hid (hP.other (BK.alloc Mc_w5.out _) (Nat.ne_of_lt Mc_w5.out.lt)); clear B_w5 Mt_w5 Mc_w5 hM hP)
  refine (HA.out w6).mono ?_
  rintro e w7 ⟨rfl, hb⟩
  have B_w7 : Hid (Below w.heap.size w w7) := Lib.hid (stepB B_w6.out hb)
  have Mt_w7 : Hid (BK 23 w7 (w.heap.size) [.int .i64 r, .int .i64 b, .int .i64 v, .int .i64 t]) := Lib.hid (Mt_w6.out.step hb)
  have Mc_w7 : Hid (BK 23 w7 (w3.heap.size) [.int .i64 r, .int .i64 b, .int .i64 x, .int .i64 l]) := Lib.hid (Mc_w6.out.step hb)
  have Md_w7 : Hid (BK 23 w7 (w5.heap.size) [.int .i64 r, .int .i64 b, .int .i64 y, .int .i64 l2]) := Lib.hid (Md_w6.out.step hb)
  clear B_w6 Mt_w6 Mc_w6 Md_w6
  clear hb
  go_wp2_with fail
  go_ret
  exact ⟨rfl, B_w7.out⟩
set_option maxRecDepth 20000 in
set_option maxHeartbeats 4000000 in
theorem limitsFirst_early (r b v t : Int) (now n th : Int) (w : World) (hv : vbL r b v t now = true) (hi : isL th 1099511627776 = true) (hl : ¬ th < now) (hn : ¬ n < 0) (hyes : (waitL r b v t now n).2 = true) (hlt : ¬ (waitL r b v t now n).1 ≤ th) :
    Calls Try.prog 6 #[bk r b v t, .int .i64 now, .int .i64 n, .int .i64 th] w fun e w' => e = .returned (.bool true) ∧ Below w.heap.size w w' := by
  have HA := Lib.hid (fun w => awake21_any w)
  obtain ⟨w0, hw0⟩ : ∃ w0, w0 = w.alloc (.cells #[.int .i64 r, .int .i64 b, .int .i64 v, .int .i64 t] 23) := ⟨_, rfl⟩
  have M0 : BK 23 w0 w.heap.size [.int .i64 r, .int .i64 b, .int .i64 v, .int .i64 t] := by rw [hw0]; exact BK.new w _ _
  have hb0 : Below w.heap.size w w0 := by rw [hw0]; exact below_new w _
  have B_w0 := Lib.hid hb0
  have Mt_w0 := Lib.hid M0
  have HW0 := Lib.hid hw0
  have CV := Lib.hid (fun w => valid21_any r b v t now w)
  rw [hv] at CV
  have CI := Lib.hid (fun w => instant_any th w)
  rw [hi] at CI
  have q1 : decide (th < now) = false := decide_eq_false hl
  have q2 : decide (n < 0) = false := decide_eq_false hn
  obtain ⟨hok, h0, h1⟩ := vbL_iff.1 hv
  have hth : 0 ≤ th ∧ th ≤ 1099511627776 := by unfold isL at hi; simp only [Bool.and_eq_true, decide_eq_true_eq] at hi; exact hi
  have hw := wait_first (n := n) hok h0 h1 (by omega : now ≤ th) hth.2 (by omega)
  have C3 := Lib.hid (fun w => lWait_any r b v t now n hok h0 h1 w)
  have C4 := Lib.hid (fun w => lTake_any r b v t th n hok hth.1 hth.2 w)
  obtain ⟨e1, e2, e3, e4⟩ := hw.2 hyes
  rw [hyes] at C3
  have C5 := Lib.hid (fun w => lTake_any r b v t (waitL r b v t now n).1 n hok (by omega) e2 w)
  have e5 : (takeL r b v t (waitL r b v t now n).1 n).2 = true := by unfold takeL; rw [if_neg (by omega)]
  rw [e5] at C5
  generalize (takeL r b v t (waitL r b v t now n).1 n).1 = y at C5
  generalize lastL t (waitL r b v t now n).1 = l2 at C5
  have q3 : decide (now ≤ (waitL r b v t now n).1) = true := decide_eq_true e1
  have q4 : decide ((waitL r b v t now n).1 ≤ 1099511627776) = true := decide_eq_true e2
  have q5 : decide ((waitL r b v t now n).1 ≤ th) = false := decide_eq_false hlt
  have e6 : (takeL r b v t th n).2 = false := by unfold takeL; rw [if_pos (by omega)]
  rw [e6] at C4
  generalize (waitL r b v t now n).1 = at_ at *
  clear hlt e6
  generalize (takeL r b v t th n).1 = x at C4
  generalize lastL t th = l at C4
  clear hv hi hl hn hok h0 h1 hth hw hyes e1 e2 e3 e4 e5
  clear hw0 M0 hb0
  go_enter Try.func6, Try.ntmps6
  go_upto_region 1 with fail
  rw [← HW0.out]
  clear HW0
  have dt0 := Mt_w0.out.cell 0 rfl
  have dt1 := Mt_w0.out.cell 1 rfl
  have dt2 := Mt_w0.out.cell 2 rfl
  have dt3 := Mt_w0.out.cell 3 rfl
  go_wp2_with fail
  refine (CV.out w0).mono ?_
  rintro e w1 ⟨rfl, hb⟩
  have B_w1 : Hid (Below w.heap.size w w1) := Lib.hid (stepB B_w0.out hb)
  have Mt_w1 : Hid (BK 23 w1 (w.heap.size) [.int .i64 r, .int .i64 b, .int .i64 v, .int .i64 t]) := Lib.hid (Mt_w0.out.step hb)
  clear dt0 dt1 dt2 dt3
  clear B_w0 Mt_w0
  clear hb
  go_wp2_with fail
  refine (CI.out w1).mono ?_
  rintro e w' ⟨rfl, rfl⟩
  have dt0 := Mt_w1.out.cell 0 rfl
  have dt1 := Mt_w1.out.cell 1 rfl
  have dt2 := Mt_w1.out.cell 2 rfl
  have dt3 := Mt_w1.out.cell 3 rfl
  go_wp2_with fail
  refine (C3.out w1).mono ?_
  rintro e w2 ⟨rfl, hb⟩
  have B_w2 : Hid (Below w.heap.size w w2) := Lib.hid (stepB B_w1.out hb)
  have Mt_w2 : Hid (BK 23 w2 (w.heap.size) [.int .i64 r, .int .i64 b, .int .i64 v, .int .i64 t]) := Lib.hid (Mt_w1.out.step hb)
  clear dt0 dt1 dt2 dt3
  clear B_w1 Mt_w1
  clear hb
  have dt0 := Mt_w2.out.cell 0 rfl
  have dt1 := Mt_w2.out.cell 1 rfl
  have dt2 := Mt_w2.out.cell 2 rfl
  have dt3 := Mt_w2.out.cell 3 rfl
  go_wp2_with fail
  refine (C4.out w2).mono ?_
  rintro e w3 ⟨rfl, hb⟩
  have B_w3 : Hid (Below w.heap.size w w3) := Lib.hid (stepB B_w2.out hb)
  have Mt_w3 : Hid (BK 23 w3 (w.heap.size) [.int .i64 r, .int .i64 b, .int .i64 v, .int .i64 t]) := Lib.hid (Mt_w2.out.step hb)
  clear dt0 dt1 dt2 dt3
  clear B_w2 Mt_w2
  clear hb
  have dt0 := Mt_w3.out.cell 0 rfl
  have dt1 := Mt_w3.out.cell 1 rfl
  have dt2 := Mt_w3.out.cell 2 rfl
  have dt3 := Mt_w3.out.cell 3 rfl
  go_wp2_with first | (refine wpList_store_all (by rfl) 23 (.tmp 11) (.tmp 46) rfl rfl (w3.heap.size) rfl [.int .i64 r, .int .i64 b, .int .i64 x, .int .i64 l] rfl 23 [.int .i64 0, .int .i64 0, .int .i64 0, .int .i64 0] (BK.new w3 _ _) infoB4 rfl (all_one rfl) ?_; intro w4 hM hP; have Mc_w4 : Hid (BK 23 w4 (w3.heap.size) [.int .i64 r, .int .i64 b, .int .i64 x, .int .i64 l]) := Lib.hid hM; have Lt_c : Hid (w.heap.size < w3.heap.size) := Lib.hid Mt_w3.out.lt; have Zc : Hid (w.heap.size ≤ w3.heap.size) := Lib.hid B_w3.out.size; have B_w4 : Hid (Below w.heap.size w w4) := Lib.hid (hP.below (stepB B_w3.out (below_new w3 _)) B_w3.out.size); have Mt_w4 : Hid (BK 23 w4 (w.heap.size) [.int .i64 r, .int .i64 b, .int .i64 v, .int .i64 t]) := Lib.hid (hP.other (BK.alloc Mt_w3.out _) (Nat.ne_of_lt Mt_w3.out.lt)); clear B_w3 Mt_w3 hM hP dt0 dt1 dt2 dt3; have dt0 := Mt_w4.out.cell 0 rfl; have dt1 := Mt_w4.out.cell 1 rfl; have dt2 := Mt_w4.out.cell 2 rfl; have dt3 := Mt_w4.out.cell 3 rfl)
  refine (C5.out w4).mono ?_
  rintro e w5 ⟨rfl, hb⟩
  have B_w5 : Hid (Below w.heap.size w w5) := Lib.hid (stepB B_w4.out hb)
  have Mt_w5 : Hid (BK 23 w5 (w.heap.size) [.int .i64 r, .int .i64 b, .int .i64 v, .int .i64 t]) := Lib.hid (Mt_w4.out.step hb)
  have Mc_w5 : Hid (BK 23 w5 (w3.heap.size) [.int .i64 r, .int .i64 b, .int .i64 x, .int .i64 l]) := Lib.hid (Mc_w4.out.step hb)
  clear dt0 dt1 dt2 dt3
  clear B_w4 Mt_w4 Mc_w4
  clear hb
  go_wp2_with first | (refine wpList_store_all (by rfl) 23 (.tmp 13) (.tmp 64) rfl rfl (w5.heap.size) rfl [.int .i64 r, .int .i64 b, .int .i64 y, .int .i64 l2] rfl 23 [.int .i64 0, .int .i64 0, .int .i64 0, .int .i64 0] (BK.new w5 _ _) infoB4 rfl (all_one rfl) ?_; intro w6 hM hP; have Md_w6 : Hid (BK 23 w6 (w5.heap.size) [.int .i64 r, .int .i64 b, .int .i64 y, .int .i64 l2]) := Lib.hid hM; have Lt_d : Hid (w.heap.size < w5.heap.size) := Lib.hid Mt_w5.out.lt; have Lc_d : Hid (w3.heap.size < w5.heap.size) := Lib.hid Mc_w5.out.lt; have Zd : Hid (w.heap.size ≤ w5.heap.size) := Lib.hid B_w5.out.size; have B_w6 : Hid (Below w.heap.size w w6) := Lib.hid (hP.below (stepB B_w5.out (below_new w5 _)) B_w5.out.size); have Mt_w6 : Hid (BK 23 w6 (w.heap.size) [.int .i64 r, .int .i64 b, .int .i64 v, .int .i64 t]) := Lib.hid (hP.other (BK.alloc Mt_w5.out _) (Nat.ne_of_lt Mt_w5.out.lt)); have Mc_w6 : Hid (BK 23 w6 (w3.heap.size) [.int .i64 r, .int .i64 b, .int .i64 x, .int .i64 l]) := Lib.hid (hP.other (BK.alloc Mc_w5.out _) (Nat.ne_of_lt Mc_w5.out.lt)); clear B_w5 Mt_w5 Mc_w5 hM hP)
  refine (HA.out w6).mono ?_
  rintro e w7 ⟨rfl, hb⟩
  have B_w7 : Hid (Below w.heap.size w w7) := Lib.hid (stepB B_w6.out hb)
  have Mt_w7 : Hid (BK 23 w7 (w.heap.size) [.int .i64 r, .int .i64 b, .int .i64 v, .int .i64 t]) := Lib.hid (Mt_w6.out.step hb)
  have Mc_w7 : Hid (BK 23 w7 (w3.heap.size) [.int .i64 r, .int .i64 b, .int .i64 x, .int .i64 l]) := Lib.hid (Mc_w6.out.step hb)
  have Md_w7 : Hid (BK 23 w7 (w5.heap.size) [.int .i64 r, .int .i64 b, .int .i64 y, .int .i64 l2]) := Lib.hid (Md_w6.out.step hb)
  clear B_w6 Mt_w6 Mc_w6 Md_w6
  clear hb
  go_wp2_with fail
  go_ret
  exact ⟨rfl, B_w7.out⟩
theorem limitsFirst_walk (r b v t now n th : Int) (w : World) :
    Calls Try.prog 6 #[bk r b v t, .int .i64 now, .int .i64 n, .int .i64 th] w fun e w' => e = .returned (.bool true) ∧ Below w.heap.size w w' := by
  cases hv : vbL r b v t now with
  | false => exact limitsFirst_bad0 r b v t now n th w hv
  | true =>
    cases hi : isL th 1099511627776 with
    | false => exact limitsFirst_bad1 r b v t now n th w hv hi
    | true =>
      by_cases hl : th < now
      · exact limitsFirst_bad2 r b v t now n th w hv hi hl
      · by_cases hn : n < 0
        · exact limitsFirst_bad3 r b v t now n th w hv hi hl hn
        · cases ho : (waitL r b v t now n).2 with
          | false => exact limitsFirst_no r b v t now n th w hv hi hl hn ho
          | true =>
            by_cases hlt : (waitL r b v t now n).1 ≤ th
            · exact limitsFirst_late r b v t now n th w hv hi hl hn ho hlt
            · exact limitsFirst_early r b v t now n th w hv hi hl hn ho hlt
end Go.Proofs.Ytmcocepjdhpecaa
