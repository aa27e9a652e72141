/-
  The walks of the first statements of brokerlaw13: each answers true. Conditions: the pools read as data.
-/
import Derived.Test.YtdjlggfipabciaaIdW
namespace Go.Proofs.Ytdjlggfipabciaa
open Go.RowKit

set_option maxRecDepth 20000 in
set_option maxHeartbeats 4000000 in
theorem identChecks_walk (A : Option Addr) (c : Nat) (X : List Int) (L : Int) (w : World) (hsl : IL w w.heap.size A X) (hc : X.length ≤ c) (hX : X.length ≤ 9223372036854775807) (hbx : ∀ x ∈ X, -9223372036854775808 ≤ x ∧ x ≤ 9223372036854775807) :
    Calls Try.prog 3 #[pv A c X L] w fun e w' => e = .returned (.bool true) ∧ Below w.heap.size w w' := by
  have HA := Lib.hid (fun w => awake13_any w)
  obtain ⟨w0, hw0⟩ : ∃ w0, w0 = w.alloc (.cells #[.slice A X.length c, .int .i64 L] 24) := ⟨_, rfl⟩
  have M0 : BK 24 w0 w.heap.size [.slice A X.length c, .int .i64 L] := by rw [hw0]; exact BK.new w _ _
  have hb0 : Below w.heap.size w w0 := by rw [hw0]; exact below_new w _
  have B_w0 := Lib.hid hb0
  have Mt_w0 := Lib.hid M0
  have Sx_w0 : Hid (IL w0 w0.heap.size A X) := Lib.hid (CL.step hsl hb0)
  have HW0 := Lib.hid hw0
  have C1 := Lib.hid (fun w h => iCheck_any A c X L w h hc hX hbx)
  have C2 := Lib.hid (fun w h => rCheck_any A c X L w h hX)
  generalize ckI X L = C at C1 C2
  have _u := And.intro hc (And.intro hX hbx)
  clear hw0 M0 hb0 hsl hc hX hbx _u
  go_enter Try.func3, Try.ntmps3
  go_upto_region 1 with fail
  rw [← HW0.out]
  clear HW0
  obtain ⟨x0v1, hx0v1⟩ : ∃ x0v1, x0v1 = World.drew w0 := ⟨_, rfl⟩
  have hbD : Below w0.heap.size w0 x0v1 := by rw [hx0v1]; exact (Below.refl _ _).drew
  have B_x0v1 : Hid (Below w.heap.size w x0v1) := Lib.hid (stepB B_w0.out hbD)
  have Mt_x0v1 : Hid (BK 24 x0v1 (w.heap.size) [.slice A X.length c, .int .i64 L]) := Lib.hid (Mt_w0.out.step hbD)
  have Sx_x0v1 : Hid (IL x0v1 x0v1.heap.size A X) := Lib.hid (CL.step Sx_w0.out hbD)
  clear B_w0 Mt_w0 Sx_w0
  have hbd : (fun w' => BK 24 w' (w.heap.size) [.slice A X.length c, .int .i64 L] ∧ IL w' w'.heap.size A X) (World.drew w0) := by rw [← hx0v1]; exact ⟨Mt_x0v1.out, Sx_x0v1.out⟩
  have hSD : (fun w' => BK 24 w' (w.heap.size) [.slice A X.length c, .int .i64 L] ∧ IL w' w'.heap.size A X) x0v1 := ⟨Mt_x0v1.out, Sx_x0v1.out⟩
  have HWD := Lib.hid hx0v1
  clear hx0v1 hbD
  refine wp_region_held_drew (S := fun w' => BK 24 w' (w.heap.size) [.slice A X.length c, .int .i64 L] ∧ IL w' w'.heap.size A X) (by kernel_rfl) hbd (fun hHeld => ?_)
  rw [← HWD.out]
  clear hHeld
  have hHeld := hSD
  clear hSD hbd HWD
  refine wpAnyH_ready (rs := [0]) (by kernel_rfl) (by simp) ?_
  refine (AllReadyH.cons (get_ops _ _ _ rfl) (fun K hK => ?_) AllReadyH.nil)
  go_simp
  go_at_call 9
  refine (HA.out x0v1).mono ?_
  rintro e x0v2 ⟨rfl, hb⟩
  have B_x0v2 : Hid (Below w.heap.size w x0v2) := Lib.hid (stepB B_x0v1.out hb)
  have Mt_x0v2 : Hid (BK 24 x0v2 (w.heap.size) [.slice A X.length c, .int .i64 L]) := Lib.hid (Mt_x0v1.out.step hb)
  have Sx_x0v2 : Hid (IL x0v2 x0v2.heap.size A X) := Lib.hid (CL.step Sx_x0v1.out hb)
  clear B_x0v1 Mt_x0v1 Sx_x0v1
  clear hHeld hb
  go_wp2_with fail
  refine hK.out _ _ ⟨Mt_x0v2.out, Sx_x0v2.out⟩ (fun hHeld => ?_)
  clear hK K
  try simp only [Act.put, List.setIfInBounds_toArray, List.set_cons_zero, List.set_cons_succ]
  refine wpAnyH_take (i := 1) (v := .bool true) (get_ops _ _ _ rfl) (by kernel_rfl) (by kernel_rfl) (by kernel_rfl) (fun _ _ _ h => h) (Or.inl ⟨by rfl, fun wS hSw => by (try dsimp only at hSw); go_simp⟩) hHeld ?_
  try simp only [Act.put, List.setIfInBounds_toArray, List.set_cons_zero, List.set_cons_succ]
  refine wpAnyH_take (i := 2) (v := .agg [.slice A X.length c, .int .i64 L].toArray) (get_ops _ _ _ rfl) (by kernel_rfl) (by kernel_rfl) (by kernel_rfl) (fun _ _ _ h => h) (Or.inl ⟨by rfl, fun wS hSw => by (try dsimp only at hSw); exact exec_load 24 _ rfl ⟨(w.heap.size), 0, none⟩ (by go_simp) _ (run_load_all hSw.1 Try.underlying24 rfl infoP2)⟩) hHeld ?_
  try simp only [Act.put, List.setIfInBounds_toArray, List.set_cons_zero, List.set_cons_succ]
  refine wpAnyH_take (i := 4) (v := .agg [.slice A X.length c, .int .i64 L].toArray) (get_ops _ _ _ rfl) (by kernel_rfl) (by kernel_rfl) (by kernel_rfl) (fun _ _ _ h => h) (Or.inl ⟨by rfl, fun wS hSw => by (try dsimp only at hSw); exact exec_load 24 _ rfl ⟨(w.heap.size), 0, none⟩ (by go_simp) _ (run_load_all hSw.1 Try.underlying24 rfl infoP2)⟩) hHeld ?_
  try simp only [Act.put, List.setIfInBounds_toArray, List.set_cons_zero, List.set_cons_succ]
  refine wpAnyH_ready (rs := [3]) (by kernel_rfl) (by simp) ?_
  refine (AllReadyH.cons (get_ops _ _ _ rfl) (fun K hK => ?_) AllReadyH.nil)
  go_simp
  go_at_call 10
  refine (C1.out x0v2 Sx_x0v2.out).mono ?_
  rintro e x0v3 ⟨rfl, hb⟩
  have B_x0v3 : Hid (Below w.heap.size w x0v3) := Lib.hid (stepB B_x0v2.out hb)
  have Mt_x0v3 : Hid (BK 24 x0v3 (w.heap.size) [.slice A X.length c, .int .i64 L]) := Lib.hid (Mt_x0v2.out.step hb)
  have Sx_x0v3 : Hid (IL x0v3 x0v3.heap.size A X) := Lib.hid (CL.step Sx_x0v2.out hb)
  clear B_x0v2 Mt_x0v2 Sx_x0v2
  clear hHeld hb
  go_wp2_with fail
  refine hK.out _ _ ⟨Mt_x0v3.out, Sx_x0v3.out⟩ (fun hHeld => ?_)
  clear hK K
  try simp only [Act.put, List.setIfInBounds_toArray, List.set_cons_zero, List.set_cons_succ]
  refine wpAnyH_ready (rs := [5]) (by kernel_rfl) (by simp) ?_
  refine (AllReadyH.cons (get_ops _ _ _ rfl) (fun K hK => ?_) AllReadyH.nil)
  go_simp
  go_at_call 11
  refine (C2.out x0v3 Sx_x0v3.out).mono ?_
  rintro e x0v4 ⟨rfl, hb⟩
  have B_x0v4 : Hid (Below w.heap.size w x0v4) := Lib.hid (stepB B_x0v3.out hb)
  have Mt_x0v4 : Hid (BK 24 x0v4 (w.heap.size) [.slice A X.length c, .int .i64 L]) := Lib.hid (Mt_x0v3.out.step hb)
  have Sx_x0v4 : Hid (IL x0v4 x0v4.heap.size A X) := Lib.hid (CL.step Sx_x0v3.out hb)
  clear B_x0v3 Mt_x0v3 Sx_x0v3
  clear hHeld hb
  go_wp2_with fail
  refine hK.out _ _ ⟨Mt_x0v4.out, Sx_x0v4.out⟩ (fun hHeld => ?_)
  clear hK K
  try simp only [Act.put, List.setIfInBounds_toArray, List.set_cons_zero, List.set_cons_succ]
  refine wpAnyH_take (i := 6) (v := .bool true) (get_ops _ _ _ rfl) (by kernel_rfl) (by kernel_rfl) (by kernel_rfl) (fun _ _ _ h => h) (Or.inl ⟨by rfl, fun wS hSw => by (try dsimp only at hSw); go_simp⟩) hHeld ?_
  try simp only [Act.put, List.setIfInBounds_toArray, List.set_cons_zero, List.set_cons_succ]
  refine wpAnyH_take (i := 7) (v := .bool true) (get_ops _ _ _ rfl) (by kernel_rfl) (by kernel_rfl) (by kernel_rfl) (fun _ _ _ h => h) (Or.inl ⟨by rfl, fun wS hSw => by (try dsimp only at hSw); go_simp⟩) hHeld ?_
  try simp only [Act.put, List.setIfInBounds_toArray, List.set_cons_zero, List.set_cons_succ]
  refine wpAnyH_take (i := 8) (v := .bool true) (get_ops _ _ _ rfl) (by kernel_rfl) (by kernel_rfl) (by kernel_rfl) (fun _ _ _ h => h) (Or.inl ⟨by rfl, fun wS hSw => by (try dsimp only at hSw); go_simp⟩) hHeld ?_
  try simp only [Act.put, List.setIfInBounds_toArray, List.set_cons_zero, List.set_cons_succ]
  refine wpAnyH_done (by kernel_rfl) ?_ _
  go_wp2_with fail
  go_ret
  exact ⟨rfl, B_x0v4.out⟩

theorem tkR_len {X : List Int} {L : Int} (h : ckI X L = 0) : (tkR X L).2.1.length ≤ 1000000 := by
  have := (ck_ok.1 h).1
  unfold tkR
  split
  · simp
  · dsimp only; rw [ins_len]; omega
set_option maxRecDepth 20000 in
set_option maxHeartbeats 4000000 in
theorem identTakes_bad (A : Option Addr) (c : Nat) (X : List Int) (L : Int) (w : World) (hsl : IL w w.heap.size A X) (hc : X.length ≤ c) (hX : X.length ≤ 9223372036854775807) (hbx : ∀ x ∈ X, -9223372036854775808 ≤ x ∧ x ≤ 9223372036854775807) (hv : ckI X L ≠ 0) :
    Calls Try.prog 4 #[pv A c X L] w fun e w' => e = .returned (.bool true) ∧ Below w.heap.size w w' := by
  have HA := Lib.hid (fun w => awake13_any w)
  obtain ⟨w0, hw0⟩ : ∃ w0, w0 = w.alloc (.cells #[.slice A X.length c, .int .i64 L] 24) := ⟨_, rfl⟩
  have M0 : BK 24 w0 w.heap.size [.slice A X.length c, .int .i64 L] := by rw [hw0]; exact BK.new w _ _
  have hb0 : Below w.heap.size w w0 := by rw [hw0]; exact below_new w _
  have B_w0 := Lib.hid hb0
  have Mt_w0 := Lib.hid M0
  have Sx_w0 : Hid (IL w0 w0.heap.size A X) := Lib.hid (CL.step hsl hb0)
  have HW0 := Lib.hid hw0
  have C2 := Lib.hid (fun w h => rCheck_any A c X L w h hX)
  generalize hC : ckI X L = C at C2 hv
  have q0 : ((C : Int) != 0) = true := by simp [hv]
  clear hC hv
  have _u := And.intro hc (And.intro hX hbx)
  clear hw0 M0 hb0 hsl hc hX hbx _u
  go_enter Try.func4, Try.ntmps4
  go_upto_region 1 with fail
  rw [← HW0.out]
  clear HW0
  have dt0 := Mt_w0.out.cell 0 rfl
  have dt1 := Mt_w0.out.cell 1 rfl
  go_wp2_with fail
  refine (C2.out w0 Sx_w0.out).mono ?_
  rintro e w1 ⟨rfl, hb⟩
  have B_w1 : Hid (Below w.heap.size w w1) := Lib.hid (stepB B_w0.out hb)
  have Mt_w1 : Hid (BK 24 w1 (w.heap.size) [.slice A X.length c, .int .i64 L]) := Lib.hid (Mt_w0.out.step hb)
  have Sx_w1 : Hid (IL w1 w1.heap.size A X) := Lib.hid (CL.step Sx_w0.out hb)
  clear dt0 dt1
  clear B_w0 Mt_w0 Sx_w0
  clear hb
  go_wp2_with fail
  refine (HA.out w1).mono ?_
  rintro e w2 ⟨rfl, hb⟩
  have B_w2 : Hid (Below w.heap.size w w2) := Lib.hid (stepB B_w1.out hb)
  have Mt_w2 : Hid (BK 24 w2 (w.heap.size) [.slice A X.length c, .int .i64 L]) := Lib.hid (Mt_w1.out.step hb)
  have Sx_w2 : Hid (IL w2 w2.heap.size A X) := Lib.hid (CL.step Sx_w1.out hb)
  clear B_w1 Mt_w1 Sx_w1
  clear hb
  go_wp2_with fail
  go_ret
  exact ⟨rfl, B_w2.out⟩
set_option maxRecDepth 20000 in
set_option maxHeartbeats 4000000 in
theorem identTakes_good (A : Option Addr) (c : Nat) (X : List Int) (L : Int) (w : World) (hsl : IL w w.heap.size A X) (hc : X.length ≤ c) (hX : X.length ≤ 9223372036854775807) (hbx : ∀ x ∈ X, -9223372036854775808 ≤ x ∧ x ≤ 9223372036854775807) (hv : ckI X L = 0) :
    Calls Try.prog 4 #[pv A c X L] w fun e w' => e = .returned (.bool true) ∧ Below w.heap.size w w' := by
  have HA := Lib.hid (fun w => awake13_any w)
  obtain ⟨w0, hw0⟩ : ∃ w0, w0 = w.alloc (.cells #[.slice A X.length c, .int .i64 L] 24) := ⟨_, rfl⟩
  have M0 : BK 24 w0 w.heap.size [.slice A X.length c, .int .i64 L] := by rw [hw0]; exact BK.new w _ _
  have hb0 : Below w.heap.size w w0 := by rw [hw0]; exact below_new w _
  have B_w0 := Lib.hid hb0
  have Mt_w0 := Lib.hid M0
  have Sx_w0 : Hid (IL w0 w0.heap.size A X) := Lib.hid (CL.step hsl hb0)
  have HW0 := Lib.hid hw0
  have C2 := Lib.hid (fun w h => rCheck_any A c X L w h hX)
  have C3 := Lib.hid (fun w h => iTake_any A c X L w h hc hv)
  have C4 := Lib.hid (fun w h => rTake_any A c X L w h hc (by have := (ck_ok.1 hv).1; omega) (ck_ok.1 hv).2.2.1 (ck_ok.1 hv).2.2.2)
  have HY := Lib.hid (tkR_len hv)
  obtain ⟨r, hr⟩ : ∃ r, tkR X L = r := ⟨_, rfl⟩
  rw [hr] at C3 C4 HY
  clear hr
  obtain ⟨n, Y, M, z⟩ := r
  dsimp only at HY
  rw [hv] at C2
  clear hv
  have _u := And.intro hc (And.intro hX hbx)
  clear hw0 M0 hb0 hsl hc hX hbx _u
  go_enter Try.func4, Try.ntmps4
  go_upto_region 1 with fail
  rw [← HW0.out]
  clear HW0
  have dt0 := Mt_w0.out.cell 0 rfl
  have dt1 := Mt_w0.out.cell 1 rfl
  go_wp2_with fail
  refine (C2.out w0 Sx_w0.out).mono ?_
  rintro e w1 ⟨rfl, hb⟩
  have B_w1 : Hid (Below w.heap.size w w1) := Lib.hid (stepB B_w0.out hb)
  have Mt_w1 : Hid (BK 24 w1 (w.heap.size) [.slice A X.length c, .int .i64 L]) := Lib.hid (Mt_w0.out.step hb)
  have Sx_w1 : Hid (IL w1 w1.heap.size A X) := Lib.hid (CL.step Sx_w0.out hb)
  clear dt0 dt1
  clear B_w0 Mt_w0 Sx_w0
  clear hb
  have dt0 := Mt_w1.out.cell 0 rfl
  have dt1 := Mt_w1.out.cell 1 rfl
  go_wp2_with fail
  refine (C3.out w1 Sx_w1.out).mono ?_
  rintro e w2 ⟨A1, c1, rfl, _, hs1, _, hb⟩
  have B_w2 : Hid (Below w.heap.size w w2) := Lib.hid (stepB B_w1.out hb)
  have Mt_w2 : Hid (BK 24 w2 (w.heap.size) [.slice A X.length c, .int .i64 L]) := Lib.hid (Mt_w1.out.step hb)
  have Sx_w2 : Hid (IL w2 w2.heap.size A X) := Lib.hid (CL.step Sx_w1.out hb)
  clear dt0 dt1
  clear B_w1 Mt_w1 Sx_w1
  clear hb
  have Sa_w2 := Lib.hid (hs1)
  clear hs1
  have dt0 := Mt_w2.out.cell 0 rfl
  have dt1 := Mt_w2.out.cell 1 rfl
  go_wp2_with first | (refine wpList_store_all (by rfl) 24 (.tmp 4) (.tmp 17) rfl rfl (w2.heap.size) rfl [.slice A1 Y.length c1, .int .i64 M] rfl 24 [.slice none 0 0, .int .i64 0] (BK.new w2 _ _) infoP2 rfl (one2 _ _ _ _) ?_; intro w3 hM hP; have Ma_w3 : Hid (BK 24 w3 (w2.heap.size) [.slice A1 Y.length c1, .int .i64 M]) := Lib.hid hM; have Lt_a : Hid (w.heap.size < w2.heap.size) := Lib.hid Mt_w2.out.lt; have Za : Hid (w.heap.size ≤ w2.heap.size) := Lib.hid B_w2.out.size; have B_w3 : Hid (Below w.heap.size w w3) := Lib.hid (hP.below (stepB B_w2.out (below_new w2 _)) B_w2.out.size); have Mt_w3 : Hid (BK 24 w3 (w.heap.size) [.slice A X.length c, .int .i64 L]) := Lib.hid (hP.other (BK.alloc Mt_w2.out _) (Nat.ne_of_lt Mt_w2.out.lt)); have Sx_w3 : Hid (IL w3 w3.heap.size A X) := Lib.hid (CL.step Sx_w2.out (hP.below (below_new w2 _) (Nat.le_refl _))); have Sa_w3 : Hid (IL w3 w3.heap.size A1 Y) := Lib.hid (CL.step Sa_w2.out (hP.below (below_new w2 _) (Nat.le_refl _))); clear B_w2 Mt_w2 Sx_w2 Sa_w2 hM hP dt0 dt1; have dt0 := Mt_w3.out.cell 0 rfl; have dt1 := Mt_w3.out.cell 1 rfl)
  refine (C4.out w3 Sx_w3.out).mono ?_
  rintro e w4 ⟨A2, c2, rfl, _, hs2, _, hb⟩
  have B_w4 : Hid (Below w.heap.size w w4) := Lib.hid (stepB B_w3.out hb)
  have Mt_w4 : Hid (BK 24 w4 (w.heap.size) [.slice A X.length c, .int .i64 L]) := Lib.hid (Mt_w3.out.step hb)
  have Ma_w4 : Hid (BK 24 w4 (w2.heap.size) [.slice A1 Y.length c1, .int .i64 M]) := Lib.hid (Ma_w3.out.step hb)
  have Sx_w4 : Hid (IL w4 w4.heap.size A X) := Lib.hid (CL.step Sx_w3.out hb)
  have Sa_w4 : Hid (IL w4 w4.heap.size A1 Y) := Lib.hid (CL.step Sa_w3.out hb)
  clear dt0 dt1
  clear B_w3 Mt_w3 Ma_w3 Sx_w3 Sa_w3
  clear hb
  have Sb_w4 := Lib.hid (hs2)
  clear hs2
  go_wp2_with first | (refine wpList_store_all (by rfl) 24 (.tmp 7) (.tmp 23) rfl rfl (w4.heap.size) rfl [.slice A2 Y.length c2, .int .i64 M] rfl 24 [.slice none 0 0, .int .i64 0] (BK.new w4 _ _) infoP2 rfl (one2 _ _ _ _) ?_; intro w5 hM hP; have Mb_w5 : Hid (BK 24 w5 (w4.heap.size) [.slice A2 Y.length c2, .int .i64 M]) := Lib.hid hM; have Lt_b : Hid (w.heap.size < w4.heap.size) := Lib.hid Mt_w4.out.lt; have La_b : Hid (w2.heap.size < w4.heap.size) := Lib.hid Ma_w4.out.lt; have Zb : Hid (w.heap.size ≤ w4.heap.size) := Lib.hid B_w4.out.size; have B_w5 : Hid (Below w.heap.size w w5) := Lib.hid (hP.below (stepB B_w4.out (below_new w4 _)) B_w4.out.size); have Mt_w5 : Hid (BK 24 w5 (w.heap.size) [.slice A X.length c, .int .i64 L]) := Lib.hid (hP.other (BK.alloc Mt_w4.out _) (Nat.ne_of_lt Mt_w4.out.lt)); have Ma_w5 : Hid (BK 24 w5 (w2.heap.size) [.slice A1 Y.length c1, .int .i64 M]) := Lib.hid (hP.other (BK.alloc Ma_w4.out _) (Nat.ne_of_lt Ma_w4.out.lt)); have Sx_w5 : Hid (IL w5 w5.heap.size A X) := Lib.hid (CL.step Sx_w4.out (hP.below (below_new w4 _) (Nat.le_refl _))); have Sa_w5 : Hid (IL w5 w5.heap.size A1 Y) := Lib.hid (CL.step Sa_w4.out (hP.below (below_new w4 _) (Nat.le_refl _))); have Sb_w5 : Hid (IL w5 w5.heap.size A2 Y) := Lib.hid (CL.step Sb_w4.out (hP.below (below_new w4 _) (Nat.le_refl _))); clear B_w4 Mt_w4 Ma_w4 Sx_w4 Sa_w4 Sb_w4 hM hP)
  refine (HA.out w5).mono ?_
  rintro e w6 ⟨rfl, hb⟩
  have B_w6 : Hid (Below w.heap.size w w6) := Lib.hid (stepB B_w5.out hb)
  have Mt_w6 : Hid (BK 24 w6 (w.heap.size) [.slice A X.length c, .int .i64 L]) := Lib.hid (Mt_w5.out.step hb)
  have Ma_w6 : Hid (BK 24 w6 (w2.heap.size) [.slice A1 Y.length c1, .int .i64 M]) := Lib.hid (Ma_w5.out.step hb)
  have Mb_w6 : Hid (BK 24 w6 (w4.heap.size) [.slice A2 Y.length c2, .int .i64 M]) := Lib.hid (Mb_w5.out.step hb)
  have Sx_w6 : Hid (IL w6 w6.heap.size A X) := Lib.hid (CL.step Sx_w5.out hb)
  have Sa_w6 : Hid (IL w6 w6.heap.size A1 Y) := Lib.hid (CL.step Sa_w5.out hb)
  have Sb_w6 : Hid (IL w6 w6.heap.size A2 Y) := Lib.hid (CL.step Sb_w5.out hb)
  clear B_w5 Mt_w5 Ma_w5 Mb_w5 Sx_w5 Sa_w5 Sb_w5
  clear hb
  have da0 := Ma_w6.out.cell 0 rfl
  have da1 := Ma_w6.out.cell 1 rfl
  have db0 := Mb_w6.out.cell 0 rfl
  have db1 := Mb_w6.out.cell 1 rfl
  go_wp2_with fail
  refine (rSame_any A1 A2 c1 c2 Y Y M M w6 Sa_w6.out Sb_w6.out (by have := HY.out; omega) (by have := HY.out; omega)).mono ?_
  rintro e w7 ⟨he, hb⟩
  have B_w7 : Hid (Below w.heap.size w w7) := Lib.hid (stepB B_w6.out hb)
  have Mt_w7 : Hid (BK 24 w7 (w.heap.size) [.slice A X.length c, .int .i64 L]) := Lib.hid (Mt_w6.out.step hb)
  have Ma_w7 : Hid (BK 24 w7 (w2.heap.size) [.slice A1 Y.length c1, .int .i64 M]) := Lib.hid (Ma_w6.out.step hb)
  have Mb_w7 : Hid (BK 24 w7 (w4.heap.size) [.slice A2 Y.length c2, .int .i64 M]) := Lib.hid (Mb_w6.out.step hb)
  have Sx_w7 : Hid (IL w7 w7.heap.size A X) := Lib.hid (CL.step Sx_w6.out hb)
  have Sa_w7 : Hid (IL w7 w7.heap.size A1 Y) := Lib.hid (CL.step Sa_w6.out hb)
  have Sb_w7 : Hid (IL w7 w7.heap.size A2 Y) := Lib.hid (CL.step Sb_w6.out hb)
  clear da0 da1 db0 db1
  clear B_w6 Mt_w6 Ma_w6 Mb_w6 Sx_w6 Sa_w6 Sb_w6
  clear hb
  rw [decide_eq_true rfl] at he
  subst he
  go_wp2_with fail
  go_ret
  exact ⟨rfl, B_w7.out⟩
theorem identTakes_walk (A : Option Addr) (c : Nat) (X : List Int) (L : Int) (w : World) (hsl : IL w w.heap.size A X) (hc : X.length ≤ c) (hX : X.length ≤ 9223372036854775807) (hbx : ∀ x ∈ X, -9223372036854775808 ≤ x ∧ x ≤ 9223372036854775807) :
    Calls Try.prog 4 #[pv A c X L] w fun e w' => e = .returned (.bool true) ∧ Below w.heap.size w w' := by
  by_cases hv : ckI X L = 0
  · exact identTakes_good A c X L  w hsl hc hX hbx  hv
  · exact identTakes_bad A c X L  w hsl hc hX hbx  hv
theorem del_ok {X : List Int} {L n : Int} (h : ckI X L = 0) : ckI (delI X n) L = 0 :=
  ck_ok.2 ⟨by have := del_len X n; have := (ck_ok.1 h).1; omega, del_up (ck_ok.1 h).2.1, (ck_ok.1 h).2.2⟩
theorem not_del (X : List Int) (n : Int) : decide (n ∈ delI X n) = false := decide_eq_false (fun h => ((del_mem X n n).1 h).2 rfl)
theorem same_self (A A' : Option Addr) (c c' : Nat) (X : List Int) (L : Int) (w : World) (hs : IL w w.heap.size A X) (ht : IL w w.heap.size A' X) (hX : X.length ≤ 1000000) :
    Calls Try.prog 14 #[pv A c X L, pv A' c' X L] w fun e w' => e = .returned (.bool true) ∧ Below w.heap.size w w' := by
  have := rSame_any A A' c c' X X L L w hs ht (by omega) (by omega)
  rw [decide_eq_true rfl] at this
  exact this
set_option maxRecDepth 20000 in
set_option maxHeartbeats 4000000 in
theorem identFrees_bad (A : Option Addr) (c : Nat) (X : List Int) (L : Int) (n : Int) (w : World) (hsl : IL w w.heap.size A X) (hc : X.length ≤ c) (hX : X.length ≤ 9223372036854775807) (hbx : ∀ x ∈ X, -9223372036854775808 ≤ x ∧ x ≤ 9223372036854775807) (_hn1 : -9223372036854775808 ≤ n) (_hn2 : n ≤ 9223372036854775807) (hv : ckI X L ≠ 0) :
    Calls Try.prog 5 #[pv A c X L, .int .i64 n] w fun e w' => e = .returned (.bool true) ∧ Below w.heap.size w w' := by
  have HA := Lib.hid (fun w => awake13_any w)
  obtain ⟨w0, hw0⟩ : ∃ w0, w0 = w.alloc (.cells #[.slice A X.length c, .int .i64 L] 24) := ⟨_, rfl⟩
  have M0 : BK 24 w0 w.heap.size [.slice A X.length c, .int .i64 L] := by rw [hw0]; exact BK.new w _ _
  have hb0 : Below w.heap.size w w0 := by rw [hw0]; exact below_new w _
  have B_w0 := Lib.hid hb0
  have Mt_w0 := Lib.hid M0
  have Sx_w0 : Hid (IL w0 w0.heap.size A X) := Lib.hid (CL.step hsl hb0)
  have HW0 := Lib.hid hw0
  have C2 := Lib.hid (fun w h => rCheck_any A c X L w h hX)
  generalize hC : ckI X L = C at C2 hv
  have q0 : ((C : Int) != 0) = true := by simp [hv]
  clear hC hv
  have _u := And.intro hc (And.intro hX hbx)
  clear hw0 M0 hb0 hsl hc hX hbx _u
  go_enter Try.func5, Try.ntmps5
  go_upto_region 1 with fail
  rw [← HW0.out]
  clear HW0
  have dt0 := Mt_w0.out.cell 0 rfl
  have dt1 := Mt_w0.out.cell 1 rfl
  go_wp2_with fail
  refine (C2.out w0 Sx_w0.out).mono ?_
  rintro e w1 ⟨rfl, hb⟩
  have B_w1 : Hid (Below w.heap.size w w1) := Lib.hid (stepB B_w0.out hb)
  have Mt_w1 : Hid (BK 24 w1 (w.heap.size) [.slice A X.length c, .int .i64 L]) := Lib.hid (Mt_w0.out.step hb)
  have Sx_w1 : Hid (IL w1 w1.heap.size A X) := Lib.hid (CL.step Sx_w0.out hb)
  clear dt0 dt1
  clear B_w0 Mt_w0 Sx_w0
  clear hb
  go_wp2_with fail
  refine (HA.out w1).mono ?_
  rintro e w2 ⟨rfl, hb⟩
  have B_w2 : Hid (Below w.heap.size w w2) := Lib.hid (stepB B_w1.out hb)
  have Mt_w2 : Hid (BK 24 w2 (w.heap.size) [.slice A X.length c, .int .i64 L]) := Lib.hid (Mt_w1.out.step hb)
  have Sx_w2 : Hid (IL w2 w2.heap.size A X) := Lib.hid (CL.step Sx_w1.out hb)
  clear B_w1 Mt_w1 Sx_w1
  clear hb
  go_wp2_with fail
  go_ret
  exact ⟨rfl, B_w2.out⟩
set_option maxRecDepth 20000 in
set_option maxHeartbeats 4000000 in
theorem identFrees_good (A : Option Addr) (c : Nat) (X : List Int) (L : Int) (n : Int) (w : World) (hsl : IL w w.heap.size A X) (hc : X.length ≤ c) (hX : X.length ≤ 9223372036854775807) (hbx : ∀ x ∈ X, -9223372036854775808 ≤ x ∧ x ≤ 9223372036854775807) (hn1 : -9223372036854775808 ≤ n) (hn2 : n ≤ 9223372036854775807) (hv : ckI X L = 0) :
    Calls Try.prog 5 #[pv A c X L, .int .i64 n] w fun e w' => e = .returned (.bool true) ∧ Below w.heap.size w w' := by
  have HA := Lib.hid (fun w => awake13_any w)
  obtain ⟨w0, hw0⟩ : ∃ w0, w0 = w.alloc (.cells #[.slice A X.length c, .int .i64 L] 24) := ⟨_, rfl⟩
  have M0 : BK 24 w0 w.heap.size [.slice A X.length c, .int .i64 L] := by rw [hw0]; exact BK.new w _ _
  have hb0 : Below w.heap.size w w0 := by rw [hw0]; exact below_new w _
  have B_w0 := Lib.hid hb0
  have Mt_w0 := Lib.hid M0
  have Sx_w0 : Hid (IL w0 w0.heap.size A X) := Lib.hid (CL.step hsl hb0)
  have HW0 := Lib.hid hw0
  have C2 := Lib.hid (fun w h => rCheck_any A c X L w h hX)
  have C3 := Lib.hid (fun w h => iFree_any A c X L n w h hc hv hn1 hn2)
  have C4 := Lib.hid (fun w h => rFree_any A c X L n w h (by have := (ck_ok.1 hv).1; omega))
  have C5 := Lib.hid (fun A1 c1 A2 c2 w h1 h2 => same_self A1 A2 c1 c2 (delI X n) L w h1 h2 (by have := del_len X n; have := (ck_ok.1 hv).1; omega))
  have C6 := Lib.hid (fun w h => iHas_any A c X L n w h hc hv hn1 hn2)
  have C7 := Lib.hid (fun w h => rHas_any A c X L n w h hX)
  have C8 := Lib.hid (fun A1 c1 w h hc1 => iHas_any A1 c1 (delI X n) L n w h hc1 (del_ok hv) hn1 hn2)
  rw [not_del] at C8
  have C9 := Lib.hid (fun w h => iLeft_any A c X L w h hv)
  have C10 := Lib.hid (fun w => rLeft_any A c X L hX w)
  generalize delI X n = Y at C3 C4 C5 C8
  generalize decide (n ∈ X) = B at C3 C4 C6 C7
  clear hn1 hn2
  rw [hv] at C2
  clear hv
  have _u := And.intro hc (And.intro hX hbx)
  clear hw0 M0 hb0 hsl hc hX hbx _u
  go_enter Try.func5, Try.ntmps5
  go_upto_region 1 with fail
  rw [← HW0.out]
  clear HW0
  have dt0 := Mt_w0.out.cell 0 rfl
  have dt1 := Mt_w0.out.cell 1 rfl
  go_wp2_with fail
  refine (C2.out w0 Sx_w0.out).mono ?_
  rintro e w1 ⟨rfl, hb⟩
  have B_w1 : Hid (Below w.heap.size w w1) := Lib.hid (stepB B_w0.out hb)
  have Mt_w1 : Hid (BK 24 w1 (w.heap.size) [.slice A X.length c, .int .i64 L]) := Lib.hid (Mt_w0.out.step hb)
  have Sx_w1 : Hid (IL w1 w1.heap.size A X) := Lib.hid (CL.step Sx_w0.out hb)
  clear dt0 dt1
  clear B_w0 Mt_w0 Sx_w0
  clear hb
  have dt0 := Mt_w1.out.cell 0 rfl
  have dt1 := Mt_w1.out.cell 1 rfl
  go_wp2_with fail
  refine (C3.out w1 Sx_w1.out).mono ?_
  rintro e w2 ⟨A1, c1, rfl, hc1, hs1, _, hb⟩
  have B_w2 : Hid (Below w.heap.size w w2) := Lib.hid (stepB B_w1.out hb)
  have Mt_w2 : Hid (BK 24 w2 (w.heap.size) [.slice A X.length c, .int .i64 L]) := Lib.hid (Mt_w1.out.step hb)
  have Sx_w2 : Hid (IL w2 w2.heap.size A X) := Lib.hid (CL.step Sx_w1.out hb)
  clear dt0 dt1
  clear B_w1 Mt_w1 Sx_w1
  clear hb
  have Sa_w2 := Lib.hid (hs1)
  have HC1 := Lib.hid hc1
  clear hs1 hc1
  have dt0 := Mt_w2.out.cell 0 rfl
  have dt1 := Mt_w2.out.cell 1 rfl
  go_wp2_with first | (refine wpList_store_all (by rfl) 24 (.tmp 5) (.tmp 17) rfl rfl (w2.heap.size) rfl [.slice A1 Y.length c1, .int .i64 L] rfl 24 [.slice none 0 0, .int .i64 0] (BK.new w2 _ _) infoP2 rfl (one2 _ _ _ _) ?_; intro w3 hM hP; have Ma_w3 : Hid (BK 24 w3 (w2.heap.size) [.slice A1 Y.length c1, .int .i64 L]) := Lib.hid hM; have Lt_a : Hid (w.heap.size < w2.heap.size) := Lib.hid Mt_w2.out.lt; have Za : Hid (w.heap.size ≤ w2.heap.size) := Lib.hid B_w2.out.size; have B_w3 : Hid (Below w.heap.size w w3) := Lib.hid (hP.below (stepB B_w2.out (below_new w2 _)) B_w2.out.size); have Mt_w3 : Hid (BK 24 w3 (w.heap.size) [.slice A X.length c, .int .i64 L]) := Lib.hid (hP.other (BK.alloc Mt_w2.out _) (Nat.ne_of_lt Mt_w2.out.lt)); have Sx_w3 : Hid (IL w3 w3.heap.size A X) := Lib.hid (CL.step Sx_w2.out (hP.below (below_new w2 _) (Nat.le_refl _))); have Sa_w3 : Hid (IL w3 w3.heap.size A1 Y) := Lib.hid (CL.step Sa_w2.out (hP.below (below_new w2 _) (Nat.le_refl _))); clear B_w2 Mt_w2 Sx_w2 Sa_w2 hM hP dt0 dt1; have dt0 := Mt_w3.out.cell 0 rfl; have dt1 := Mt_w3.out.cell 1 rfl)
  refine (C4.out w3 Sx_w3.out).mono ?_
  rintro e w4 ⟨A2, c2, rfl, _, hs2, _, hb⟩
  have B_w4 : Hid (Below w.heap.size w w4) := Lib.hid (stepB B_w3.out hb)
  have Mt_w4 : Hid (BK 24 w4 (w.heap.size) [.slice A X.length c, .int .i64 L]) := Lib.hid (Mt_w3.out.step hb)
  have Ma_w4 : Hid (BK 24 w4 (w2.heap.size) [.slice A1 Y.length c1, .int .i64 L]) := Lib.hid (Ma_w3.out.step hb)
  have Sx_w4 : Hid (IL w4 w4.heap.size A X) := Lib.hid (CL.step Sx_w3.out hb)
  have Sa_w4 : Hid (IL w4 w4.heap.size A1 Y) := Lib.hid (CL.step Sa_w3.out hb)
  clear dt0 dt1
  clear B_w3 Mt_w3 Ma_w3 Sx_w3 Sa_w3
  clear hb
  have Sb_w4 := Lib.hid (hs2)
  clear hs2
  go_upto_region 5 with first | (refine wpList_store_all (by rfl) 24 (.tmp 7) (.tmp 23) rfl rfl (w4.heap.size) rfl [.slice A2 Y.length c2, .int .i64 L] rfl 24 [.slice none 0 0, .int .i64 0] (BK.new w4 _ _) infoP2 rfl (one2 _ _ _ _) ?_; intro w5 hM hP; have Mb_w5 : Hid (BK 24 w5 (w4.heap.size) [.slice A2 Y.length c2, .int .i64 L]) := Lib.hid hM; have Lt_b : Hid (w.heap.size < w4.heap.size) := Lib.hid Mt_w4.out.lt; have La_b : Hid (w2.heap.size < w4.heap.size) := Lib.hid Ma_w4.out.lt; have Zb : Hid (w.heap.size ≤ w4.heap.size) := Lib.hid B_w4.out.size; have B_w5 : Hid (Below w.heap.size w w5) := Lib.hid (hP.below (stepB B_w4.out (below_new w4 _)) B_w4.out.size); have Mt_w5 : Hid (BK 24 w5 (w.heap.size) [.slice A X.length c, .int .i64 L]) := Lib.hid (hP.other (BK.alloc Mt_w4.out _) (Nat.ne_of_lt Mt_w4.out.lt)); have Ma_w5 : Hid (BK 24 w5 (w2.heap.size) [.slice A1 Y.length c1, .int .i64 L]) := Lib.hid (hP.other (BK.alloc Ma_w4.out _) (Nat.ne_of_lt Ma_w4.out.lt)); have Sx_w5 : Hid (IL w5 w5.heap.size A X) := Lib.hid (CL.step Sx_w4.out (hP.below (below_new w4 _) (Nat.le_refl _))); have Sa_w5 : Hid (IL w5 w5.heap.size A1 Y) := Lib.hid (CL.step Sa_w4.out (hP.below (below_new w4 _) (Nat.le_refl _))); have Sb_w5 : Hid (IL w5 w5.heap.size A2 Y) := Lib.hid (CL.step Sb_w4.out (hP.below (below_new w4 _) (Nat.le_refl _))); clear B_w4 Mt_w4 Ma_w4 Sx_w4 Sa_w4 Sb_w4 hM hP)
  obtain ⟨x5v1, hx5v1⟩ : ∃ x5v1, x5v1 = World.drew w5 := ⟨_, rfl⟩
  have hbD : Below w5.heap.size w5 x5v1 := by rw [hx5v1]; exact (Below.refl _ _).drew
  have B_x5v1 : Hid (Below w.heap.size w x5v1) := Lib.hid (stepB B_w5.out hbD)
  have Mt_x5v1 : Hid (BK 24 x5v1 (w.heap.size) [.slice A X.length c, .int .i64 L]) := Lib.hid (Mt_w5.out.step hbD)
  have Ma_x5v1 : Hid (BK 24 x5v1 (w2.heap.size) [.slice A1 Y.length c1, .int .i64 L]) := Lib.hid (Ma_w5.out.step hbD)
  have Mb_x5v1 : Hid (BK 24 x5v1 (w4.heap.size) [.slice A2 Y.length c2, .int .i64 L]) := Lib.hid (Mb_w5.out.step hbD)
  have Sx_x5v1 : Hid (IL x5v1 x5v1.heap.size A X) := Lib.hid (CL.step Sx_w5.out hbD)
  have Sa_x5v1 : Hid (IL x5v1 x5v1.heap.size A1 Y) := Lib.hid (CL.step Sa_w5.out hbD)
  have Sb_x5v1 : Hid (IL x5v1 x5v1.heap.size A2 Y) := Lib.hid (CL.step Sb_w5.out hbD)
  clear B_w5 Mt_w5 Ma_w5 Mb_w5 Sx_w5 Sa_w5 Sb_w5
  have hbd : (fun w' => BK 24 w' (w.heap.size) [.slice A X.length c, .int .i64 L] ∧ BK 24 w' (w2.heap.size) [.slice A1 Y.length c1, .int .i64 L] ∧ BK 24 w' (w4.heap.size) [.slice A2 Y.length c2, .int .i64 L] ∧ IL w' w'.heap.size A X ∧ IL w' w'.heap.size A1 Y ∧ IL w' w'.heap.size A2 Y) (World.drew w5) := by rw [← hx5v1]; exact ⟨Mt_x5v1.out, Ma_x5v1.out, Mb_x5v1.out, Sx_x5v1.out, Sa_x5v1.out, Sb_x5v1.out⟩
  have hSD : (fun w' => BK 24 w' (w.heap.size) [.slice A X.length c, .int .i64 L] ∧ BK 24 w' (w2.heap.size) [.slice A1 Y.length c1, .int .i64 L] ∧ BK 24 w' (w4.heap.size) [.slice A2 Y.length c2, .int .i64 L] ∧ IL w' w'.heap.size A X ∧ IL w' w'.heap.size A1 Y ∧ IL w' w'.heap.size A2 Y) x5v1 := ⟨Mt_x5v1.out, Ma_x5v1.out, Mb_x5v1.out, Sx_x5v1.out, Sa_x5v1.out, Sb_x5v1.out⟩
  have HWD := Lib.hid hx5v1
  clear hx5v1 hbD
  refine wp_region_held_drew (S := fun w' => BK 24 w' (w.heap.size) [.slice A X.length c, .int .i64 L] ∧ BK 24 w' (w2.heap.size) [.slice A1 Y.length c1, .int .i64 L] ∧ BK 24 w' (w4.heap.size) [.slice A2 Y.length c2, .int .i64 L] ∧ IL w' w'.heap.size A X ∧ IL w' w'.heap.size A1 Y ∧ IL w' w'.heap.size A2 Y) (by kernel_rfl) hbd (fun hHeld => ?_)
  rw [← HWD.out]
  clear hHeld
  have hHeld := hSD
  clear hSD hbd HWD
  refine wpAnyH_ready (rs := [0]) (by kernel_rfl) (by simp) ?_
  refine (AllReadyH.cons (get_ops _ _ _ rfl) (fun K hK => ?_) AllReadyH.nil)
  go_simp
  go_at_call 9
  refine (HA.out x5v1).mono ?_
  rintro e x5v2 ⟨rfl, hb⟩
  have B_x5v2 : Hid (Below w.heap.size w x5v2) := Lib.hid (stepB B_x5v1.out hb)
  have Mt_x5v2 : Hid (BK 24 x5v2 (w.heap.size) [.slice A X.length c, .int .i64 L]) := Lib.hid (Mt_x5v1.out.step hb)
  have Ma_x5v2 : Hid (BK 24 x5v2 (w2.heap.size) [.slice A1 Y.length c1, .int .i64 L]) := Lib.hid (Ma_x5v1.out.step hb)
  have Mb_x5v2 : Hid (BK 24 x5v2 (w4.heap.size) [.slice A2 Y.length c2, .int .i64 L]) := Lib.hid (Mb_x5v1.out.step hb)
  have Sx_x5v2 : Hid (IL x5v2 x5v2.heap.size A X) := Lib.hid (CL.step Sx_x5v1.out hb)
  have Sa_x5v2 : Hid (IL x5v2 x5v2.heap.size A1 Y) := Lib.hid (CL.step Sa_x5v1.out hb)
  have Sb_x5v2 : Hid (IL x5v2 x5v2.heap.size A2 Y) := Lib.hid (CL.step Sb_x5v1.out hb)
  clear B_x5v1 Mt_x5v1 Ma_x5v1 Mb_x5v1 Sx_x5v1 Sa_x5v1 Sb_x5v1
  clear hHeld hb
  go_wp2_with fail
  refine hK.out _ _ ⟨Mt_x5v2.out, Ma_x5v2.out, Mb_x5v2.out, Sx_x5v2.out, Sa_x5v2.out, Sb_x5v2.out⟩ (fun hHeld => ?_)
  clear hK K
  try simp only [Act.put, List.setIfInBounds_toArray, List.set_cons_zero, List.set_cons_succ]
  refine wpAnyH_take (i := 1) (v := .bool true) (get_ops _ _ _ rfl) (by kernel_rfl) (by kernel_rfl) (by kernel_rfl) (fun _ _ _ h => h) (Or.inl ⟨by rfl, fun wS hSw => by (try dsimp only at hSw); go_simp⟩) hHeld ?_
  try simp only [Act.put, List.setIfInBounds_toArray, List.set_cons_zero, List.set_cons_succ]
  refine wpAnyH_take (i := 2) (v := .bool B) (get_ops _ _ _ rfl) (by kernel_rfl) (by kernel_rfl) (by kernel_rfl) (fun _ _ _ h => h) (Or.inl ⟨by rfl, fun wS hSw => by (try dsimp only at hSw); go_simp⟩) hHeld ?_
  try simp only [Act.put, List.setIfInBounds_toArray, List.set_cons_zero, List.set_cons_succ]
  refine wpAnyH_take (i := 3) (v := .bool B) (get_ops _ _ _ rfl) (by kernel_rfl) (by kernel_rfl) (by kernel_rfl) (fun _ _ _ h => h) (Or.inl ⟨by rfl, fun wS hSw => by (try dsimp only at hSw); go_simp⟩) hHeld ?_
  try simp only [Act.put, List.setIfInBounds_toArray, List.set_cons_zero, List.set_cons_succ]
  refine wpAnyH_take (i := 4) (v := .bool true) (get_ops _ _ _ rfl) (by kernel_rfl) (by kernel_rfl) (by kernel_rfl) (fun _ _ _ h => h) (Or.inl ⟨by rfl, fun wS hSw => by (try dsimp only at hSw); go_simp⟩) hHeld ?_
  try simp only [Act.put, List.setIfInBounds_toArray, List.set_cons_zero, List.set_cons_succ]
  refine wpAnyH_take (i := 5) (v := .bool true) (get_ops _ _ _ rfl) (by kernel_rfl) (by kernel_rfl) (by kernel_rfl) (fun _ _ _ h => h) (Or.inl ⟨by rfl, fun wS hSw => by (try dsimp only at hSw); go_simp⟩) hHeld ?_
  try simp only [Act.put, List.setIfInBounds_toArray, List.set_cons_zero, List.set_cons_succ]
  refine wpAnyH_take (i := 6) (v := .bool true) (get_ops _ _ _ rfl) (by kernel_rfl) (by kernel_rfl) (by kernel_rfl) (fun _ _ _ h => h) (Or.inl ⟨by rfl, fun wS hSw => by (try dsimp only at hSw); go_simp⟩) hHeld ?_
  try simp only [Act.put, List.setIfInBounds_toArray, List.set_cons_zero, List.set_cons_succ]
  refine wpAnyH_take (i := 7) (v := .agg [.slice A1 Y.length c1, .int .i64 L].toArray) (get_ops _ _ _ rfl) (by kernel_rfl) (by kernel_rfl) (by kernel_rfl) (fun _ _ _ h => h) (Or.inl ⟨by rfl, fun wS hSw => by (try dsimp only at hSw); exact exec_load 24 _ rfl ⟨(w2.heap.size), 0, none⟩ (by go_simp) _ (run_load_all hSw.2.1 Try.underlying24 rfl infoP2)⟩) hHeld ?_
  try simp only [Act.put, List.setIfInBounds_toArray, List.set_cons_zero, List.set_cons_succ]
  refine wpAnyH_take (i := 8) (v := .agg [.slice A2 Y.length c2, .int .i64 L].toArray) (get_ops _ _ _ rfl) (by kernel_rfl) (by kernel_rfl) (by kernel_rfl) (fun _ _ _ h => h) (Or.inl ⟨by rfl, fun wS hSw => by (try dsimp only at hSw); exact exec_load 24 _ rfl ⟨(w4.heap.size), 0, none⟩ (by go_simp) _ (run_load_all hSw.2.2.1 Try.underlying24 rfl infoP2)⟩) hHeld ?_
  try simp only [Act.put, List.setIfInBounds_toArray, List.set_cons_zero, List.set_cons_succ]
  refine wpAnyH_ready (rs := [9]) (by kernel_rfl) (by simp) ?_
  refine (AllReadyH.cons (get_ops _ _ _ rfl) (fun K hK => ?_) AllReadyH.nil)
  go_simp
  go_at_call 14
  refine (C5.out A1 c1 A2 c2 x5v2 Sa_x5v2.out Sb_x5v2.out).mono ?_
  rintro e x5v3 ⟨rfl, hb⟩
  have B_x5v3 : Hid (Below w.heap.size w x5v3) := Lib.hid (stepB B_x5v2.out hb)
  have Mt_x5v3 : Hid (BK 24 x5v3 (w.heap.size) [.slice A X.length c, .int .i64 L]) := Lib.hid (Mt_x5v2.out.step hb)
  have Ma_x5v3 : Hid (BK 24 x5v3 (w2.heap.size) [.slice A1 Y.length c1, .int .i64 L]) := Lib.hid (Ma_x5v2.out.step hb)
  have Mb_x5v3 : Hid (BK 24 x5v3 (w4.heap.size) [.slice A2 Y.length c2, .int .i64 L]) := Lib.hid (Mb_x5v2.out.step hb)
  have Sx_x5v3 : Hid (IL x5v3 x5v3.heap.size A X) := Lib.hid (CL.step Sx_x5v2.out hb)
  have Sa_x5v3 : Hid (IL x5v3 x5v3.heap.size A1 Y) := Lib.hid (CL.step Sa_x5v2.out hb)
  have Sb_x5v3 : Hid (IL x5v3 x5v3.heap.size A2 Y) := Lib.hid (CL.step Sb_x5v2.out hb)
  clear B_x5v2 Mt_x5v2 Ma_x5v2 Mb_x5v2 Sx_x5v2 Sa_x5v2 Sb_x5v2
  clear hHeld hb
  go_wp2_with fail
  refine hK.out _ _ ⟨Mt_x5v3.out, Ma_x5v3.out, Mb_x5v3.out, Sx_x5v3.out, Sa_x5v3.out, Sb_x5v3.out⟩ (fun hHeld => ?_)
  clear hK K
  try simp only [Act.put, List.setIfInBounds_toArray, List.set_cons_zero, List.set_cons_succ]
  refine wpAnyH_take (i := 10) (v := .bool true) (get_ops _ _ _ rfl) (by kernel_rfl) (by kernel_rfl) (by kernel_rfl) (fun _ _ _ h => h) (Or.inl ⟨by rfl, fun wS hSw => by (try dsimp only at hSw); go_simp⟩) hHeld ?_
  try simp only [Act.put, List.setIfInBounds_toArray, List.set_cons_zero, List.set_cons_succ]
  refine wpAnyH_take (i := 11) (v := .bool true) (get_ops _ _ _ rfl) (by kernel_rfl) (by kernel_rfl) (by kernel_rfl) (fun _ _ _ h => h) (Or.inl ⟨by rfl, fun wS hSw => by (try dsimp only at hSw); go_simp⟩) hHeld ?_
  try simp only [Act.put, List.setIfInBounds_toArray, List.set_cons_zero, List.set_cons_succ]
  refine wpAnyH_take (i := 12) (v := .agg [.slice A X.length c, .int .i64 L].toArray) (get_ops _ _ _ rfl) (by kernel_rfl) (by kernel_rfl) (by kernel_rfl) (fun _ _ _ h => h) (Or.inl ⟨by rfl, fun wS hSw => by (try dsimp only at hSw); exact exec_load 24 _ rfl ⟨(w.heap.size), 0, none⟩ (by go_simp) _ (run_load_all hSw.1 Try.underlying24 rfl infoP2)⟩) hHeld ?_
  try simp only [Act.put, List.setIfInBounds_toArray, List.set_cons_zero, List.set_cons_succ]
  refine wpAnyH_take (i := 13) (v := .int .i64 n) (get_ops _ _ _ rfl) (by kernel_rfl) (by kernel_rfl) (by kernel_rfl) (fun _ _ _ h => h) (Or.inl ⟨by rfl, fun wS hSw => by (try dsimp only at hSw); go_simp⟩) hHeld ?_
  try simp only [Act.put, List.setIfInBounds_toArray, List.set_cons_zero, List.set_cons_succ]
  refine wpAnyH_take (i := 15) (v := .agg [.slice A X.length c, .int .i64 L].toArray) (get_ops _ _ _ rfl) (by kernel_rfl) (by kernel_rfl) (by kernel_rfl) (fun _ _ _ h => h) (Or.inl ⟨by rfl, fun wS hSw => by (try dsimp only at hSw); exact exec_load 24 _ rfl ⟨(w.heap.size), 0, none⟩ (by go_simp) _ (run_load_all hSw.1 Try.underlying24 rfl infoP2)⟩) hHeld ?_
  try simp only [Act.put, List.setIfInBounds_toArray, List.set_cons_zero, List.set_cons_succ]
  refine wpAnyH_take (i := 16) (v := .int .i64 n) (get_ops _ _ _ rfl) (by kernel_rfl) (by kernel_rfl) (by kernel_rfl) (fun _ _ _ h => h) (Or.inl ⟨by rfl, fun wS hSw => by (try dsimp only at hSw); go_simp⟩) hHeld ?_
  try simp only [Act.put, List.setIfInBounds_toArray, List.set_cons_zero, List.set_cons_succ]
  refine wpAnyH_ready (rs := [14]) (by kernel_rfl) (by simp) ?_
  refine (AllReadyH.cons (get_ops _ _ _ rfl) (fun K hK => ?_) AllReadyH.nil)
  go_simp
  go_at_call 17
  refine (C6.out x5v3 Sx_x5v3.out).mono ?_
  rintro e x5v4 ⟨rfl, hb⟩
  have B_x5v4 : Hid (Below w.heap.size w x5v4) := Lib.hid (stepB B_x5v3.out hb)
  have Mt_x5v4 : Hid (BK 24 x5v4 (w.heap.size) [.slice A X.length c, .int .i64 L]) := Lib.hid (Mt_x5v3.out.step hb)
  have Ma_x5v4 : Hid (BK 24 x5v4 (w2.heap.size) [.slice A1 Y.length c1, .int .i64 L]) := Lib.hid (Ma_x5v3.out.step hb)
  have Mb_x5v4 : Hid (BK 24 x5v4 (w4.heap.size) [.slice A2 Y.length c2, .int .i64 L]) := Lib.hid (Mb_x5v3.out.step hb)
  have Sx_x5v4 : Hid (IL x5v4 x5v4.heap.size A X) := Lib.hid (CL.step Sx_x5v3.out hb)
  have Sa_x5v4 : Hid (IL x5v4 x5v4.heap.size A1 Y) := Lib.hid (CL.step Sa_x5v3.out hb)
  have Sb_x5v4 : Hid (IL x5v4 x5v4.heap.size A2 Y) := Lib.hid (CL.step Sb_x5v3.out hb)
  clear B_x5v3 Mt_x5v3 Ma_x5v3 Mb_x5v3 Sx_x5v3 Sa_x5v3 Sb_x5v3
  clear hHeld hb
  go_wp2_with fail
  refine hK.out _ _ ⟨Mt_x5v4.out, Ma_x5v4.out, Mb_x5v4.out, Sx_x5v4.out, Sa_x5v4.out, Sb_x5v4.out⟩ (fun hHeld => ?_)
  clear hK K
  try simp only [Act.put, List.setIfInBounds_toArray, List.set_cons_zero, List.set_cons_succ]
  refine wpAnyH_ready (rs := [17]) (by kernel_rfl) (by simp) ?_
  refine (AllReadyH.cons (get_ops _ _ _ rfl) (fun K hK => ?_) AllReadyH.nil)
  go_simp
  go_at_call 18
  refine (C7.out x5v4 Sx_x5v4.out).mono ?_
  rintro e x5v5 ⟨rfl, hb⟩
  have B_x5v5 : Hid (Below w.heap.size w x5v5) := Lib.hid (stepB B_x5v4.out hb)
  have Mt_x5v5 : Hid (BK 24 x5v5 (w.heap.size) [.slice A X.length c, .int .i64 L]) := Lib.hid (Mt_x5v4.out.step hb)
  have Ma_x5v5 : Hid (BK 24 x5v5 (w2.heap.size) [.slice A1 Y.length c1, .int .i64 L]) := Lib.hid (Ma_x5v4.out.step hb)
  have Mb_x5v5 : Hid (BK 24 x5v5 (w4.heap.size) [.slice A2 Y.length c2, .int .i64 L]) := Lib.hid (Mb_x5v4.out.step hb)
  have Sx_x5v5 : Hid (IL x5v5 x5v5.heap.size A X) := Lib.hid (CL.step Sx_x5v4.out hb)
  have Sa_x5v5 : Hid (IL x5v5 x5v5.heap.size A1 Y) := Lib.hid (CL.step Sa_x5v4.out hb)
  have Sb_x5v5 : Hid (IL x5v5 x5v5.heap.size A2 Y) := Lib.hid (CL.step Sb_x5v4.out hb)
  clear B_x5v4 Mt_x5v4 Ma_x5v4 Mb_x5v4 Sx_x5v4 Sa_x5v4 Sb_x5v4
  clear hHeld hb
  go_wp2_with fail
  refine hK.out _ _ ⟨Mt_x5v5.out, Ma_x5v5.out, Mb_x5v5.out, Sx_x5v5.out, Sa_x5v5.out, Sb_x5v5.out⟩ (fun hHeld => ?_)
  clear hK K
  try simp only [Act.put, List.setIfInBounds_toArray, List.set_cons_zero, List.set_cons_succ]
  refine wpAnyH_take (i := 18) (v := .bool true) (get_ops _ _ _ rfl) (by kernel_rfl) (by kernel_rfl) (by kernel_rfl) (fun _ _ _ h => h) (Or.inl ⟨by rfl, fun wS hSw => by (try dsimp only at hSw); go_simp⟩) hHeld ?_
  try simp only [Act.put, List.setIfInBounds_toArray, List.set_cons_zero, List.set_cons_succ]
  refine wpAnyH_take (i := 19) (v := .bool true) (get_ops _ _ _ rfl) (by kernel_rfl) (by kernel_rfl) (by kernel_rfl) (fun _ _ _ h => h) (Or.inl ⟨by rfl, fun wS hSw => by (try dsimp only at hSw); go_simp⟩) hHeld ?_
  try simp only [Act.put, List.setIfInBounds_toArray, List.set_cons_zero, List.set_cons_succ]
  refine wpAnyH_take (i := 20) (v := .bool true) (get_ops _ _ _ rfl) (by kernel_rfl) (by kernel_rfl) (by kernel_rfl) (fun _ _ _ h => h) (Or.inl ⟨by rfl, fun wS hSw => by (try dsimp only at hSw); go_simp⟩) hHeld ?_
  try simp only [Act.put, List.setIfInBounds_toArray, List.set_cons_zero, List.set_cons_succ]
  refine wpAnyH_take (i := 21) (v := .agg [.slice A1 Y.length c1, .int .i64 L].toArray) (get_ops _ _ _ rfl) (by kernel_rfl) (by kernel_rfl) (by kernel_rfl) (fun _ _ _ h => h) (Or.inl ⟨by rfl, fun wS hSw => by (try dsimp only at hSw); exact exec_load 24 _ rfl ⟨(w2.heap.size), 0, none⟩ (by go_simp) _ (run_load_all hSw.2.1 Try.underlying24 rfl infoP2)⟩) hHeld ?_
  try simp only [Act.put, List.setIfInBounds_toArray, List.set_cons_zero, List.set_cons_succ]
  refine wpAnyH_take (i := 22) (v := .int .i64 n) (get_ops _ _ _ rfl) (by kernel_rfl) (by kernel_rfl) (by kernel_rfl) (fun _ _ _ h => h) (Or.inl ⟨by rfl, fun wS hSw => by (try dsimp only at hSw); go_simp⟩) hHeld ?_
  try simp only [Act.put, List.setIfInBounds_toArray, List.set_cons_zero, List.set_cons_succ]
  refine wpAnyH_ready (rs := [23]) (by kernel_rfl) (by simp) ?_
  refine (AllReadyH.cons (get_ops _ _ _ rfl) (fun K hK => ?_) AllReadyH.nil)
  go_simp
  go_at_call 17
  refine (C8.out A1 c1 x5v5 Sa_x5v5.out HC1.out).mono ?_
  rintro e x5v6 ⟨rfl, hb⟩
  have B_x5v6 : Hid (Below w.heap.size w x5v6) := Lib.hid (stepB B_x5v5.out hb)
  have Mt_x5v6 : Hid (BK 24 x5v6 (w.heap.size) [.slice A X.length c, .int .i64 L]) := Lib.hid (Mt_x5v5.out.step hb)
  have Ma_x5v6 : Hid (BK 24 x5v6 (w2.heap.size) [.slice A1 Y.length c1, .int .i64 L]) := Lib.hid (Ma_x5v5.out.step hb)
  have Mb_x5v6 : Hid (BK 24 x5v6 (w4.heap.size) [.slice A2 Y.length c2, .int .i64 L]) := Lib.hid (Mb_x5v5.out.step hb)
  have Sx_x5v6 : Hid (IL x5v6 x5v6.heap.size A X) := Lib.hid (CL.step Sx_x5v5.out hb)
  have Sa_x5v6 : Hid (IL x5v6 x5v6.heap.size A1 Y) := Lib.hid (CL.step Sa_x5v5.out hb)
  have Sb_x5v6 : Hid (IL x5v6 x5v6.heap.size A2 Y) := Lib.hid (CL.step Sb_x5v5.out hb)
  clear B_x5v5 Mt_x5v5 Ma_x5v5 Mb_x5v5 Sx_x5v5 Sa_x5v5 Sb_x5v5
  clear hHeld hb
  go_wp2_with fail
  refine hK.out _ _ ⟨Mt_x5v6.out, Ma_x5v6.out, Mb_x5v6.out, Sx_x5v6.out, Sa_x5v6.out, Sb_x5v6.out⟩ (fun hHeld => ?_)
  clear hK K
  try simp only [Act.put, List.setIfInBounds_toArray, List.set_cons_zero, List.set_cons_succ]
  refine wpAnyH_take (i := 24) (v := .bool true) (get_ops _ _ _ rfl) (by kernel_rfl) (by kernel_rfl) (by kernel_rfl) (fun _ _ _ h => h) (Or.inl ⟨by rfl, fun wS hSw => by (try dsimp only at hSw); go_simp⟩) hHeld ?_
  try simp only [Act.put, List.setIfInBounds_toArray, List.set_cons_zero, List.set_cons_succ]
  refine wpAnyH_take (i := 25) (v := .bool true) (get_ops _ _ _ rfl) (by kernel_rfl) (by kernel_rfl) (by kernel_rfl) (fun _ _ _ h => h) (Or.inl ⟨by rfl, fun wS hSw => by (try dsimp only at hSw); go_simp⟩) hHeld ?_
  try simp only [Act.put, List.setIfInBounds_toArray, List.set_cons_zero, List.set_cons_succ]
  refine wpAnyH_take (i := 26) (v := .bool true) (get_ops _ _ _ rfl) (by kernel_rfl) (by kernel_rfl) (by kernel_rfl) (fun _ _ _ h => h) (Or.inl ⟨by rfl, fun wS hSw => by (try dsimp only at hSw); go_simp⟩) hHeld ?_
  try simp only [Act.put, List.setIfInBounds_toArray, List.set_cons_zero, List.set_cons_succ]
  refine wpAnyH_take (i := 27) (v := .agg [.slice A X.length c, .int .i64 L].toArray) (get_ops _ _ _ rfl) (by kernel_rfl) (by kernel_rfl) (by kernel_rfl) (fun _ _ _ h => h) (Or.inl ⟨by rfl, fun wS hSw => by (try dsimp only at hSw); exact exec_load 24 _ rfl ⟨(w.heap.size), 0, none⟩ (by go_simp) _ (run_load_all hSw.1 Try.underlying24 rfl infoP2)⟩) hHeld ?_
  try simp only [Act.put, List.setIfInBounds_toArray, List.set_cons_zero, List.set_cons_succ]
  refine wpAnyH_take (i := 29) (v := .agg [.slice A X.length c, .int .i64 L].toArray) (get_ops _ _ _ rfl) (by kernel_rfl) (by kernel_rfl) (by kernel_rfl) (fun _ _ _ h => h) (Or.inl ⟨by rfl, fun wS hSw => by (try dsimp only at hSw); exact exec_load 24 _ rfl ⟨(w.heap.size), 0, none⟩ (by go_simp) _ (run_load_all hSw.1 Try.underlying24 rfl infoP2)⟩) hHeld ?_
  try simp only [Act.put, List.setIfInBounds_toArray, List.set_cons_zero, List.set_cons_succ]
  refine wpAnyH_ready (rs := [28]) (by kernel_rfl) (by simp) ?_
  refine (AllReadyH.cons (get_ops _ _ _ rfl) (fun K hK => ?_) AllReadyH.nil)
  go_simp
  go_at_call 19
  refine (C9.out x5v6 Sx_x5v6.out).mono ?_
  rintro e x5v7 ⟨rfl, hb⟩
  have B_x5v7 : Hid (Below w.heap.size w x5v7) := Lib.hid (stepB B_x5v6.out hb)
  have Mt_x5v7 : Hid (BK 24 x5v7 (w.heap.size) [.slice A X.length c, .int .i64 L]) := Lib.hid (Mt_x5v6.out.step hb)
  have Ma_x5v7 : Hid (BK 24 x5v7 (w2.heap.size) [.slice A1 Y.length c1, .int .i64 L]) := Lib.hid (Ma_x5v6.out.step hb)
  have Mb_x5v7 : Hid (BK 24 x5v7 (w4.heap.size) [.slice A2 Y.length c2, .int .i64 L]) := Lib.hid (Mb_x5v6.out.step hb)
  have Sx_x5v7 : Hid (IL x5v7 x5v7.heap.size A X) := Lib.hid (CL.step Sx_x5v6.out hb)
  have Sa_x5v7 : Hid (IL x5v7 x5v7.heap.size A1 Y) := Lib.hid (CL.step Sa_x5v6.out hb)
  have Sb_x5v7 : Hid (IL x5v7 x5v7.heap.size A2 Y) := Lib.hid (CL.step Sb_x5v6.out hb)
  clear B_x5v6 Mt_x5v6 Ma_x5v6 Mb_x5v6 Sx_x5v6 Sa_x5v6 Sb_x5v6
  clear hHeld hb
  go_wp2_with fail
  refine hK.out _ _ ⟨Mt_x5v7.out, Ma_x5v7.out, Mb_x5v7.out, Sx_x5v7.out, Sa_x5v7.out, Sb_x5v7.out⟩ (fun hHeld => ?_)
  clear hK K
  try simp only [Act.put, List.setIfInBounds_toArray, List.set_cons_zero, List.set_cons_succ]
  refine wpAnyH_ready (rs := [30]) (by kernel_rfl) (by simp) ?_
  refine (AllReadyH.cons (get_ops _ _ _ rfl) (fun K hK => ?_) AllReadyH.nil)
  go_simp
  go_at_call 20
  refine (C10.out x5v7).mono ?_
  rintro e x5v8 ⟨rfl, hb⟩
  have B_x5v8 : Hid (Below w.heap.size w x5v8) := Lib.hid (stepB B_x5v7.out hb)
  have Mt_x5v8 : Hid (BK 24 x5v8 (w.heap.size) [.slice A X.length c, .int .i64 L]) := Lib.hid (Mt_x5v7.out.step hb)
  have Ma_x5v8 : Hid (BK 24 x5v8 (w2.heap.size) [.slice A1 Y.length c1, .int .i64 L]) := Lib.hid (Ma_x5v7.out.step hb)
  have Mb_x5v8 : Hid (BK 24 x5v8 (w4.heap.size) [.slice A2 Y.length c2, .int .i64 L]) := Lib.hid (Mb_x5v7.out.step hb)
  have Sx_x5v8 : Hid (IL x5v8 x5v8.heap.size A X) := Lib.hid (CL.step Sx_x5v7.out hb)
  have Sa_x5v8 : Hid (IL x5v8 x5v8.heap.size A1 Y) := Lib.hid (CL.step Sa_x5v7.out hb)
  have Sb_x5v8 : Hid (IL x5v8 x5v8.heap.size A2 Y) := Lib.hid (CL.step Sb_x5v7.out hb)
  clear B_x5v7 Mt_x5v7 Ma_x5v7 Mb_x5v7 Sx_x5v7 Sa_x5v7 Sb_x5v7
  clear hHeld hb
  go_wp2_with fail
  refine hK.out _ _ ⟨Mt_x5v8.out, Ma_x5v8.out, Mb_x5v8.out, Sx_x5v8.out, Sa_x5v8.out, Sb_x5v8.out⟩ (fun hHeld => ?_)
  clear hK K
  try simp only [Act.put, List.setIfInBounds_toArray, List.set_cons_zero, List.set_cons_succ]
  refine wpAnyH_take (i := 31) (v := .bool true) (get_ops _ _ _ rfl) (by kernel_rfl) (by kernel_rfl) (by kernel_rfl) (fun _ _ _ h => h) (Or.inl ⟨by rfl, fun wS hSw => by (try dsimp only at hSw); go_simp⟩) hHeld ?_
  try simp only [Act.put, List.setIfInBounds_toArray, List.set_cons_zero, List.set_cons_succ]
  refine wpAnyH_take (i := 32) (v := .bool true) (get_ops _ _ _ rfl) (by kernel_rfl) (by kernel_rfl) (by kernel_rfl) (fun _ _ _ h => h) (Or.inl ⟨by rfl, fun wS hSw => by (try dsimp only at hSw); go_simp⟩) hHeld ?_
  try simp only [Act.put, List.setIfInBounds_toArray, List.set_cons_zero, List.set_cons_succ]
  refine wpAnyH_take (i := 33) (v := .bool true) (get_ops _ _ _ rfl) (by kernel_rfl) (by kernel_rfl) (by kernel_rfl) (fun _ _ _ h => h) (Or.inl ⟨by rfl, fun wS hSw => by (try dsimp only at hSw); go_simp⟩) hHeld ?_
  try simp only [Act.put, List.setIfInBounds_toArray, List.set_cons_zero, List.set_cons_succ]
  refine wpAnyH_done (by kernel_rfl) ?_ _
  go_wp2_with fail
  go_ret
  exact ⟨rfl, B_x5v8.out⟩
theorem identFrees_walk (A : Option Addr) (c : Nat) (X : List Int) (L : Int) (n : Int) (w : World) (hsl : IL w w.heap.size A X) (hc : X.length ≤ c) (hX : X.length ≤ 9223372036854775807) (hbx : ∀ x ∈ X, -9223372036854775808 ≤ x ∧ x ≤ 9223372036854775807) (hn1 : -9223372036854775808 ≤ n) (hn2 : n ≤ 9223372036854775807) :
    Calls Try.prog 5 #[pv A c X L, .int .i64 n] w fun e w' => e = .returned (.bool true) ∧ Below w.heap.size w w' := by
  by_cases hv : ckI X L = 0
  · exact identFrees_good A c X L n w hsl hc hX hbx hn1 hn2 hv
  · exact identFrees_bad A c X L n w hsl hc hX hbx hn1 hn2 hv
theorem tk_ok {X : List Int} {L : Int} (h : ckI X L = 0) (h32 : X.length < 32) : tkI X L ∉ X ∧ 1 ≤ tkI X L ∧ tkI X L ≤ 65535 ∧ ckI (insI X (tkI X L)) (tkI X L) = 0 := by
  obtain ⟨h1, h2, h3, h4⟩ := ck_ok.1 h
  have hn := tk_new h32 h3 h4
  have hr := tk_range (X := X) h3 h4
  exact ⟨hn, hr.1, hr.2, ck_ok.2 ⟨by rw [ins_len]; omega, ins_up h2 (by omega) hr.2 hn, by omega, hr.2⟩⟩
theorem tkR_part {X : List Int} {L : Int} (h32 : X.length < 32) : tkR X L = (tkI X L, insI X (tkI X L), tkI X L, 0) := by unfold tkR; rw [if_neg (by omega)]
theorem tkR_full {X : List Int} {L : Int} (h32 : X.length = 32) : tkR X L = (0, [], 0, 6) := by unfold tkR; rw [if_pos (by omega)]
theorem ints_self (A A' : Option Addr) (c c' : Nat) (X : List Int) (w : World) (hs : IL w w.heap.size A X) (ht : IL w w.heap.size A' X) (hX : X.length ≤ 9223372036854775807) :
    Calls Try.prog 21 #[.slice A X.length c, .slice A' X.length c'] w fun e w' => e = .returned (.bool true) ∧ Below w.heap.size w w' := by
  have := rInts_any A A' c c' X X w hs ht hX hX
  rw [decide_eq_true rfl] at this
  exact this
set_option maxRecDepth 20000 in
set_option maxHeartbeats 4000000 in
theorem identNew_bad (A : Option Addr) (c : Nat) (X : List Int) (L : Int) (w : World) (hsl : IL w w.heap.size A X) (hc : X.length ≤ c) (hX : X.length ≤ 9223372036854775807) (hbx : ∀ x ∈ X, -9223372036854775808 ≤ x ∧ x ≤ 9223372036854775807) (hv : ckI X L ≠ 0) :
    Calls Try.prog 6 #[pv A c X L] w fun e w' => e = .returned (.bool true) ∧ Below w.heap.size w w' := by
  have HA := Lib.hid (fun w => awake13_any w)
  obtain ⟨w0, hw0⟩ : ∃ w0, w0 = w.alloc (.cells #[.slice A X.length c, .int .i64 L] 24) := ⟨_, rfl⟩
  have M0 : BK 24 w0 w.heap.size [.slice A X.length c, .int .i64 L] := by rw [hw0]; exact BK.new w _ _
  have hb0 : Below w.heap.size w w0 := by rw [hw0]; exact below_new w _
  have B_w0 := Lib.hid hb0
  have Mt_w0 := Lib.hid M0
  have Sx_w0 : Hid (IL w0 w0.heap.size A X) := Lib.hid (CL.step hsl hb0)
  have HW0 := Lib.hid hw0
  have C2 := Lib.hid (fun w h => rCheck_any A c X L w h hX)
  generalize hC : ckI X L = C at C2 hv
  have q0 : ((C : Int) != 0) = true := by simp [hv]
  clear hC hv
  have _u := And.intro hc (And.intro hX hbx)
  clear hw0 M0 hb0 hsl hc hX hbx _u
  go_enter Try.func6, Try.ntmps6
  go_upto_region 1 with fail
  rw [← HW0.out]
  clear HW0
  have dt0 := Mt_w0.out.cell 0 rfl
  have dt1 := Mt_w0.out.cell 1 rfl
  go_wp2_with fail
  refine (C2.out w0 Sx_w0.out).mono ?_
  rintro e w1 ⟨rfl, hb⟩
  have B_w1 : Hid (Below w.heap.size w w1) := Lib.hid (stepB B_w0.out hb)
  have Mt_w1 : Hid (BK 24 w1 (w.heap.size) [.slice A X.length c, .int .i64 L]) := Lib.hid (Mt_w0.out.step hb)
  have Sx_w1 : Hid (IL w1 w1.heap.size A X) := Lib.hid (CL.step Sx_w0.out hb)
  clear dt0 dt1
  clear B_w0 Mt_w0 Sx_w0
  clear hb
  go_wp2_with fail
  refine (HA.out w1).mono ?_
  rintro e w2 ⟨rfl, hb⟩
  have B_w2 : Hid (Below w.heap.size w w2) := Lib.hid (stepB B_w1.out hb)
  have Mt_w2 : Hid (BK 24 w2 (w.heap.size) [.slice A X.length c, .int .i64 L]) := Lib.hid (Mt_w1.out.step hb)
  have Sx_w2 : Hid (IL w2 w2.heap.size A X) := Lib.hid (CL.step Sx_w1.out hb)
  clear B_w1 Mt_w1 Sx_w1
  clear hb
  go_wp2_with fail
  go_ret
  exact ⟨rfl, B_w2.out⟩
set_option maxRecDepth 20000 in
set_option maxHeartbeats 4000000 in
theorem identNew_full (A : Option Addr) (c : Nat) (X : List Int) (L : Int) (w : World) (hsl : IL w w.heap.size A X) (hc : X.length ≤ c) (hX : X.length ≤ 9223372036854775807) (hbx : ∀ x ∈ X, -9223372036854775808 ≤ x ∧ x ≤ 9223372036854775807) (h32 : X.length = 32) (hv : ckI X L = 0) :
    Calls Try.prog 6 #[pv A c X L] w fun e w' => e = .returned (.bool true) ∧ Below w.heap.size w w' := by
  have HA := Lib.hid (fun w => awake13_any w)
  obtain ⟨w0, hw0⟩ : ∃ w0, w0 = w.alloc (.cells #[.slice A X.length c, .int .i64 L] 24) := ⟨_, rfl⟩
  have M0 : BK 24 w0 w.heap.size [.slice A X.length c, .int .i64 L] := by rw [hw0]; exact BK.new w _ _
  have hb0 : Below w.heap.size w w0 := by rw [hw0]; exact below_new w _
  have B_w0 := Lib.hid hb0
  have Mt_w0 := Lib.hid M0
  have Sx_w0 : Hid (IL w0 w0.heap.size A X) := Lib.hid (CL.step hsl hb0)
  have HW0 := Lib.hid hw0
  have C2 := Lib.hid (fun w h => rCheck_any A c X L w h hX)
  have C3 := Lib.hid (fun w h => iTake_any A c X L w h hc hv)
  rw [tkR_full h32] at C3
  have q32 : ((X.length : Int) == 32) = true := by simp [h32]
  clear h32
  rw [hv] at C2
  clear hv
  have _u := And.intro hc (And.intro hX hbx)
  clear hw0 M0 hb0 hsl hc hX hbx _u
  go_enter Try.func6, Try.ntmps6
  go_upto_region 1 with fail
  rw [← HW0.out]
  clear HW0
  have dt0 := Mt_w0.out.cell 0 rfl
  have dt1 := Mt_w0.out.cell 1 rfl
  go_wp2_with fail
  refine (C2.out w0 Sx_w0.out).mono ?_
  rintro e w1 ⟨rfl, hb⟩
  have B_w1 : Hid (Below w.heap.size w w1) := Lib.hid (stepB B_w0.out hb)
  have Mt_w1 : Hid (BK 24 w1 (w.heap.size) [.slice A X.length c, .int .i64 L]) := Lib.hid (Mt_w0.out.step hb)
  have Sx_w1 : Hid (IL w1 w1.heap.size A X) := Lib.hid (CL.step Sx_w0.out hb)
  clear dt0 dt1
  clear B_w0 Mt_w0 Sx_w0
  clear hb
  have dt0 := Mt_w1.out.cell 0 rfl
  have dt1 := Mt_w1.out.cell 1 rfl
  go_wp2_with fail
  refine (C3.out w1 Sx_w1.out).mono ?_
  rintro e w2 ⟨A1, c1, rfl, _, _, _, hb⟩
  have B_w2 : Hid (Below w.heap.size w w2) := Lib.hid (stepB B_w1.out hb)
  have Mt_w2 : Hid (BK 24 w2 (w.heap.size) [.slice A X.length c, .int .i64 L]) := Lib.hid (Mt_w1.out.step hb)
  have Sx_w2 : Hid (IL w2 w2.heap.size A X) := Lib.hid (CL.step Sx_w1.out hb)
  clear dt0 dt1
  clear B_w1 Mt_w1 Sx_w1
  clear hb
  have dt0 := Mt_w2.out.cell 0 rfl
  have dt1 := Mt_w2.out.cell 1 rfl
  go_wp2_with first | (refine wpList_store_all (by rfl) 24 (.tmp 4) (.tmp 16) rfl rfl (w2.heap.size) rfl [.slice A1 0 c1, .int .i64 0] rfl 24 [.slice none 0 0, .int .i64 0] (BK.new w2 _ _) infoP2 rfl (one2 _ _ _ _) ?_; intro w3 hM hP; have Ma_w3 : Hid (BK 24 w3 (w2.heap.size) [.slice A1 0 c1, .int .i64 0]) := Lib.hid hM; have Lt_a : Hid (w.heap.size < w2.heap.size) := Lib.hid Mt_w2.out.lt; have Za : Hid (w.heap.size ≤ w2.heap.size) := Lib.hid B_w2.out.size; have B_w3 : Hid (Below w.heap.size w w3) := Lib.hid (hP.below (stepB B_w2.out (below_new w2 _)) B_w2.out.size); have Mt_w3 : Hid (BK 24 w3 (w.heap.size) [.slice A X.length c, .int .i64 L]) := Lib.hid (hP.other (BK.alloc Mt_w2.out _) (Nat.ne_of_lt Mt_w2.out.lt)); have Sx_w3 : Hid (IL w3 w3.heap.size A X) := Lib.hid (CL.step Sx_w2.out (hP.below (below_new w2 _) (Nat.le_refl _))); clear B_w2 Mt_w2 Sx_w2 hM hP dt0 dt1; have dt0 := Mt_w3.out.cell 0 rfl; have dt1 := Mt_w3.out.cell 1 rfl)
  refine (HA.out w3).mono ?_
  rintro e w4 ⟨rfl, hb⟩
  have B_w4 : Hid (Below w.heap.size w w4) := Lib.hid (stepB B_w3.out hb)
  have Mt_w4 : Hid (BK 24 w4 (w.heap.size) [.slice A X.length c, .int .i64 L]) := Lib.hid (Mt_w3.out.step hb)
  have Ma_w4 : Hid (BK 24 w4 (w2.heap.size) [.slice A1 0 c1, .int .i64 0]) := Lib.hid (Ma_w3.out.step hb)
  have Sx_w4 : Hid (IL w4 w4.heap.size A X) := Lib.hid (CL.step Sx_w3.out hb)
  clear dt0 dt1
  clear B_w3 Mt_w3 Ma_w3 Sx_w3
  clear hb
  have da0 := Ma_w4.out.cell 0 rfl
  have da1 := Ma_w4.out.cell 1 rfl
  go_wp2_with fail
  go_ret
  exact ⟨rfl, B_w4.out⟩
set_option maxRecDepth 20000 in
set_option maxHeartbeats 4000000 in
theorem identNew_part (A : Option Addr) (c : Nat) (X : List Int) (L : Int) (w : World) (hsl : IL w w.heap.size A X) (hc : X.length ≤ c) (hX : X.length ≤ 9223372036854775807) (hbx : ∀ x ∈ X, -9223372036854775808 ≤ x ∧ x ≤ 9223372036854775807) (h32 : X.length < 32) (hv : ckI X L = 0) :
    Calls Try.prog 6 #[pv A c X L] w fun e w' => e = .returned (.bool true) ∧ Below w.heap.size w w' := by
  have HA := Lib.hid (fun w => awake13_any w)
  obtain ⟨w0, hw0⟩ : ∃ w0, w0 = w.alloc (.cells #[.slice A X.length c, .int .i64 L] 24) := ⟨_, rfl⟩
  have M0 : BK 24 w0 w.heap.size [.slice A X.length c, .int .i64 L] := by rw [hw0]; exact BK.new w _ _
  have hb0 : Below w.heap.size w w0 := by rw [hw0]; exact below_new w _
  have B_w0 := Lib.hid hb0
  have Mt_w0 := Lib.hid M0
  have Sx_w0 : Hid (IL w0 w0.heap.size A X) := Lib.hid (CL.step hsl hb0)
  have HW0 := Lib.hid hw0
  have C2 := Lib.hid (fun w h => rCheck_any A c X L w h hX)
  have C3 := Lib.hid (fun w h => iTake_any A c X L w h hc hv)
  rw [tkR_part h32] at C3
  obtain ⟨g1, g2, g3, g4⟩ := tk_ok hv h32
  have C4 := Lib.hid (fun w h => iHas_any A c X L (tkI X L) w h hc hv (by omega) (by omega))
  rw [decide_eq_false g1] at C4
  have C5 := Lib.hid (fun A1 c1 w h hc1 => iHas_any A1 c1 (insI X (tkI X L)) (tkI X L) (tkI X L) w h hc1 g4 (by omega) (by omega))
  rw [decide_eq_true ((ins_mem X (tkI X L) (tkI X L)).2 (.inl rfl))] at C5
  have C6 := Lib.hid (fun A1 c1 w h hc1 => iCheck_any A1 c1 (insI X (tkI X L)) (tkI X L) w h hc1 (by rw [ins_len]; omega) (fun x hx => by
    have := up_mem (ck_ok.1 g4).2.1 x hx
    omega))
  rw [g4] at C6
  have C7 := Lib.hid (fun A1 c1 w h => iLeft_any A1 c1 (insI X (tkI X L)) (tkI X L) w h g4)
  have C8 := Lib.hid (fun w h => iLeft_any A c X L w h hv)
  have C9 := Lib.hid (fun A1 c1 w h hc1 => iFree_any A1 c1 (insI X (tkI X L)) (tkI X L) (tkI X L) w h hc1 g4 (by omega) (by omega))
  rw [del_ins g1, decide_eq_true ((ins_mem X (tkI X L) (tkI X L)).2 (.inl rfl))] at C9
  have C10 := Lib.hid (fun A1 c1 w h1 h2 => ints_self A1 A c1 c X w h1 h2 hX)
  have q32 : ((X.length : Int) == 32) = false := by simp; omega
  obtain ⟨kx, hkx⟩ : ∃ kx : Int, 32 - (X.length : Int) = kx := ⟨_, rfl⟩
  obtain ⟨ky, hky⟩ : ∃ ky : Int, 32 - ((insI X (tkI X L)).length : Int) = ky := ⟨_, rfl⟩
  have k1 : kx - 1 = ky := by rw [← hkx, ← hky, ins_len]; omega
  have k2 : wrap64 (kx - 1) = ky := by rw [wrap64_id _ (by omega) (by omega)]; exact k1
  have k3 : IntKind.i64.wrap ky = ky := by rw [IntKind.wrap_i64]; rw [← hky, ins_len]; omega
  rw [hkx] at C8
  rw [hky] at C7
  clear hkx hky
  generalize insI X (tkI X L) = Y at C3 C5 C6 C7 C9 g4
  generalize tkI X L = n at C3 C4 C5 C6 C7 C9 g1 g2 g3 g4
  clear g1 g2 g3 g4 h32
  rw [hv] at C2
  clear hv
  have _u := And.intro hc (And.intro hX hbx)
  clear hw0 M0 hb0 hsl hc hX hbx _u
  go_enter Try.func6, Try.ntmps6
  go_upto_region 1 with fail
  rw [← HW0.out]
  clear HW0
  have dt0 := Mt_w0.out.cell 0 rfl
  have dt1 := Mt_w0.out.cell 1 rfl
  go_wp2_with fail
  refine (C2.out w0 Sx_w0.out).mono ?_
  rintro e w1 ⟨rfl, hb⟩
  have B_w1 : Hid (Below w.heap.size w w1) := Lib.hid (stepB B_w0.out hb)
  have Mt_w1 : Hid (BK 24 w1 (w.heap.size) [.slice A X.length c, .int .i64 L]) := Lib.hid (Mt_w0.out.step hb)
  have Sx_w1 : Hid (IL w1 w1.heap.size A X) := Lib.hid (CL.step Sx_w0.out hb)
  clear dt0 dt1
  clear B_w0 Mt_w0 Sx_w0
  clear hb
  have dt0 := Mt_w1.out.cell 0 rfl
  have dt1 := Mt_w1.out.cell 1 rfl
  go_wp2_with fail
  refine (C3.out w1 Sx_w1.out).mono ?_
  rintro e w2 ⟨A1, c1, rfl, hc1, hs1, _, hb⟩
  have B_w2 : Hid (Below w.heap.size w w2) := Lib.hid (stepB B_w1.out hb)
  have Mt_w2 : Hid (BK 24 w2 (w.heap.size) [.slice A X.length c, .int .i64 L]) := Lib.hid (Mt_w1.out.step hb)
  have Sx_w2 : Hid (IL w2 w2.heap.size A X) := Lib.hid (CL.step Sx_w1.out hb)
  clear dt0 dt1
  clear B_w1 Mt_w1 Sx_w1
  clear hb
  have Sa_w2 := Lib.hid (hs1)
  have HC1 := Lib.hid hc1
  clear hs1 hc1
  have dt0 := Mt_w2.out.cell 0 rfl
  have dt1 := Mt_w2.out.cell 1 rfl
  go_upto_region 6 with first | (refine wpList_store_all (by rfl) 24 (.tmp 4) (.tmp 16) rfl rfl (w2.heap.size) rfl [.slice A1 Y.length c1, .int .i64 n] rfl 24 [.slice none 0 0, .int .i64 0] (BK.new w2 _ _) infoP2 rfl (one2 _ _ _ _) ?_; intro w3 hM hP; have Ma_w3 : Hid (BK 24 w3 (w2.heap.size) [.slice A1 Y.length c1, .int .i64 n]) := Lib.hid hM; have Lt_a : Hid (w.heap.size < w2.heap.size) := Lib.hid Mt_w2.out.lt; have Za : Hid (w.heap.size ≤ w2.heap.size) := Lib.hid B_w2.out.size; have B_w3 : Hid (Below w.heap.size w w3) := Lib.hid (hP.below (stepB B_w2.out (below_new w2 _)) B_w2.out.size); have Mt_w3 : Hid (BK 24 w3 (w.heap.size) [.slice A X.length c, .int .i64 L]) := Lib.hid (hP.other (BK.alloc Mt_w2.out _) (Nat.ne_of_lt Mt_w2.out.lt)); have Sx_w3 : Hid (IL w3 w3.heap.size A X) := Lib.hid (CL.step Sx_w2.out (hP.below (below_new w2 _) (Nat.le_refl _))); have Sa_w3 : Hid (IL w3 w3.heap.size A1 Y) := Lib.hid (CL.step Sa_w2.out (hP.below (below_new w2 _) (Nat.le_refl _))); clear B_w2 Mt_w2 Sx_w2 Sa_w2 hM hP dt0 dt1; have dt0 := Mt_w3.out.cell 0 rfl; have dt1 := Mt_w3.out.cell 1 rfl)
  clear dt0 dt1
  obtain ⟨x3v1, hx3v1⟩ : ∃ x3v1, x3v1 = World.drew w3 := ⟨_, rfl⟩
  have hbD : Below w3.heap.size w3 x3v1 := by rw [hx3v1]; exact (Below.refl _ _).drew
  have B_x3v1 : Hid (Below w.heap.size w x3v1) := Lib.hid (stepB B_w3.out hbD)
  have Mt_x3v1 : Hid (BK 24 x3v1 (w.heap.size) [.slice A X.length c, .int .i64 L]) := Lib.hid (Mt_w3.out.step hbD)
  have Ma_x3v1 : Hid (BK 24 x3v1 (w2.heap.size) [.slice A1 Y.length c1, .int .i64 n]) := Lib.hid (Ma_w3.out.step hbD)
  have Sx_x3v1 : Hid (IL x3v1 x3v1.heap.size A X) := Lib.hid (CL.step Sx_w3.out hbD)
  have Sa_x3v1 : Hid (IL x3v1 x3v1.heap.size A1 Y) := Lib.hid (CL.step Sa_w3.out hbD)
  clear B_w3 Mt_w3 Ma_w3 Sx_w3 Sa_w3
  have hbd : (fun w' => BK 24 w' (w.heap.size) [.slice A X.length c, .int .i64 L] ∧ BK 24 w' (w2.heap.size) [.slice A1 Y.length c1, .int .i64 n] ∧ IL w' w'.heap.size A X ∧ IL w' w'.heap.size A1 Y) (World.drew w3) := by rw [← hx3v1]; exact ⟨Mt_x3v1.out, Ma_x3v1.out, Sx_x3v1.out, Sa_x3v1.out⟩
  have hSD : (fun w' => BK 24 w' (w.heap.size) [.slice A X.length c, .int .i64 L] ∧ BK 24 w' (w2.heap.size) [.slice A1 Y.length c1, .int .i64 n] ∧ IL w' w'.heap.size A X ∧ IL w' w'.heap.size A1 Y) x3v1 := ⟨Mt_x3v1.out, Ma_x3v1.out, Sx_x3v1.out, Sa_x3v1.out⟩
  have HWD := Lib.hid hx3v1
  clear hx3v1 hbD
  refine wp_region_held_drew (S := fun w' => BK 24 w' (w.heap.size) [.slice A X.length c, .int .i64 L] ∧ BK 24 w' (w2.heap.size) [.slice A1 Y.length c1, .int .i64 n] ∧ IL w' w'.heap.size A X ∧ IL w' w'.heap.size A1 Y) (by kernel_rfl) hbd (fun hHeld => ?_)
  rw [← HWD.out]
  clear hHeld
  have hHeld := hSD
  clear hSD hbd HWD
  refine wpAnyH_take (i := 0) (v := .int .i64 0) (get_ops _ _ _ rfl) (by kernel_rfl) (by kernel_rfl) (by kernel_rfl) (fun _ _ _ h => h) (Or.inl ⟨by rfl, fun wS hSw => by (try dsimp only at hSw); go_simp⟩) hHeld ?_
  try simp only [Act.put, List.setIfInBounds_toArray, List.set_cons_zero, List.set_cons_succ]
  refine wpAnyH_take (i := 1) (v := .bool false) (get_ops _ _ _ rfl) (by kernel_rfl) (by kernel_rfl) (by kernel_rfl) (fun _ _ _ h => h) (Or.inl ⟨by rfl, fun wS hSw => by (try dsimp only at hSw); go_simp⟩) hHeld ?_
  try simp only [Act.put, List.setIfInBounds_toArray, List.set_cons_zero, List.set_cons_succ]
  refine wpAnyH_take (i := 2) (v := .bool false) (get_ops _ _ _ rfl) (by kernel_rfl) (by kernel_rfl) (by kernel_rfl) (fun _ _ _ h => h) (Or.inl ⟨by rfl, fun wS hSw => by (try dsimp only at hSw); go_simp⟩) hHeld ?_
  try simp only [Act.put, List.setIfInBounds_toArray, List.set_cons_zero, List.set_cons_succ]
  refine wpAnyH_take (i := 3) (v := .agg [.slice A X.length c, .int .i64 L].toArray) (get_ops _ _ _ rfl) (by kernel_rfl) (by kernel_rfl) (by kernel_rfl) (fun _ _ _ h => h) (Or.inl ⟨by rfl, fun wS hSw => by (try dsimp only at hSw); exact exec_load 24 _ rfl ⟨(w.heap.size), 0, none⟩ (by go_simp) _ (run_load_all hSw.1 Try.underlying24 rfl infoP2)⟩) hHeld ?_
  try simp only [Act.put, List.setIfInBounds_toArray, List.set_cons_zero, List.set_cons_succ]
  refine wpAnyH_take (i := 4) (v := .int .i64 n) (get_ops _ _ _ rfl) (by kernel_rfl) (by kernel_rfl) (by kernel_rfl) (fun _ _ _ h => h) (Or.inl ⟨by rfl, fun wS hSw => by (try dsimp only at hSw); go_simp⟩) hHeld ?_
  try simp only [Act.put, List.setIfInBounds_toArray, List.set_cons_zero, List.set_cons_succ]
  refine wpAnyH_ready (rs := [5]) (by kernel_rfl) (by simp) ?_
  refine (AllReadyH.cons (get_ops _ _ _ rfl) (fun K hK => ?_) AllReadyH.nil)
  go_simp
  go_at_call 17
  refine (C4.out x3v1 Sx_x3v1.out).mono ?_
  rintro e x3v2 ⟨rfl, hb⟩
  have B_x3v2 : Hid (Below w.heap.size w x3v2) := Lib.hid (stepB B_x3v1.out hb)
  have Mt_x3v2 : Hid (BK 24 x3v2 (w.heap.size) [.slice A X.length c, .int .i64 L]) := Lib.hid (Mt_x3v1.out.step hb)
  have Ma_x3v2 : Hid (BK 24 x3v2 (w2.heap.size) [.slice A1 Y.length c1, .int .i64 n]) := Lib.hid (Ma_x3v1.out.step hb)
  have Sx_x3v2 : Hid (IL x3v2 x3v2.heap.size A X) := Lib.hid (CL.step Sx_x3v1.out hb)
  have Sa_x3v2 : Hid (IL x3v2 x3v2.heap.size A1 Y) := Lib.hid (CL.step Sa_x3v1.out hb)
  clear B_x3v1 Mt_x3v1 Ma_x3v1 Sx_x3v1 Sa_x3v1
  clear hHeld hb
  go_wp2_with fail
  refine hK.out _ _ ⟨Mt_x3v2.out, Ma_x3v2.out, Sx_x3v2.out, Sa_x3v2.out⟩ (fun hHeld => ?_)
  clear hK K
  try simp only [Act.put, List.setIfInBounds_toArray, List.set_cons_zero, List.set_cons_succ]
  refine wpAnyH_take (i := 6) (v := .bool false) (get_ops _ _ _ rfl) (by kernel_rfl) (by kernel_rfl) (by kernel_rfl) (fun _ _ _ h => h) (Or.inl ⟨by rfl, fun wS hSw => by (try dsimp only at hSw); go_simp⟩) hHeld ?_
  try simp only [Act.put, List.setIfInBounds_toArray, List.set_cons_zero, List.set_cons_succ]
  refine wpAnyH_take (i := 7) (v := .bool false) (get_ops _ _ _ rfl) (by kernel_rfl) (by kernel_rfl) (by kernel_rfl) (fun _ _ _ h => h) (Or.inl ⟨by rfl, fun wS hSw => by (try dsimp only at hSw); go_simp⟩) hHeld ?_
  try simp only [Act.put, List.setIfInBounds_toArray, List.set_cons_zero, List.set_cons_succ]
  refine wpAnyH_take (i := 8) (v := .agg [.slice A1 Y.length c1, .int .i64 n].toArray) (get_ops _ _ _ rfl) (by kernel_rfl) (by kernel_rfl) (by kernel_rfl) (fun _ _ _ h => h) (Or.inl ⟨by rfl, fun wS hSw => by (try dsimp only at hSw); exact exec_load 24 _ rfl ⟨(w2.heap.size), 0, none⟩ (by go_simp) _ (run_load_all hSw.2.1 Try.underlying24 rfl infoP2)⟩) hHeld ?_
  try simp only [Act.put, List.setIfInBounds_toArray, List.set_cons_zero, List.set_cons_succ]
  refine wpAnyH_take (i := 9) (v := .int .i64 n) (get_ops _ _ _ rfl) (by kernel_rfl) (by kernel_rfl) (by kernel_rfl) (fun _ _ _ h => h) (Or.inl ⟨by rfl, fun wS hSw => by (try dsimp only at hSw); go_simp⟩) hHeld ?_
  try simp only [Act.put, List.setIfInBounds_toArray, List.set_cons_zero, List.set_cons_succ]
  refine wpAnyH_ready (rs := [10]) (by kernel_rfl) (by simp) ?_
  refine (AllReadyH.cons (get_ops _ _ _ rfl) (fun K hK => ?_) AllReadyH.nil)
  go_simp
  go_at_call 17
  refine (C5.out A1 c1 x3v2 Sa_x3v2.out HC1.out).mono ?_
  rintro e x3v3 ⟨rfl, hb⟩
  have B_x3v3 : Hid (Below w.heap.size w x3v3) := Lib.hid (stepB B_x3v2.out hb)
  have Mt_x3v3 : Hid (BK 24 x3v3 (w.heap.size) [.slice A X.length c, .int .i64 L]) := Lib.hid (Mt_x3v2.out.step hb)
  have Ma_x3v3 : Hid (BK 24 x3v3 (w2.heap.size) [.slice A1 Y.length c1, .int .i64 n]) := Lib.hid (Ma_x3v2.out.step hb)
  have Sx_x3v3 : Hid (IL x3v3 x3v3.heap.size A X) := Lib.hid (CL.step Sx_x3v2.out hb)
  have Sa_x3v3 : Hid (IL x3v3 x3v3.heap.size A1 Y) := Lib.hid (CL.step Sa_x3v2.out hb)
  clear B_x3v2 Mt_x3v2 Ma_x3v2 Sx_x3v2 Sa_x3v2
  clear hHeld hb
  go_wp2_with fail
  refine hK.out _ _ ⟨Mt_x3v3.out, Ma_x3v3.out, Sx_x3v3.out, Sa_x3v3.out⟩ (fun hHeld => ?_)
  clear hK K
  try simp only [Act.put, List.setIfInBounds_toArray, List.set_cons_zero, List.set_cons_succ]
  refine wpAnyH_take (i := 11) (v := .bool false) (get_ops _ _ _ rfl) (by kernel_rfl) (by kernel_rfl) (by kernel_rfl) (fun _ _ _ h => h) (Or.inl ⟨by rfl, fun wS hSw => by (try dsimp only at hSw); go_simp⟩) hHeld ?_
  try simp only [Act.put, List.setIfInBounds_toArray, List.set_cons_zero, List.set_cons_succ]
  refine wpAnyH_take (i := 12) (v := .bool false) (get_ops _ _ _ rfl) (by kernel_rfl) (by kernel_rfl) (by kernel_rfl) (fun _ _ _ h => h) (Or.inl ⟨by rfl, fun wS hSw => by (try dsimp only at hSw); go_simp⟩) hHeld ?_
  try simp only [Act.put, List.setIfInBounds_toArray, List.set_cons_zero, List.set_cons_succ]
  refine wpAnyH_take (i := 13) (v := .bool false) (get_ops _ _ _ rfl) (by kernel_rfl) (by kernel_rfl) (by kernel_rfl) (fun _ _ _ h => h) (Or.inl ⟨by rfl, fun wS hSw => by (try dsimp only at hSw); go_simp⟩) hHeld ?_
  try simp only [Act.put, List.setIfInBounds_toArray, List.set_cons_zero, List.set_cons_succ]
  refine wpAnyH_take (i := 14) (v := .agg [.slice A1 Y.length c1, .int .i64 n].toArray) (get_ops _ _ _ rfl) (by kernel_rfl) (by kernel_rfl) (by kernel_rfl) (fun _ _ _ h => h) (Or.inl ⟨by rfl, fun wS hSw => by (try dsimp only at hSw); exact exec_load 24 _ rfl ⟨(w2.heap.size), 0, none⟩ (by go_simp) _ (run_load_all hSw.2.1 Try.underlying24 rfl infoP2)⟩) hHeld ?_
  try simp only [Act.put, List.setIfInBounds_toArray, List.set_cons_zero, List.set_cons_succ]
  refine wpAnyH_ready (rs := [15]) (by kernel_rfl) (by simp) ?_
  refine (AllReadyH.cons (get_ops _ _ _ rfl) (fun K hK => ?_) AllReadyH.nil)
  go_simp
  go_at_call 10
  refine (C6.out A1 c1 x3v3 Sa_x3v3.out HC1.out).mono ?_
  rintro e x3v4 ⟨rfl, hb⟩
  have B_x3v4 : Hid (Below w.heap.size w x3v4) := Lib.hid (stepB B_x3v3.out hb)
  have Mt_x3v4 : Hid (BK 24 x3v4 (w.heap.size) [.slice A X.length c, .int .i64 L]) := Lib.hid (Mt_x3v3.out.step hb)
  have Ma_x3v4 : Hid (BK 24 x3v4 (w2.heap.size) [.slice A1 Y.length c1, .int .i64 n]) := Lib.hid (Ma_x3v3.out.step hb)
  have Sx_x3v4 : Hid (IL x3v4 x3v4.heap.size A X) := Lib.hid (CL.step Sx_x3v3.out hb)
  have Sa_x3v4 : Hid (IL x3v4 x3v4.heap.size A1 Y) := Lib.hid (CL.step Sa_x3v3.out hb)
  clear B_x3v3 Mt_x3v3 Ma_x3v3 Sx_x3v3 Sa_x3v3
  clear hHeld hb
  go_wp2_with fail
  refine hK.out _ _ ⟨Mt_x3v4.out, Ma_x3v4.out, Sx_x3v4.out, Sa_x3v4.out⟩ (fun hHeld => ?_)
  clear hK K
  try simp only [Act.put, List.setIfInBounds_toArray, List.set_cons_zero, List.set_cons_succ]
  refine wpAnyH_take (i := 16) (v := .bool false) (get_ops _ _ _ rfl) (by kernel_rfl) (by kernel_rfl) (by kernel_rfl) (fun _ _ _ h => h) (Or.inl ⟨by rfl, fun wS hSw => by (try dsimp only at hSw); go_simp⟩) hHeld ?_
  try simp only [Act.put, List.setIfInBounds_toArray, List.set_cons_zero, List.set_cons_succ]
  refine wpAnyH_take (i := 17) (v := .bool false) (get_ops _ _ _ rfl) (by kernel_rfl) (by kernel_rfl) (by kernel_rfl) (fun _ _ _ h => h) (Or.inl ⟨by rfl, fun wS hSw => by (try dsimp only at hSw); go_simp⟩) hHeld ?_
  try simp only [Act.put, List.setIfInBounds_toArray, List.set_cons_zero, List.set_cons_succ]
  refine wpAnyH_take (i := 18) (v := .bool false) (get_ops _ _ _ rfl) (by kernel_rfl) (by kernel_rfl) (by kernel_rfl) (fun _ _ _ h => h) (Or.inl ⟨by rfl, fun wS hSw => by (try dsimp only at hSw); go_simp⟩) hHeld ?_
  try simp only [Act.put, List.setIfInBounds_toArray, List.set_cons_zero, List.set_cons_succ]
  refine wpAnyH_take (i := 19) (v := .agg [.slice A1 Y.length c1, .int .i64 n].toArray) (get_ops _ _ _ rfl) (by kernel_rfl) (by kernel_rfl) (by kernel_rfl) (fun _ _ _ h => h) (Or.inl ⟨by rfl, fun wS hSw => by (try dsimp only at hSw); exact exec_load 24 _ rfl ⟨(w2.heap.size), 0, none⟩ (by go_simp) _ (run_load_all hSw.2.1 Try.underlying24 rfl infoP2)⟩) hHeld ?_
  try simp only [Act.put, List.setIfInBounds_toArray, List.set_cons_zero, List.set_cons_succ]
  refine wpAnyH_take (i := 21) (v := .agg [.slice A X.length c, .int .i64 L].toArray) (get_ops _ _ _ rfl) (by kernel_rfl) (by kernel_rfl) (by kernel_rfl) (fun _ _ _ h => h) (Or.inl ⟨by rfl, fun wS hSw => by (try dsimp only at hSw); exact exec_load 24 _ rfl ⟨(w.heap.size), 0, none⟩ (by go_simp) _ (run_load_all hSw.1 Try.underlying24 rfl infoP2)⟩) hHeld ?_
  try simp only [Act.put, List.setIfInBounds_toArray, List.set_cons_zero, List.set_cons_succ]
  refine wpAnyH_ready (rs := [20]) (by kernel_rfl) (by simp) ?_
  refine (AllReadyH.cons (get_ops _ _ _ rfl) (fun K hK => ?_) AllReadyH.nil)
  go_simp
  go_at_call 19
  refine (C7.out A1 c1 x3v4 Sa_x3v4.out).mono ?_
  rintro e x3v5 ⟨rfl, hb⟩
  have B_x3v5 : Hid (Below w.heap.size w x3v5) := Lib.hid (stepB B_x3v4.out hb)
  have Mt_x3v5 : Hid (BK 24 x3v5 (w.heap.size) [.slice A X.length c, .int .i64 L]) := Lib.hid (Mt_x3v4.out.step hb)
  have Ma_x3v5 : Hid (BK 24 x3v5 (w2.heap.size) [.slice A1 Y.length c1, .int .i64 n]) := Lib.hid (Ma_x3v4.out.step hb)
  have Sx_x3v5 : Hid (IL x3v5 x3v5.heap.size A X) := Lib.hid (CL.step Sx_x3v4.out hb)
  have Sa_x3v5 : Hid (IL x3v5 x3v5.heap.size A1 Y) := Lib.hid (CL.step Sa_x3v4.out hb)
  clear B_x3v4 Mt_x3v4 Ma_x3v4 Sx_x3v4 Sa_x3v4
  clear hHeld hb
  go_wp2_with fail
  refine hK.out _ _ ⟨Mt_x3v5.out, Ma_x3v5.out, Sx_x3v5.out, Sa_x3v5.out⟩ (fun hHeld => ?_)
  clear hK K
  try simp only [Act.put, List.setIfInBounds_toArray, List.set_cons_zero, List.set_cons_succ]
  refine wpAnyH_ready (rs := [22]) (by kernel_rfl) (by simp) ?_
  refine (AllReadyH.cons (get_ops _ _ _ rfl) (fun K hK => ?_) AllReadyH.nil)
  go_simp
  go_at_call 19
  refine (C8.out x3v5 Sx_x3v5.out).mono ?_
  rintro e x3v6 ⟨rfl, hb⟩
  have B_x3v6 : Hid (Below w.heap.size w x3v6) := Lib.hid (stepB B_x3v5.out hb)
  have Mt_x3v6 : Hid (BK 24 x3v6 (w.heap.size) [.slice A X.length c, .int .i64 L]) := Lib.hid (Mt_x3v5.out.step hb)
  have Ma_x3v6 : Hid (BK 24 x3v6 (w2.heap.size) [.slice A1 Y.length c1, .int .i64 n]) := Lib.hid (Ma_x3v5.out.step hb)
  have Sx_x3v6 : Hid (IL x3v6 x3v6.heap.size A X) := Lib.hid (CL.step Sx_x3v5.out hb)
  have Sa_x3v6 : Hid (IL x3v6 x3v6.heap.size A1 Y) := Lib.hid (CL.step Sa_x3v5.out hb)
  clear B_x3v5 Mt_x3v5 Ma_x3v5 Sx_x3v5 Sa_x3v5
  clear hHeld hb
  go_wp2_with fail
  refine hK.out _ _ ⟨Mt_x3v6.out, Ma_x3v6.out, Sx_x3v6.out, Sa_x3v6.out⟩ (fun hHeld => ?_)
  clear hK K
  try simp only [Act.put, List.setIfInBounds_toArray, List.set_cons_zero, List.set_cons_succ]
  refine wpAnyH_take (i := 23) (v := .int .i64 ky) (get_ops _ _ _ rfl) (by kernel_rfl) (by kernel_rfl) (by kernel_rfl) (fun _ _ _ h => h) (Or.inl ⟨by rfl, fun wS hSw => by (try dsimp only at hSw); go_simp⟩) hHeld ?_
  try simp only [Act.put, List.setIfInBounds_toArray, List.set_cons_zero, List.set_cons_succ]
  refine wpAnyH_take (i := 24) (v := .bool false) (get_ops _ _ _ rfl) (by kernel_rfl) (by kernel_rfl) (by kernel_rfl) (fun _ _ _ h => h) (Or.inl ⟨by rfl, fun wS hSw => by (try dsimp only at hSw); go_simp⟩) hHeld ?_
  try simp only [Act.put, List.setIfInBounds_toArray, List.set_cons_zero, List.set_cons_succ]
  refine wpAnyH_take (i := 25) (v := .bool false) (get_ops _ _ _ rfl) (by kernel_rfl) (by kernel_rfl) (by kernel_rfl) (fun _ _ _ h => h) (Or.inl ⟨by rfl, fun wS hSw => by (try dsimp only at hSw); go_simp⟩) hHeld ?_
  try simp only [Act.put, List.setIfInBounds_toArray, List.set_cons_zero, List.set_cons_succ]
  refine wpAnyH_take (i := 26) (v := .bool false) (get_ops _ _ _ rfl) (by kernel_rfl) (by kernel_rfl) (by kernel_rfl) (fun _ _ _ h => h) (Or.inl ⟨by rfl, fun wS hSw => by (try dsimp only at hSw); go_simp⟩) hHeld ?_
  try simp only [Act.put, List.setIfInBounds_toArray, List.set_cons_zero, List.set_cons_succ]
  refine wpAnyH_take (i := 27) (v := .pointer (some ⟨(w2.heap.size), 1, none⟩)) (get_ops _ _ _ rfl) (by kernel_rfl) (by kernel_rfl) (by kernel_rfl) (fun _ _ _ h => h) (Or.inl ⟨by rfl, fun wS hSw => by (try dsimp only at hSw); go_simp⟩) hHeld ?_
  try simp only [Act.put, List.setIfInBounds_toArray, List.set_cons_zero, List.set_cons_succ]
  refine wpAnyH_take (i := 28) (v := .int .i64 n) (get_ops _ _ _ rfl) (by kernel_rfl) (by kernel_rfl) (by kernel_rfl) (fun _ _ _ h => h) (Or.inl ⟨by rfl, fun wS hSw => by (try dsimp only at hSw); have cS : wS.cell? ⟨(w2.heap.size), 1, none⟩ = some (.int .i64 n) := hSw.2.1.cell 1 rfl; clear hSw; go_simp⟩) hHeld ?_
  try simp only [Act.put, List.setIfInBounds_toArray, List.set_cons_zero, List.set_cons_succ]
  refine wpAnyH_take (i := 29) (v := .int .i64 n) (get_ops _ _ _ rfl) (by kernel_rfl) (by kernel_rfl) (by kernel_rfl) (fun _ _ _ h => h) (Or.inl ⟨by rfl, fun wS hSw => by (try dsimp only at hSw); go_simp⟩) hHeld ?_
  try simp only [Act.put, List.setIfInBounds_toArray, List.set_cons_zero, List.set_cons_succ]
  refine wpAnyH_take (i := 30) (v := .bool false) (get_ops _ _ _ rfl) (by kernel_rfl) (by kernel_rfl) (by kernel_rfl) (fun _ _ _ h => h) (Or.inl ⟨by rfl, fun wS hSw => by (try dsimp only at hSw); go_simp⟩) hHeld ?_
  try simp only [Act.put, List.setIfInBounds_toArray, List.set_cons_zero, List.set_cons_succ]
  refine wpAnyH_take (i := 31) (v := .bool false) (get_ops _ _ _ rfl) (by kernel_rfl) (by kernel_rfl) (by kernel_rfl) (fun _ _ _ h => h) (Or.inl ⟨by rfl, fun wS hSw => by (try dsimp only at hSw); go_simp⟩) hHeld ?_
  try simp only [Act.put, List.setIfInBounds_toArray, List.set_cons_zero, List.set_cons_succ]
  refine wpAnyH_done (by kernel_rfl) ?_ _
  have da0 := Ma_x3v6.out.cell 0 rfl
  have da1 := Ma_x3v6.out.cell 1 rfl
  go_wp2_with fail
  refine (C9.out A1 c1 x3v6 Sa_x3v6.out HC1.out).mono ?_
  rintro e w5 ⟨A2, c2, rfl, _, hs2, _, hb⟩
  have B_w5 : Hid (Below w.heap.size w w5) := Lib.hid (stepB B_x3v6.out hb)
  have Mt_w5 : Hid (BK 24 w5 (w.heap.size) [.slice A X.length c, .int .i64 L]) := Lib.hid (Mt_x3v6.out.step hb)
  have Ma_w5 : Hid (BK 24 w5 (w2.heap.size) [.slice A1 Y.length c1, .int .i64 n]) := Lib.hid (Ma_x3v6.out.step hb)
  have Sx_w5 : Hid (IL w5 w5.heap.size A X) := Lib.hid (CL.step Sx_x3v6.out hb)
  have Sa_w5 : Hid (IL w5 w5.heap.size A1 Y) := Lib.hid (CL.step Sa_x3v6.out hb)
  clear da0 da1
  clear B_x3v6 Mt_x3v6 Ma_x3v6 Sx_x3v6 Sa_x3v6
  clear hb
  have Sb_w5 := Lib.hid (hs2)
  clear hs2
  go_wp2_with first | (refine wpList_store_all (by rfl) 24 (.tmp 6) (.tmp 78) rfl rfl (w5.heap.size) rfl [.slice A2 X.length c2, .int .i64 n] rfl 24 [.slice none 0 0, .int .i64 0] (BK.new w5 _ _) infoP2 rfl (one2 _ _ _ _) ?_; intro w6 hM hP; have Mb_w6 : Hid (BK 24 w6 (w5.heap.size) [.slice A2 X.length c2, .int .i64 n]) := Lib.hid hM; have Lt_b : Hid (w.heap.size < w5.heap.size) := Lib.hid Mt_w5.out.lt; have La_b : Hid (w2.heap.size < w5.heap.size) := Lib.hid Ma_w5.out.lt; have Zb : Hid (w.heap.size ≤ w5.heap.size) := Lib.hid B_w5.out.size; have B_w6 : Hid (Below w.heap.size w w6) := Lib.hid (hP.below (stepB B_w5.out (below_new w5 _)) B_w5.out.size); have Mt_w6 : Hid (BK 24 w6 (w.heap.size) [.slice A X.length c, .int .i64 L]) := Lib.hid (hP.other (BK.alloc Mt_w5.out _) (Nat.ne_of_lt Mt_w5.out.lt)); have Ma_w6 : Hid (BK 24 w6 (w2.heap.size) [.slice A1 Y.length c1, .int .i64 n]) := Lib.hid (hP.other (BK.alloc Ma_w5.out _) (Nat.ne_of_lt Ma_w5.out.lt)); have Sx_w6 : Hid (IL w6 w6.heap.size A X) := Lib.hid (CL.step Sx_w5.out (hP.below (below_new w5 _) (Nat.le_refl _))); have Sa_w6 : Hid (IL w6 w6.heap.size A1 Y) := Lib.hid (CL.step Sa_w5.out (hP.below (below_new w5 _) (Nat.le_refl _))); have Sb_w6 : Hid (IL w6 w6.heap.size A2 X) := Lib.hid (CL.step Sb_w5.out (hP.below (below_new w5 _) (Nat.le_refl _))); clear B_w5 Mt_w5 Ma_w5 Sx_w5 Sa_w5 Sb_w5 hM hP)
  refine (HA.out w6).mono ?_
  rintro e w7 ⟨rfl, hb⟩
  have B_w7 : Hid (Below w.heap.size w w7) := Lib.hid (stepB B_w6.out hb)
  have Mt_w7 : Hid (BK 24 w7 (w.heap.size) [.slice A X.length c, .int .i64 L]) := Lib.hid (Mt_w6.out.step hb)
  have Ma_w7 : Hid (BK 24 w7 (w2.heap.size) [.slice A1 Y.length c1, .int .i64 n]) := Lib.hid (Ma_w6.out.step hb)
  have Mb_w7 : Hid (BK 24 w7 (w5.heap.size) [.slice A2 X.length c2, .int .i64 n]) := Lib.hid (Mb_w6.out.step hb)
  have Sx_w7 : Hid (IL w7 w7.heap.size A X) := Lib.hid (CL.step Sx_w6.out hb)
  have Sa_w7 : Hid (IL w7 w7.heap.size A1 Y) := Lib.hid (CL.step Sa_w6.out hb)
  have Sb_w7 : Hid (IL w7 w7.heap.size A2 X) := Lib.hid (CL.step Sb_w6.out hb)
  clear B_w6 Mt_w6 Ma_w6 Mb_w6 Sx_w6 Sa_w6 Sb_w6
  clear hb
  have dt0 := Mt_w7.out.cell 0 rfl
  have dt1 := Mt_w7.out.cell 1 rfl
  have db0 := Mb_w7.out.cell 0 rfl
  have db1 := Mb_w7.out.cell 1 rfl
  go_wp2_with fail
  refine (C10.out A2 c2 w7 Sb_w7.out Sx_w7.out).mono ?_
  rintro e w8 ⟨rfl, hb⟩
  have B_w8 : Hid (Below w.heap.size w w8) := Lib.hid (stepB B_w7.out hb)
  have Mt_w8 : Hid (BK 24 w8 (w.heap.size) [.slice A X.length c, .int .i64 L]) := Lib.hid (Mt_w7.out.step hb)
  have Ma_w8 : Hid (BK 24 w8 (w2.heap.size) [.slice A1 Y.length c1, .int .i64 n]) := Lib.hid (Ma_w7.out.step hb)
  have Mb_w8 : Hid (BK 24 w8 (w5.heap.size) [.slice A2 X.length c2, .int .i64 n]) := Lib.hid (Mb_w7.out.step hb)
  have Sx_w8 : Hid (IL w8 w8.heap.size A X) := Lib.hid (CL.step Sx_w7.out hb)
  have Sa_w8 : Hid (IL w8 w8.heap.size A1 Y) := Lib.hid (CL.step Sa_w7.out hb)
  have Sb_w8 : Hid (IL w8 w8.heap.size A2 X) := Lib.hid (CL.step Sb_w7.out hb)
  clear dt0 dt1 db0 db1
  clear B_w7 Mt_w7 Ma_w7 Mb_w7 Sx_w7 Sa_w7 Sb_w7
  clear hb
  have db0 := Mb_w8.out.cell 0 rfl
  have db1 := Mb_w8.out.cell 1 rfl
  go_wp2_with fail
  go_ret
  exact ⟨rfl, B_w8.out⟩
theorem identNew_walk (A : Option Addr) (c : Nat) (X : List Int) (L : Int) (w : World) (hsl : IL w w.heap.size A X) (hc : X.length ≤ c) (hX : X.length ≤ 9223372036854775807) (hbx : ∀ x ∈ X, -9223372036854775808 ≤ x ∧ x ≤ 9223372036854775807) :
    Calls Try.prog 6 #[pv A c X L] w fun e w' => e = .returned (.bool true) ∧ Below w.heap.size w w' := by
  by_cases hv : ckI X L = 0
  · by_cases h32 : X.length = 32
    · exact identNew_full A c X L w hsl hc hX hbx h32 hv
    · exact identNew_part A c X L w hsl hc hX hbx (by have := (ck_ok.1 hv).1; omega) hv
  · exact identNew_bad A c X L w hsl hc hX hbx hv
end Go.Proofs.Ytdjlggfipabciaa
