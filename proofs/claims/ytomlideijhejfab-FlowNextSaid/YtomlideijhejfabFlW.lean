/-
  The example that each statement of brokerlaw16 looks at; the walks of the first ones. Conditions: the numbers fit an int; the list reads as data.
-/
import Derived.Test.YtomlideijhejfabFlI
namespace Go.Proofs.Ytomlideijhejfab
open Go.RowKit

theorem il_new16 (w : World) (X : List Int) (t : TypeId) : IL (w.alloc (.cells (X.map iv).toArray t)) (w.alloc (.cells (X.map iv).toArray t)).heap.size (some ⟨w.heap.size, 0, none⟩) X := CL.new
theorem ints_self16 (A A' : Option Addr) (c c' : Nat) (X : List Int) (w : World) (hs : IL w w.heap.size A X) (ht : IL w w.heap.size A' X) (hX : X.length ≤ 9223372036854775807) :
    Calls Try.prog 25 #[.slice A X.length c, .slice A' X.length c'] w fun e w' => e = .returned (.bool true) ∧ Below w.heap.size w w' := by
  have := rInts_any A A' c c' X X w hs ht hX hX
  rw [decide_eq_true rfl] at this
  exact this
set_option maxRecDepth 20000 in
set_option maxHeartbeats 4000000 in
theorem awake16_any (w : World) : Calls Try.prog 10 #[] w fun e w' => e = .returned (.bool true) ∧ Below w.heap.size w w' := by
  have H1 : Hid (∀ w, Calls Try.prog 11 #[cv 2 1] w (RetCB 2 2 true w)) := Lib.hid (fun w => fTakeC_any 2 1 (by decide) w)
  have H2 : Hid (∀ w, Calls Try.prog 11 #[cv 2 2] w (RetCB 2 2 false w)) := Lib.hid (fun w => fTakeC_any 2 2 (by decide) w)
  have H3 : Hid (∀ w : World, Calls Try.prog 23 #[.slice (some ⟨w.heap.size, 0, none⟩) 3 3, .int .i64 0, .int .i64 6] (w.alloc (.cells #[.int .i64 3, .int .i64 0, .int .i64 1, .int .i64 0, .int .i64 5, .int .i64 0] 23)) (RetRd ([2, 1, 3], 2) (w.alloc (.cells #[.int .i64 3, .int .i64 0, .int .i64 1, .int .i64 0, .int .i64 5, .int .i64 0] 23)))) := Lib.hid (fun (w : World) => by
    have := fRound_any (some ⟨w.heap.size, 0, none⟩) 3 [(3, 0), (1, 0), (5, 0)] 0 6 (by decide) (by decide) (w.alloc (.cells ([(3, 0), (1, 0), (5, 0)].flatMap gC).toArray 23)) (GL.new gC_len) (by decide) (by decide)
    have e : rdC [(3, 0), (1, 0), (5, 0)] 0 6 = ([2, 1, 3], 2) := by decide
    rw [e] at this
    exact this)
  have H4 : Hid (∀ w, Calls Try.prog 14 #[cv 2 2] w (RetC 2 1 w)) := Lib.hid (fun w => fGive_any 2 2 (by decide) w)
  have H5 : Hid (∀ w, Calls Try.prog 18 #[cv 2 1] w fun e w' => e = .returned (.int .i64 1) ∧ Below w.heap.size w w') := Lib.hid (fun w => fLeftC_any 2 1 (by decide) (by decide) (by decide) w)
  have H6 := Lib.hid (fun A c w hs => ints_self16 A (some ⟨w.heap.size, 0, none⟩) c 3 [2, 1, 3] (w.alloc (.cells #[.int .i64 2, .int .i64 1, .int .i64 3] 3)) (CL.step hs (below_new w _)) (il_new16 w [2, 1, 3] 3) (by decide))
  go_enter Try.func10, Try.ntmps10
  go_wp2_with fail
  refine (H1.out w).mono ?_
  rintro e w1 ⟨rfl, hb⟩
  have B_w1 : Hid (Below w.heap.size w w1) := Lib.hid (hb)
  clear hb
  go_wp2_with first | (refine wpList_store_all (by rfl) 23 (.tmp 1) (.tmp 10) rfl rfl (w1.heap.size) rfl [.int .i64 2, .int .i64 2] rfl 23 [.int .i64 0, .int .i64 0] (BK.new w1 _ _) infoC2 rfl (all_one rfl) ?_; intro w2 hM hP; have Mc_w2 : Hid (BK 23 w2 (w1.heap.size) [.int .i64 2, .int .i64 2]) := Lib.hid hM; have Zc : Hid (w.heap.size ≤ w1.heap.size) := Lib.hid B_w1.out.size; have B_w2 : Hid (Below w.heap.size w w2) := Lib.hid (hP.below (stepB B_w1.out (below_new w1 _)) B_w1.out.size); clear B_w1 hM hP; have dc0 := Mc_w2.out.cell 0 rfl; have dc1 := Mc_w2.out.cell 1 rfl)
  refine (H2.out w2).mono ?_
  rintro e w3 ⟨rfl, hb⟩
  have B_w3 : Hid (Below w.heap.size w w3) := Lib.hid (stepB B_w2.out hb)
  have Mc_w3 : Hid (BK 23 w3 (w1.heap.size) [.int .i64 2, .int .i64 2]) := Lib.hid (Mc_w2.out.step hb)
  clear dc0 dc1
  clear B_w2 Mc_w2
  clear hb
  have dc0 := Mc_w3.out.cell 0 rfl
  have dc1 := Mc_w3.out.cell 1 rfl
  go_wp2_with first | (refine wpList_store_all (by rfl) 23 (.tmp 3) (.tmp 15) rfl rfl (w3.heap.size) rfl [.int .i64 2, .int .i64 2] rfl 23 [.int .i64 0, .int .i64 0] (BK.new w3 _ _) infoC2 rfl (all_one rfl) ?_; intro w4 hM hP; have Md_w4 : Hid (BK 23 w4 (w3.heap.size) [.int .i64 2, .int .i64 2]) := Lib.hid hM; have Lc_d : Hid (w1.heap.size < w3.heap.size) := Lib.hid Mc_w3.out.lt; have Zd : Hid (w.heap.size ≤ w3.heap.size) := Lib.hid B_w3.out.size; have B_w4 : Hid (Below w.heap.size w w4) := Lib.hid (hP.below (stepB B_w3.out (below_new w3 _)) B_w3.out.size); have Mc_w4 : Hid (BK 23 w4 (w1.heap.size) [.int .i64 2, .int .i64 2]) := Lib.hid (hP.other (BK.alloc Mc_w3.out _) (Nat.ne_of_lt Mc_w3.out.lt)); clear B_w3 Mc_w3 hM hP dc0 dc1)
  refine (H3.out w4).mono ?_
  rintro e w5 ⟨A1, c1, rfl, _, hs1, hb⟩
  have B_w5 : Hid (Below w.heap.size w w5) := Lib.hid (stepB B_w4.out (stepB (below_new w4 _) hb))
  have Mc_w5 : Hid (BK 23 w5 (w1.heap.size) [.int .i64 2, .int .i64 2]) := Lib.hid (Mc_w4.out.step (stepB (below_new w4 _) hb))
  have Md_w5 : Hid (BK 23 w5 (w3.heap.size) [.int .i64 2, .int .i64 2]) := Lib.hid (Md_w4.out.step (stepB (below_new w4 _) hb))
  clear B_w4 Mc_w4 Md_w4
  clear hb
  have Sl_w5 := Lib.hid (hs1)
  clear hs1
  have dc0 := Mc_w5.out.cell 0 rfl
  have dc1 := Mc_w5.out.cell 1 rfl
  have dd0 := Md_w5.out.cell 0 rfl
  have dd1 := Md_w5.out.cell 1 rfl
  go_wp2_with fail
  refine (same16_self 2 2 w5).mono ?_
  rintro e w6 ⟨rfl, hb⟩
  have B_w6 : Hid (Below w.heap.size w w6) := Lib.hid (stepB B_w5.out hb)
  have Mc_w6 : Hid (BK 23 w6 (w1.heap.size) [.int .i64 2, .int .i64 2]) := Lib.hid (Mc_w5.out.step hb)
  have Md_w6 : Hid (BK 23 w6 (w3.heap.size) [.int .i64 2, .int .i64 2]) := Lib.hid (Md_w5.out.step hb)
  have Sl_w6 : Hid (IL w6 w6.heap.size A1 [2, 1, 3]) := Lib.hid (CL.step Sl_w5.out hb)
  clear dc0 dc1 dd0 dd1
  clear B_w5 Mc_w5 Md_w5 Sl_w5
  clear hb
  have dc0 := Mc_w6.out.cell 0 rfl
  have dc1 := Mc_w6.out.cell 1 rfl
  have dd0 := Md_w6.out.cell 0 rfl
  have dd1 := Md_w6.out.cell 1 rfl
  go_wp2_with fail
  refine (same16_self 2 2 w6).mono ?_
  rintro e w7 ⟨rfl, hb⟩
  have B_w7 : Hid (Below w.heap.size w w7) := Lib.hid (stepB B_w6.out hb)
  have Mc_w7 : Hid (BK 23 w7 (w1.heap.size) [.int .i64 2, .int .i64 2]) := Lib.hid (Mc_w6.out.step hb)
  have Md_w7 : Hid (BK 23 w7 (w3.heap.size) [.int .i64 2, .int .i64 2]) := Lib.hid (Md_w6.out.step hb)
  have Sl_w7 : Hid (IL w7 w7.heap.size A1 [2, 1, 3]) := Lib.hid (CL.step Sl_w6.out hb)
  clear dc0 dc1 dd0 dd1
  clear B_w6 Mc_w6 Md_w6 Sl_w6
  clear hb
  have dc0 := Mc_w7.out.cell 0 rfl
  have dc1 := Mc_w7.out.cell 1 rfl
  go_wp2_with fail
  refine (H4.out w7).mono ?_
  rintro e w8 ⟨rfl, hb⟩
  have B_w8 : Hid (Below w.heap.size w w8) := Lib.hid (stepB B_w7.out hb)
  have Mc_w8 : Hid (BK 23 w8 (w1.heap.size) [.int .i64 2, .int .i64 2]) := Lib.hid (Mc_w7.out.step hb)
  have Md_w8 : Hid (BK 23 w8 (w3.heap.size) [.int .i64 2, .int .i64 2]) := Lib.hid (Md_w7.out.step hb)
  have Sl_w8 : Hid (IL w8 w8.heap.size A1 [2, 1, 3]) := Lib.hid (CL.step Sl_w7.out hb)
  clear dc0 dc1
  clear B_w7 Mc_w7 Md_w7 Sl_w7
  clear hb
  go_wp2_with fail
  refine (H5.out w8).mono ?_
  rintro e w9 ⟨rfl, hb⟩
  have B_w9 : Hid (Below w.heap.size w w9) := Lib.hid (stepB B_w8.out hb)
  have Mc_w9 : Hid (BK 23 w9 (w1.heap.size) [.int .i64 2, .int .i64 2]) := Lib.hid (Mc_w8.out.step hb)
  have Md_w9 : Hid (BK 23 w9 (w3.heap.size) [.int .i64 2, .int .i64 2]) := Lib.hid (Md_w8.out.step hb)
  have Sl_w9 : Hid (IL w9 w9.heap.size A1 [2, 1, 3]) := Lib.hid (CL.step Sl_w8.out hb)
  clear B_w8 Mc_w8 Md_w8 Sl_w8
  clear hb
  go_wp2_with fail
  refine (H6.out A1 c1 w9 Sl_w9.out).mono ?_
  rintro e w10 ⟨rfl, hb⟩
  have B_w10 : Hid (Below w.heap.size w w10) := Lib.hid (stepB B_w9.out (stepB (below_new w9 _) hb))
  have Mc_w10 : Hid (BK 23 w10 (w1.heap.size) [.int .i64 2, .int .i64 2]) := Lib.hid (Mc_w9.out.step (stepB (below_new w9 _) hb))
  have Md_w10 : Hid (BK 23 w10 (w3.heap.size) [.int .i64 2, .int .i64 2]) := Lib.hid (Md_w9.out.step (stepB (below_new w9 _) hb))
  have Sl_w10 : Hid (IL w10 w10.heap.size A1 [2, 1, 3]) := Lib.hid (CL.step Sl_w9.out (stepB (below_new w9 _) hb))
  clear B_w9 Mc_w9 Md_w9 Sl_w9
  clear hb
  go_wp2_with fail
  go_ret
  exact ⟨rfl, B_w10.out⟩
set_option maxRecDepth 20000 in
set_option maxHeartbeats 4000000 in
theorem flowUnits_bad (m u : Int) (x : Int) (w : World) (hv : okC (m, u) = false) :
    Calls Try.prog 3 #[cv m u, .int .i64 x] w fun e w' => e = .returned (.bool true) ∧ Below w.heap.size w w' := by
  have HA := Lib.hid (fun w => awake16_any w)
  obtain ⟨w0, hw0⟩ : ∃ w0, w0 = w.alloc (.cells #[.int .i64 m, .int .i64 u] 23) := ⟨_, rfl⟩
  have M0 : BK 23 w0 w.heap.size [.int .i64 m, .int .i64 u] := by rw [hw0]; exact BK.new w _ _
  have hb0 : Below w.heap.size w w0 := by rw [hw0]; exact below_new w _
  have B_w0 := Lib.hid hb0
  have Mt_w0 := Lib.hid M0
  have HW0 := Lib.hid hw0
  have CV := Lib.hid (fun w => rValidC_any m u w)
  rw [hv] at CV
  clear hv
  clear hw0 M0 hb0
  go_enter Try.func3, Try.ntmps3
  go_upto_region 1 with fail
  rw [← HW0.out]
  clear HW0
  have dt0 := Mt_w0.out.cell 0 rfl
  have dt1 := Mt_w0.out.cell 1 rfl
  go_wp2_with fail
  refine (CV.out w0).mono ?_
  rintro e w1 ⟨rfl, hb⟩
  have B_w1 : Hid (Below w.heap.size w w1) := Lib.hid (stepB B_w0.out hb)
  have Mt_w1 : Hid (BK 23 w1 (w.heap.size) [.int .i64 m, .int .i64 u]) := Lib.hid (Mt_w0.out.step hb)
  clear dt0 dt1
  clear B_w0 Mt_w0
  clear hb
  go_wp2_with fail
  refine (HA.out w1).mono ?_
  rintro e w2 ⟨rfl, hb⟩
  have B_w2 : Hid (Below w.heap.size w w2) := Lib.hid (stepB B_w1.out hb)
  have Mt_w2 : Hid (BK 23 w2 (w.heap.size) [.int .i64 m, .int .i64 u]) := Lib.hid (Mt_w1.out.step hb)
  clear B_w1 Mt_w1
  clear hb
  go_wp2_with fail
  go_ret
  exact ⟨rfl, B_w2.out⟩
set_option maxRecDepth 20000 in
set_option maxHeartbeats 4000000 in
theorem flowUnits_good (m u : Int) (x : Int) (w : World) (hv : okC (m, u) = true) :
    Calls Try.prog 3 #[cv m u, .int .i64 x] w fun e w' => e = .returned (.bool true) ∧ Below w.heap.size w w' := by
  have HA := Lib.hid (fun w => awake16_any w)
  obtain ⟨w0, hw0⟩ : ∃ w0, w0 = w.alloc (.cells #[.int .i64 m, .int .i64 u] 23) := ⟨_, rfl⟩
  have M0 : BK 23 w0 w.heap.size [.int .i64 m, .int .i64 u] := by rw [hw0]; exact BK.new w _ _
  have hb0 : Below w.heap.size w w0 := by rw [hw0]; exact below_new w _
  have B_w0 := Lib.hid hb0
  have Mt_w0 := Lib.hid M0
  have HW0 := Lib.hid hw0
  have CV := Lib.hid (fun w => rValidC_any m u w)
  have hv2 := okC_iff.1 hv
  dsimp only at hv2
  have C1 := Lib.hid (fun w => fTakeC_any m u hv w)
  have C2 := Lib.hid (fun w => rTakeC_any m u hv w)
  have C3 := Lib.hid (fun w => fGive_any m u hv w)
  have C4 := Lib.hid (fun w => rGive_any m u hv w)
  have C5 := Lib.hid (fun w => fLimit_any m u x hv w)
  have C6 := Lib.hid (fun w => rLimit_any m u x hv w)
  have C7 := Lib.hid (fun w => fLeftC_any m u (by omega) (by omega) (by omega) w)
  have C8 := Lib.hid (fun w => rLeftC_any m u (by omega) (by omega) (by omega) w)
  rw [hv] at CV
  generalize takeC m u = tk at C1 C2
  generalize decide (0 < lfC (m, u)) = ok at C1 C2
  generalize giveC u = gv at C3 C4
  generalize limC x = lm at C5 C6
  generalize lfC (m, u) = lf at C7 C8
  clear hv hv2
  clear hw0 M0 hb0
  go_enter Try.func3, Try.ntmps3
  go_upto_region 1 with fail
  rw [← HW0.out]
  clear HW0
  have dt0 := Mt_w0.out.cell 0 rfl
  have dt1 := Mt_w0.out.cell 1 rfl
  go_wp2_with fail
  refine (CV.out w0).mono ?_
  rintro e w1 ⟨rfl, hb⟩
  have B_w1 : Hid (Below w.heap.size w w1) := Lib.hid (stepB B_w0.out hb)
  have Mt_w1 : Hid (BK 23 w1 (w.heap.size) [.int .i64 m, .int .i64 u]) := Lib.hid (Mt_w0.out.step hb)
  clear dt0 dt1
  clear B_w0 Mt_w0
  clear hb
  have dt0 := Mt_w1.out.cell 0 rfl
  have dt1 := Mt_w1.out.cell 1 rfl
  go_wp2_with fail
  refine (C1.out w1).mono ?_
  rintro e w2 ⟨rfl, hb⟩
  have B_w2 : Hid (Below w.heap.size w w2) := Lib.hid (stepB B_w1.out hb)
  have Mt_w2 : Hid (BK 23 w2 (w.heap.size) [.int .i64 m, .int .i64 u]) := Lib.hid (Mt_w1.out.step hb)
  clear dt0 dt1
  clear B_w1 Mt_w1
  clear hb
  have dt0 := Mt_w2.out.cell 0 rfl
  have dt1 := Mt_w2.out.cell 1 rfl
  go_wp2_with first | (refine wpList_store_all (by rfl) 23 (.tmp 5) (.tmp 16) rfl rfl (w2.heap.size) rfl [.int .i64 m, .int .i64 tk] rfl 23 [.int .i64 0, .int .i64 0] (BK.new w2 _ _) infoC2 rfl (all_one rfl) ?_; intro w3 hM hP; have Md_w3 : Hid (BK 23 w3 (w2.heap.size) [.int .i64 m, .int .i64 tk]) := Lib.hid hM; have Lt_d : Hid (w.heap.size < w2.heap.size) := Lib.hid Mt_w2.out.lt; have Zd : Hid (w.heap.size ≤ w2.heap.size) := Lib.hid B_w2.out.size; have B_w3 : Hid (Below w.heap.size w w3) := Lib.hid (hP.below (stepB B_w2.out (below_new w2 _)) B_w2.out.size); have Mt_w3 : Hid (BK 23 w3 (w.heap.size) [.int .i64 m, .int .i64 u]) := Lib.hid (hP.other (BK.alloc Mt_w2.out _) (Nat.ne_of_lt Mt_w2.out.lt)); clear B_w2 Mt_w2 hM hP dt0 dt1; have dt0 := Mt_w3.out.cell 0 rfl; have dt1 := Mt_w3.out.cell 1 rfl)
  refine (C2.out w3).mono ?_
  rintro e w4 ⟨rfl, hb⟩
  have B_w4 : Hid (Below w.heap.size w w4) := Lib.hid (stepB B_w3.out hb)
  have Mt_w4 : Hid (BK 23 w4 (w.heap.size) [.int .i64 m, .int .i64 u]) := Lib.hid (Mt_w3.out.step hb)
  have Md_w4 : Hid (BK 23 w4 (w2.heap.size) [.int .i64 m, .int .i64 tk]) := Lib.hid (Md_w3.out.step hb)
  clear dt0 dt1
  clear B_w3 Mt_w3 Md_w3
  clear hb
  go_upto_region 5 with first | (refine wpList_store_all (by rfl) 23 (.tmp 7) (.tmp 21) rfl rfl (w4.heap.size) rfl [.int .i64 m, .int .i64 tk] rfl 23 [.int .i64 0, .int .i64 0] (BK.new w4 _ _) infoC2 rfl (all_one rfl) ?_; intro w5 hM hP; have Me_w5 : Hid (BK 23 w5 (w4.heap.size) [.int .i64 m, .int .i64 tk]) := Lib.hid hM; have Lt_e : Hid (w.heap.size < w4.heap.size) := Lib.hid Mt_w4.out.lt; have Ld_e : Hid (w2.heap.size < w4.heap.size) := Lib.hid Md_w4.out.lt; have Ze : Hid (w.heap.size ≤ w4.heap.size) := Lib.hid B_w4.out.size; have B_w5 : Hid (Below w.heap.size w w5) := Lib.hid (hP.below (stepB B_w4.out (below_new w4 _)) B_w4.out.size); have Mt_w5 : Hid (BK 23 w5 (w.heap.size) [.int .i64 m, .int .i64 u]) := Lib.hid (hP.other (BK.alloc Mt_w4.out _) (Nat.ne_of_lt Mt_w4.out.lt)); have Md_w5 : Hid (BK 23 w5 (w2.heap.size) [.int .i64 m, .int .i64 tk]) := Lib.hid (hP.other (BK.alloc Md_w4.out _) (Nat.ne_of_lt Md_w4.out.lt)); clear B_w4 Mt_w4 Md_w4 hM hP)
  obtain ⟨x5v1, hx5v1⟩ : ∃ x5v1, x5v1 = World.drew w5 := ⟨_, rfl⟩
  have hbD : Below w5.heap.size w5 x5v1 := by rw [hx5v1]; exact (Below.refl _ _).drew
  have B_x5v1 : Hid (Below w.heap.size w x5v1) := Lib.hid (stepB B_w5.out hbD)
  have Mt_x5v1 : Hid (BK 23 x5v1 (w.heap.size) [.int .i64 m, .int .i64 u]) := Lib.hid (Mt_w5.out.step hbD)
  have Md_x5v1 : Hid (BK 23 x5v1 (w2.heap.size) [.int .i64 m, .int .i64 tk]) := Lib.hid (Md_w5.out.step hbD)
  have Me_x5v1 : Hid (BK 23 x5v1 (w4.heap.size) [.int .i64 m, .int .i64 tk]) := Lib.hid (Me_w5.out.step hbD)
  clear B_w5 Mt_w5 Md_w5 Me_w5
  have hbd : (fun w' => BK 23 w' (w.heap.size) [.int .i64 m, .int .i64 u] ∧ BK 23 w' (w2.heap.size) [.int .i64 m, .int .i64 tk] ∧ BK 23 w' (w4.heap.size) [.int .i64 m, .int .i64 tk]) (World.drew w5) := by rw [← hx5v1]; exact ⟨Mt_x5v1.out, Md_x5v1.out, Me_x5v1.out⟩
  have hSD : (fun w' => BK 23 w' (w.heap.size) [.int .i64 m, .int .i64 u] ∧ BK 23 w' (w2.heap.size) [.int .i64 m, .int .i64 tk] ∧ BK 23 w' (w4.heap.size) [.int .i64 m, .int .i64 tk]) x5v1 := ⟨Mt_x5v1.out, Md_x5v1.out, Me_x5v1.out⟩
  have HWD := Lib.hid hx5v1
  clear hx5v1 hbD
  refine wp_region_held_drew (S := fun w' => BK 23 w' (w.heap.size) [.int .i64 m, .int .i64 u] ∧ BK 23 w' (w2.heap.size) [.int .i64 m, .int .i64 tk] ∧ BK 23 w' (w4.heap.size) [.int .i64 m, .int .i64 tk]) (by kernel_rfl) hbd (fun hHeld => ?_)
  rw [← HWD.out]
  clear hHeld
  have hHeld := hSD
  clear hSD hbd HWD
  refine wpAnyH_ready (rs := [0]) (by kernel_rfl) (by simp) ?_
  refine (AllReadyH.cons (get_ops _ _ _ rfl) (fun K hK => ?_) AllReadyH.nil)
  go_simp
  go_at_call 10
  refine (HA.out x5v1).mono ?_
  rintro e x5v2 ⟨rfl, hb⟩
  have B_x5v2 : Hid (Below w.heap.size w x5v2) := Lib.hid (stepB B_x5v1.out hb)
  have Mt_x5v2 : Hid (BK 23 x5v2 (w.heap.size) [.int .i64 m, .int .i64 u]) := Lib.hid (Mt_x5v1.out.step hb)
  have Md_x5v2 : Hid (BK 23 x5v2 (w2.heap.size) [.int .i64 m, .int .i64 tk]) := Lib.hid (Md_x5v1.out.step hb)
  have Me_x5v2 : Hid (BK 23 x5v2 (w4.heap.size) [.int .i64 m, .int .i64 tk]) := Lib.hid (Me_x5v1.out.step hb)
  clear B_x5v1 Mt_x5v1 Md_x5v1 Me_x5v1
  clear hHeld hb
  go_wp2_with fail
  refine hK.out _ _ ⟨Mt_x5v2.out, Md_x5v2.out, Me_x5v2.out⟩ (fun hHeld => ?_)
  clear hK K
  try simp only [Act.put, List.setIfInBounds_toArray, List.set_cons_zero, List.set_cons_succ]
  refine wpAnyH_take (i := 1) (v := .bool true) (get_ops _ _ _ rfl) (by kernel_rfl) (by kernel_rfl) (by kernel_rfl) (fun _ _ _ h => h) (Or.inl ⟨by rfl, fun wS hSw => by (try dsimp only at hSw); go_simp⟩) hHeld ?_
  try simp only [Act.put, List.setIfInBounds_toArray, List.set_cons_zero, List.set_cons_succ]
  refine wpAnyH_take (i := 2) (v := .agg [.int .i64 m, .int .i64 tk].toArray) (get_ops _ _ _ rfl) (by kernel_rfl) (by kernel_rfl) (by kernel_rfl) (fun _ _ _ h => h) (Or.inl ⟨by rfl, fun wS hSw => by (try dsimp only at hSw); exact exec_load 23 _ rfl ⟨(w2.heap.size), 0, none⟩ (by go_simp) _ (run_load_all hSw.2.1 Try.underlying23 rfl infoC2)⟩) hHeld ?_
  try simp only [Act.put, List.setIfInBounds_toArray, List.set_cons_zero, List.set_cons_succ]
  refine wpAnyH_take (i := 3) (v := .agg [.int .i64 m, .int .i64 tk].toArray) (get_ops _ _ _ rfl) (by kernel_rfl) (by kernel_rfl) (by kernel_rfl) (fun _ _ _ h => h) (Or.inl ⟨by rfl, fun wS hSw => by (try dsimp only at hSw); exact exec_load 23 _ rfl ⟨(w4.heap.size), 0, none⟩ (by go_simp) _ (run_load_all hSw.2.2 Try.underlying23 rfl infoC2)⟩) hHeld ?_
  try simp only [Act.put, List.setIfInBounds_toArray, List.set_cons_zero, List.set_cons_succ]
  refine wpAnyH_ready (rs := [4]) (by kernel_rfl) (by simp) ?_
  refine (AllReadyH.cons (get_ops _ _ _ rfl) (fun K hK => ?_) AllReadyH.nil)
  go_simp
  go_at_call 13
  refine (same16_self m tk x5v2).mono ?_
  rintro e x5v3 ⟨rfl, hb⟩
  have B_x5v3 : Hid (Below w.heap.size w x5v3) := Lib.hid (stepB B_x5v2.out hb)
  have Mt_x5v3 : Hid (BK 23 x5v3 (w.heap.size) [.int .i64 m, .int .i64 u]) := Lib.hid (Mt_x5v2.out.step hb)
  have Md_x5v3 : Hid (BK 23 x5v3 (w2.heap.size) [.int .i64 m, .int .i64 tk]) := Lib.hid (Md_x5v2.out.step hb)
  have Me_x5v3 : Hid (BK 23 x5v3 (w4.heap.size) [.int .i64 m, .int .i64 tk]) := Lib.hid (Me_x5v2.out.step hb)
  clear B_x5v2 Mt_x5v2 Md_x5v2 Me_x5v2
  clear hHeld hb
  go_wp2_with fail
  refine hK.out _ _ ⟨Mt_x5v3.out, Md_x5v3.out, Me_x5v3.out⟩ (fun hHeld => ?_)
  clear hK K
  try simp only [Act.put, List.setIfInBounds_toArray, List.set_cons_zero, List.set_cons_succ]
  refine wpAnyH_take (i := 5) (v := .bool true) (get_ops _ _ _ rfl) (by kernel_rfl) (by kernel_rfl) (by kernel_rfl) (fun _ _ _ h => h) (Or.inl ⟨by rfl, fun wS hSw => by (try dsimp only at hSw); go_simp⟩) hHeld ?_
  try simp only [Act.put, List.setIfInBounds_toArray, List.set_cons_zero, List.set_cons_succ]
  refine wpAnyH_take (i := 6) (v := .bool true) (get_ops _ _ _ rfl) (by kernel_rfl) (by kernel_rfl) (by kernel_rfl) (fun _ _ _ h => h) (Or.inl ⟨by rfl, fun wS hSw => by (try dsimp only at hSw); go_simp⟩) hHeld ?_
  try simp only [Act.put, List.setIfInBounds_toArray, List.set_cons_zero, List.set_cons_succ]
  refine wpAnyH_take (i := 7) (v := .bool ok) (get_ops _ _ _ rfl) (by kernel_rfl) (by kernel_rfl) (by kernel_rfl) (fun _ _ _ h => h) (Or.inl ⟨by rfl, fun wS hSw => by (try dsimp only at hSw); go_simp⟩) hHeld ?_
  try simp only [Act.put, List.setIfInBounds_toArray, List.set_cons_zero, List.set_cons_succ]
  refine wpAnyH_take (i := 8) (v := .bool ok) (get_ops _ _ _ rfl) (by kernel_rfl) (by kernel_rfl) (by kernel_rfl) (fun _ _ _ h => h) (Or.inl ⟨by rfl, fun wS hSw => by (try dsimp only at hSw); go_simp⟩) hHeld ?_
  try simp only [Act.put, List.setIfInBounds_toArray, List.set_cons_zero, List.set_cons_succ]
  refine wpAnyH_take (i := 9) (v := .bool true) (get_ops _ _ _ rfl) (by kernel_rfl) (by kernel_rfl) (by kernel_rfl) (fun _ _ _ h => h) (Or.inl ⟨by rfl, fun wS hSw => by (try dsimp only at hSw); go_simp⟩) hHeld ?_
  try simp only [Act.put, List.setIfInBounds_toArray, List.set_cons_zero, List.set_cons_succ]
  refine wpAnyH_take (i := 10) (v := .bool true) (get_ops _ _ _ rfl) (by kernel_rfl) (by kernel_rfl) (by kernel_rfl) (fun _ _ _ h => h) (Or.inl ⟨by rfl, fun wS hSw => by (try dsimp only at hSw); go_simp⟩) hHeld ?_
  try simp only [Act.put, List.setIfInBounds_toArray, List.set_cons_zero, List.set_cons_succ]
  refine wpAnyH_take (i := 11) (v := .bool true) (get_ops _ _ _ rfl) (by kernel_rfl) (by kernel_rfl) (by kernel_rfl) (fun _ _ _ h => h) (Or.inl ⟨by rfl, fun wS hSw => by (try dsimp only at hSw); go_simp⟩) hHeld ?_
  try simp only [Act.put, List.setIfInBounds_toArray, List.set_cons_zero, List.set_cons_succ]
  refine wpAnyH_take (i := 12) (v := .agg [.int .i64 m, .int .i64 u].toArray) (get_ops _ _ _ rfl) (by kernel_rfl) (by kernel_rfl) (by kernel_rfl) (fun _ _ _ h => h) (Or.inl ⟨by rfl, fun wS hSw => by (try dsimp only at hSw); exact exec_load 23 _ rfl ⟨(w.heap.size), 0, none⟩ (by go_simp) _ (run_load_all hSw.1 Try.underlying23 rfl infoC2)⟩) hHeld ?_
  try simp only [Act.put, List.setIfInBounds_toArray, List.set_cons_zero, List.set_cons_succ]
  refine wpAnyH_take (i := 14) (v := .agg [.int .i64 m, .int .i64 u].toArray) (get_ops _ _ _ rfl) (by kernel_rfl) (by kernel_rfl) (by kernel_rfl) (fun _ _ _ h => h) (Or.inl ⟨by rfl, fun wS hSw => by (try dsimp only at hSw); exact exec_load 23 _ rfl ⟨(w.heap.size), 0, none⟩ (by go_simp) _ (run_load_all hSw.1 Try.underlying23 rfl infoC2)⟩) hHeld ?_
  try simp only [Act.put, List.setIfInBounds_toArray, List.set_cons_zero, List.set_cons_succ]
  refine wpAnyH_ready (rs := [13]) (by kernel_rfl) (by simp) ?_
  refine (AllReadyH.cons (get_ops _ _ _ rfl) (fun K hK => ?_) AllReadyH.nil)
  go_simp
  go_at_call 14
  refine (C3.out x5v3).mono ?_
  rintro e x5v4 ⟨rfl, hb⟩
  have B_x5v4 : Hid (Below w.heap.size w x5v4) := Lib.hid (stepB B_x5v3.out hb)
  have Mt_x5v4 : Hid (BK 23 x5v4 (w.heap.size) [.int .i64 m, .int .i64 u]) := Lib.hid (Mt_x5v3.out.step hb)
  have Md_x5v4 : Hid (BK 23 x5v4 (w2.heap.size) [.int .i64 m, .int .i64 tk]) := Lib.hid (Md_x5v3.out.step hb)
  have Me_x5v4 : Hid (BK 23 x5v4 (w4.heap.size) [.int .i64 m, .int .i64 tk]) := Lib.hid (Me_x5v3.out.step hb)
  clear B_x5v3 Mt_x5v3 Md_x5v3 Me_x5v3
  clear hHeld hb
  go_wp2_with fail
  refine hK.out _ _ ⟨Mt_x5v4.out, Md_x5v4.out, Me_x5v4.out⟩ (fun hHeld => ?_)
  clear hK K
  try simp only [Act.put, List.setIfInBounds_toArray, List.set_cons_zero, List.set_cons_succ]
  refine wpAnyH_ready (rs := [15]) (by kernel_rfl) (by simp) ?_
  refine (AllReadyH.cons (get_ops _ _ _ rfl) (fun K hK => ?_) AllReadyH.nil)
  go_simp
  go_at_call 15
  refine (C4.out x5v4).mono ?_
  rintro e x5v5 ⟨rfl, hb⟩
  have B_x5v5 : Hid (Below w.heap.size w x5v5) := Lib.hid (stepB B_x5v4.out hb)
  have Mt_x5v5 : Hid (BK 23 x5v5 (w.heap.size) [.int .i64 m, .int .i64 u]) := Lib.hid (Mt_x5v4.out.step hb)
  have Md_x5v5 : Hid (BK 23 x5v5 (w2.heap.size) [.int .i64 m, .int .i64 tk]) := Lib.hid (Md_x5v4.out.step hb)
  have Me_x5v5 : Hid (BK 23 x5v5 (w4.heap.size) [.int .i64 m, .int .i64 tk]) := Lib.hid (Me_x5v4.out.step hb)
  clear B_x5v4 Mt_x5v4 Md_x5v4 Me_x5v4
  clear hHeld hb
  go_wp2_with fail
  refine hK.out _ _ ⟨Mt_x5v5.out, Md_x5v5.out, Me_x5v5.out⟩ (fun hHeld => ?_)
  clear hK K
  try simp only [Act.put, List.setIfInBounds_toArray, List.set_cons_zero, List.set_cons_succ]
  refine wpAnyH_ready (rs := [16]) (by kernel_rfl) (by simp) ?_
  refine (AllReadyH.cons (get_ops _ _ _ rfl) (fun K hK => ?_) AllReadyH.nil)
  go_simp
  go_at_call 13
  refine (same16_self m gv x5v5).mono ?_
  rintro e x5v6 ⟨rfl, hb⟩
  have B_x5v6 : Hid (Below w.heap.size w x5v6) := Lib.hid (stepB B_x5v5.out hb)
  have Mt_x5v6 : Hid (BK 23 x5v6 (w.heap.size) [.int .i64 m, .int .i64 u]) := Lib.hid (Mt_x5v5.out.step hb)
  have Md_x5v6 : Hid (BK 23 x5v6 (w2.heap.size) [.int .i64 m, .int .i64 tk]) := Lib.hid (Md_x5v5.out.step hb)
  have Me_x5v6 : Hid (BK 23 x5v6 (w4.heap.size) [.int .i64 m, .int .i64 tk]) := Lib.hid (Me_x5v5.out.step hb)
  clear B_x5v5 Mt_x5v5 Md_x5v5 Me_x5v5
  clear hHeld hb
  go_wp2_with fail
  refine hK.out _ _ ⟨Mt_x5v6.out, Md_x5v6.out, Me_x5v6.out⟩ (fun hHeld => ?_)
  clear hK K
  try simp only [Act.put, List.setIfInBounds_toArray, List.set_cons_zero, List.set_cons_succ]
  refine wpAnyH_take (i := 17) (v := .bool true) (get_ops _ _ _ rfl) (by kernel_rfl) (by kernel_rfl) (by kernel_rfl) (fun _ _ _ h => h) (Or.inl ⟨by rfl, fun wS hSw => by (try dsimp only at hSw); go_simp⟩) hHeld ?_
  try simp only [Act.put, List.setIfInBounds_toArray, List.set_cons_zero, List.set_cons_succ]
  refine wpAnyH_take (i := 18) (v := .bool true) (get_ops _ _ _ rfl) (by kernel_rfl) (by kernel_rfl) (by kernel_rfl) (fun _ _ _ h => h) (Or.inl ⟨by rfl, fun wS hSw => by (try dsimp only at hSw); go_simp⟩) hHeld ?_
  try simp only [Act.put, List.setIfInBounds_toArray, List.set_cons_zero, List.set_cons_succ]
  refine wpAnyH_take (i := 19) (v := .agg [.int .i64 m, .int .i64 u].toArray) (get_ops _ _ _ rfl) (by kernel_rfl) (by kernel_rfl) (by kernel_rfl) (fun _ _ _ h => h) (Or.inl ⟨by rfl, fun wS hSw => by (try dsimp only at hSw); exact exec_load 23 _ rfl ⟨(w.heap.size), 0, none⟩ (by go_simp) _ (run_load_all hSw.1 Try.underlying23 rfl infoC2)⟩) hHeld ?_
  try simp only [Act.put, List.setIfInBounds_toArray, List.set_cons_zero, List.set_cons_succ]
  refine wpAnyH_take (i := 20) (v := .int .i64 x) (get_ops _ _ _ rfl) (by kernel_rfl) (by kernel_rfl) (by kernel_rfl) (fun _ _ _ h => h) (Or.inl ⟨by rfl, fun wS hSw => by (try dsimp only at hSw); go_simp⟩) hHeld ?_
  try simp only [Act.put, List.setIfInBounds_toArray, List.set_cons_zero, List.set_cons_succ]
  refine wpAnyH_take (i := 22) (v := .agg [.int .i64 m, .int .i64 u].toArray) (get_ops _ _ _ rfl) (by kernel_rfl) (by kernel_rfl) (by kernel_rfl) (fun _ _ _ h => h) (Or.inl ⟨by rfl, fun wS hSw => by (try dsimp only at hSw); exact exec_load 23 _ rfl ⟨(w.heap.size), 0, none⟩ (by go_simp) _ (run_load_all hSw.1 Try.underlying23 rfl infoC2)⟩) hHeld ?_
  try simp only [Act.put, List.setIfInBounds_toArray, List.set_cons_zero, List.set_cons_succ]
  refine wpAnyH_take (i := 23) (v := .int .i64 x) (get_ops _ _ _ rfl) (by kernel_rfl) (by kernel_rfl) (by kernel_rfl) (fun _ _ _ h => h) (Or.inl ⟨by rfl, fun wS hSw => by (try dsimp only at hSw); go_simp⟩) hHeld ?_
  try simp only [Act.put, List.setIfInBounds_toArray, List.set_cons_zero, List.set_cons_succ]
  refine wpAnyH_ready (rs := [21]) (by kernel_rfl) (by simp) ?_
  refine (AllReadyH.cons (get_ops _ _ _ rfl) (fun K hK => ?_) AllReadyH.nil)
  go_simp
  go_at_call 16
  refine (C5.out x5v6).mono ?_
  rintro e x5v7 ⟨rfl, hb⟩
  have B_x5v7 : Hid (Below w.heap.size w x5v7) := Lib.hid (stepB B_x5v6.out hb)
  have Mt_x5v7 : Hid (BK 23 x5v7 (w.heap.size) [.int .i64 m, .int .i64 u]) := Lib.hid (Mt_x5v6.out.step hb)
  have Md_x5v7 : Hid (BK 23 x5v7 (w2.heap.size) [.int .i64 m, .int .i64 tk]) := Lib.hid (Md_x5v6.out.step hb)
  have Me_x5v7 : Hid (BK 23 x5v7 (w4.heap.size) [.int .i64 m, .int .i64 tk]) := Lib.hid (Me_x5v6.out.step hb)
  clear B_x5v6 Mt_x5v6 Md_x5v6 Me_x5v6
  clear hHeld hb
  go_wp2_with fail
  refine hK.out _ _ ⟨Mt_x5v7.out, Md_x5v7.out, Me_x5v7.out⟩ (fun hHeld => ?_)
  clear hK K
  try simp only [Act.put, List.setIfInBounds_toArray, List.set_cons_zero, List.set_cons_succ]
  refine wpAnyH_ready (rs := [24]) (by kernel_rfl) (by simp) ?_
  refine (AllReadyH.cons (get_ops _ _ _ rfl) (fun K hK => ?_) AllReadyH.nil)
  go_simp
  go_at_call 17
  refine (C6.out x5v7).mono ?_
  rintro e x5v8 ⟨rfl, hb⟩
  have B_x5v8 : Hid (Below w.heap.size w x5v8) := Lib.hid (stepB B_x5v7.out hb)
  have Mt_x5v8 : Hid (BK 23 x5v8 (w.heap.size) [.int .i64 m, .int .i64 u]) := Lib.hid (Mt_x5v7.out.step hb)
  have Md_x5v8 : Hid (BK 23 x5v8 (w2.heap.size) [.int .i64 m, .int .i64 tk]) := Lib.hid (Md_x5v7.out.step hb)
  have Me_x5v8 : Hid (BK 23 x5v8 (w4.heap.size) [.int .i64 m, .int .i64 tk]) := Lib.hid (Me_x5v7.out.step hb)
  clear B_x5v7 Mt_x5v7 Md_x5v7 Me_x5v7
  clear hHeld hb
  go_wp2_with fail
  refine hK.out _ _ ⟨Mt_x5v8.out, Md_x5v8.out, Me_x5v8.out⟩ (fun hHeld => ?_)
  clear hK K
  try simp only [Act.put, List.setIfInBounds_toArray, List.set_cons_zero, List.set_cons_succ]
  refine wpAnyH_ready (rs := [25]) (by kernel_rfl) (by simp) ?_
  refine (AllReadyH.cons (get_ops _ _ _ rfl) (fun K hK => ?_) AllReadyH.nil)
  go_simp
  go_at_call 13
  refine (same16_self lm u x5v8).mono ?_
  rintro e x5v9 ⟨rfl, hb⟩
  have B_x5v9 : Hid (Below w.heap.size w x5v9) := Lib.hid (stepB B_x5v8.out hb)
  have Mt_x5v9 : Hid (BK 23 x5v9 (w.heap.size) [.int .i64 m, .int .i64 u]) := Lib.hid (Mt_x5v8.out.step hb)
  have Md_x5v9 : Hid (BK 23 x5v9 (w2.heap.size) [.int .i64 m, .int .i64 tk]) := Lib.hid (Md_x5v8.out.step hb)
  have Me_x5v9 : Hid (BK 23 x5v9 (w4.heap.size) [.int .i64 m, .int .i64 tk]) := Lib.hid (Me_x5v8.out.step hb)
  clear B_x5v8 Mt_x5v8 Md_x5v8 Me_x5v8
  clear hHeld hb
  go_wp2_with fail
  refine hK.out _ _ ⟨Mt_x5v9.out, Md_x5v9.out, Me_x5v9.out⟩ (fun hHeld => ?_)
  clear hK K
  try simp only [Act.put, List.setIfInBounds_toArray, List.set_cons_zero, List.set_cons_succ]
  refine wpAnyH_take (i := 26) (v := .bool true) (get_ops _ _ _ rfl) (by kernel_rfl) (by kernel_rfl) (by kernel_rfl) (fun _ _ _ h => h) (Or.inl ⟨by rfl, fun wS hSw => by (try dsimp only at hSw); go_simp⟩) hHeld ?_
  try simp only [Act.put, List.setIfInBounds_toArray, List.set_cons_zero, List.set_cons_succ]
  refine wpAnyH_take (i := 27) (v := .bool true) (get_ops _ _ _ rfl) (by kernel_rfl) (by kernel_rfl) (by kernel_rfl) (fun _ _ _ h => h) (Or.inl ⟨by rfl, fun wS hSw => by (try dsimp only at hSw); go_simp⟩) hHeld ?_
  try simp only [Act.put, List.setIfInBounds_toArray, List.set_cons_zero, List.set_cons_succ]
  refine wpAnyH_take (i := 28) (v := .agg [.int .i64 m, .int .i64 u].toArray) (get_ops _ _ _ rfl) (by kernel_rfl) (by kernel_rfl) (by kernel_rfl) (fun _ _ _ h => h) (Or.inl ⟨by rfl, fun wS hSw => by (try dsimp only at hSw); exact exec_load 23 _ rfl ⟨(w.heap.size), 0, none⟩ (by go_simp) _ (run_load_all hSw.1 Try.underlying23 rfl infoC2)⟩) hHeld ?_
  try simp only [Act.put, List.setIfInBounds_toArray, List.set_cons_zero, List.set_cons_succ]
  refine wpAnyH_take (i := 30) (v := .agg [.int .i64 m, .int .i64 u].toArray) (get_ops _ _ _ rfl) (by kernel_rfl) (by kernel_rfl) (by kernel_rfl) (fun _ _ _ h => h) (Or.inl ⟨by rfl, fun wS hSw => by (try dsimp only at hSw); exact exec_load 23 _ rfl ⟨(w.heap.size), 0, none⟩ (by go_simp) _ (run_load_all hSw.1 Try.underlying23 rfl infoC2)⟩) hHeld ?_
  try simp only [Act.put, List.setIfInBounds_toArray, List.set_cons_zero, List.set_cons_succ]
  refine wpAnyH_ready (rs := [29]) (by kernel_rfl) (by simp) ?_
  refine (AllReadyH.cons (get_ops _ _ _ rfl) (fun K hK => ?_) AllReadyH.nil)
  go_simp
  go_at_call 18
  refine (C7.out x5v9).mono ?_
  rintro e x5v10 ⟨rfl, hb⟩
  have B_x5v10 : Hid (Below w.heap.size w x5v10) := Lib.hid (stepB B_x5v9.out hb)
  have Mt_x5v10 : Hid (BK 23 x5v10 (w.heap.size) [.int .i64 m, .int .i64 u]) := Lib.hid (Mt_x5v9.out.step hb)
  have Md_x5v10 : Hid (BK 23 x5v10 (w2.heap.size) [.int .i64 m, .int .i64 tk]) := Lib.hid (Md_x5v9.out.step hb)
  have Me_x5v10 : Hid (BK 23 x5v10 (w4.heap.size) [.int .i64 m, .int .i64 tk]) := Lib.hid (Me_x5v9.out.step hb)
  clear B_x5v9 Mt_x5v9 Md_x5v9 Me_x5v9
  clear hHeld hb
  go_wp2_with fail
  refine hK.out _ _ ⟨Mt_x5v10.out, Md_x5v10.out, Me_x5v10.out⟩ (fun hHeld => ?_)
  clear hK K
  try simp only [Act.put, List.setIfInBounds_toArray, List.set_cons_zero, List.set_cons_succ]
  refine wpAnyH_ready (rs := [31]) (by kernel_rfl) (by simp) ?_
  refine (AllReadyH.cons (get_ops _ _ _ rfl) (fun K hK => ?_) AllReadyH.nil)
  go_simp
  go_at_call 19
  refine (C8.out x5v10).mono ?_
  rintro e x5v11 ⟨rfl, hb⟩
  have B_x5v11 : Hid (Below w.heap.size w x5v11) := Lib.hid (stepB B_x5v10.out hb)
  have Mt_x5v11 : Hid (BK 23 x5v11 (w.heap.size) [.int .i64 m, .int .i64 u]) := Lib.hid (Mt_x5v10.out.step hb)
  have Md_x5v11 : Hid (BK 23 x5v11 (w2.heap.size) [.int .i64 m, .int .i64 tk]) := Lib.hid (Md_x5v10.out.step hb)
  have Me_x5v11 : Hid (BK 23 x5v11 (w4.heap.size) [.int .i64 m, .int .i64 tk]) := Lib.hid (Me_x5v10.out.step hb)
  clear B_x5v10 Mt_x5v10 Md_x5v10 Me_x5v10
  clear hHeld hb
  go_wp2_with fail
  refine hK.out _ _ ⟨Mt_x5v11.out, Md_x5v11.out, Me_x5v11.out⟩ (fun hHeld => ?_)
  clear hK K
  try simp only [Act.put, List.setIfInBounds_toArray, List.set_cons_zero, List.set_cons_succ]
  refine wpAnyH_take (i := 32) (v := .bool true) (get_ops _ _ _ rfl) (by kernel_rfl) (by kernel_rfl) (by kernel_rfl) (fun _ _ _ h => h) (Or.inl ⟨by rfl, fun wS hSw => by (try dsimp only at hSw); go_simp⟩) hHeld ?_
  try simp only [Act.put, List.setIfInBounds_toArray, List.set_cons_zero, List.set_cons_succ]
  refine wpAnyH_take (i := 33) (v := .bool true) (get_ops _ _ _ rfl) (by kernel_rfl) (by kernel_rfl) (by kernel_rfl) (fun _ _ _ h => h) (Or.inl ⟨by rfl, fun wS hSw => by (try dsimp only at hSw); go_simp⟩) hHeld ?_
  try simp only [Act.put, List.setIfInBounds_toArray, List.set_cons_zero, List.set_cons_succ]
  refine wpAnyH_take (i := 34) (v := .bool true) (get_ops _ _ _ rfl) (by kernel_rfl) (by kernel_rfl) (by kernel_rfl) (fun _ _ _ h => h) (Or.inl ⟨by rfl, fun wS hSw => by (try dsimp only at hSw); go_simp⟩) hHeld ?_
  try simp only [Act.put, List.setIfInBounds_toArray, List.set_cons_zero, List.set_cons_succ]
  refine wpAnyH_done (by kernel_rfl) ?_ _
  go_wp2_with fail
  go_ret
  exact ⟨rfl, B_x5v11.out⟩
theorem flowUnits_walk (m u : Int) (x : Int) (w : World) :
    Calls Try.prog 3 #[cv m u, .int .i64 x] w fun e w' => e = .returned (.bool true) ∧ Below w.heap.size w w' := by
  cases hv : okC (m, u) with
  | true => exact flowUnits_good m u x w hv
  | false => exact flowUnits_bad m u x w hv
set_option maxRecDepth 20000 in
set_option maxHeartbeats 4000000 in
theorem flowBack_bad (m u : Int) (w : World) (hv : okC (m, u) = false) :
    Calls Try.prog 4 #[cv m u] w fun e w' => e = .returned (.bool true) ∧ Below w.heap.size w w' := by
  have HA := Lib.hid (fun w => awake16_any w)
  obtain ⟨w0, hw0⟩ : ∃ w0, w0 = w.alloc (.cells #[.int .i64 m, .int .i64 u] 23) := ⟨_, rfl⟩
  have M0 : BK 23 w0 w.heap.size [.int .i64 m, .int .i64 u] := by rw [hw0]; exact BK.new w _ _
  have hb0 : Below w.heap.size w w0 := by rw [hw0]; exact below_new w _
  have B_w0 := Lib.hid hb0
  have Mt_w0 := Lib.hid M0
  have HW0 := Lib.hid hw0
  have CV := Lib.hid (fun w => rValidC_any m u w)
  rw [hv] at CV
  clear hv
  clear hw0 M0 hb0
  go_enter Try.func4, Try.ntmps4
  go_upto_region 1 with fail
  rw [← HW0.out]
  clear HW0
  have dt0 := Mt_w0.out.cell 0 rfl
  have dt1 := Mt_w0.out.cell 1 rfl
  go_wp2_with fail
  refine (CV.out w0).mono ?_
  rintro e w1 ⟨rfl, hb⟩
  have B_w1 : Hid (Below w.heap.size w w1) := Lib.hid (stepB B_w0.out hb)
  have Mt_w1 : Hid (BK 23 w1 (w.heap.size) [.int .i64 m, .int .i64 u]) := Lib.hid (Mt_w0.out.step hb)
  clear dt0 dt1
  clear B_w0 Mt_w0
  clear hb
  go_wp2_with fail
  refine (HA.out w1).mono ?_
  rintro e w2 ⟨rfl, hb⟩
  have B_w2 : Hid (Below w.heap.size w w2) := Lib.hid (stepB B_w1.out hb)
  have Mt_w2 : Hid (BK 23 w2 (w.heap.size) [.int .i64 m, .int .i64 u]) := Lib.hid (Mt_w1.out.step hb)
  clear B_w1 Mt_w1
  clear hb
  go_wp2_with fail
  go_ret
  exact ⟨rfl, B_w2.out⟩
set_option maxRecDepth 20000 in
set_option maxHeartbeats 4000000 in
theorem flowBack_tLow (m u : Int) (w : World) (hv : okC (m, u) = true) (hp : 0 < lfC (m, u)) (h1 : u < 1) :
    Calls Try.prog 4 #[cv m u] w fun e w' => e = .returned (.bool true) ∧ Below w.heap.size w w' := by
  have HA := Lib.hid (fun w => awake16_any w)
  obtain ⟨w0, hw0⟩ : ∃ w0, w0 = w.alloc (.cells #[.int .i64 m, .int .i64 u] 23) := ⟨_, rfl⟩
  have M0 : BK 23 w0 w.heap.size [.int .i64 m, .int .i64 u] := by rw [hw0]; exact BK.new w _ _
  have hb0 : Below w.heap.size w w0 := by rw [hw0]; exact below_new w _
  have B_w0 := Lib.hid hb0
  have Mt_w0 := Lib.hid M0
  have HW0 := Lib.hid hw0
  have CV := Lib.hid (fun w => rValidC_any m u w)
  have hv2 := okC_iff.1 hv
  dsimp only at hv2
  have C1 := Lib.hid (fun w => fTakeC_any m u hv w)
  have hz := lf_nonneg (m, u)
  rw [hv] at CV
  have e1 : takeC m u = u + 1 := by unfold takeC; rw [if_neg (by omega)]
  rw [e1, decide_eq_true hp] at C1
  have hlt : u < m := by unfold lfC at hp; dsimp only at hp; split at hp <;> omega
  have C2 : Hid (∀ w, Calls Try.prog 14 #[cv m (u + 1)] w (RetC m u w)) := Lib.hid (fun w => by
    have := fGive_any m (u + 1) (by rw [okC_iff]; dsimp only; omega) w
    have e : giveC (u + 1) = u := by unfold giveC; rw [if_neg (by omega)]; omega
    rw [e] at this; exact this)
  have q1 : decide (u < 1) = true := decide_eq_true h1
  clear hv hv2 hz hp e1 hlt h1
  clear hw0 M0 hb0
  go_enter Try.func4, Try.ntmps4
  go_upto_region 1 with fail
  rw [← HW0.out]
  clear HW0
  have dt0 := Mt_w0.out.cell 0 rfl
  have dt1 := Mt_w0.out.cell 1 rfl
  go_wp2_with fail
  refine (CV.out w0).mono ?_
  rintro e w1 ⟨rfl, hb⟩
  have B_w1 : Hid (Below w.heap.size w w1) := Lib.hid (stepB B_w0.out hb)
  have Mt_w1 : Hid (BK 23 w1 (w.heap.size) [.int .i64 m, .int .i64 u]) := Lib.hid (Mt_w0.out.step hb)
  clear dt0 dt1
  clear B_w0 Mt_w0
  clear hb
  have dt0 := Mt_w1.out.cell 0 rfl
  have dt1 := Mt_w1.out.cell 1 rfl
  go_wp2_with fail
  refine (C1.out w1).mono ?_
  rintro e w2 ⟨rfl, hb⟩
  have B_w2 : Hid (Below w.heap.size w w2) := Lib.hid (stepB B_w1.out hb)
  have Mt_w2 : Hid (BK 23 w2 (w.heap.size) [.int .i64 m, .int .i64 u]) := Lib.hid (Mt_w1.out.step hb)
  clear dt0 dt1
  clear B_w1 Mt_w1
  clear hb
  go_upto_region 4 with first | (refine wpList_store_all (by rfl) 23 (.tmp 3) (.tmp 13) rfl rfl (w2.heap.size) rfl [.int .i64 m, .int .i64 (u + 1)] rfl 23 [.int .i64 0, .int .i64 0] (BK.new w2 _ _) infoC2 rfl (all_one rfl) ?_; intro w3 hM hP; have Md_w3 : Hid (BK 23 w3 (w2.heap.size) [.int .i64 m, .int .i64 (u + 1)]) := Lib.hid hM; have Lt_d : Hid (w.heap.size < w2.heap.size) := Lib.hid Mt_w2.out.lt; have Zd : Hid (w.heap.size ≤ w2.heap.size) := Lib.hid B_w2.out.size; have B_w3 : Hid (Below w.heap.size w w3) := Lib.hid (hP.below (stepB B_w2.out (below_new w2 _)) B_w2.out.size); have Mt_w3 : Hid (BK 23 w3 (w.heap.size) [.int .i64 m, .int .i64 u]) := Lib.hid (hP.other (BK.alloc Mt_w2.out _) (Nat.ne_of_lt Mt_w2.out.lt)); clear B_w2 Mt_w2 hM hP)
  obtain ⟨x3v1, hx3v1⟩ : ∃ x3v1, x3v1 = World.drew w3 := ⟨_, rfl⟩
  have hbD : Below w3.heap.size w3 x3v1 := by rw [hx3v1]; exact (Below.refl _ _).drew
  have B_x3v1 : Hid (Below w.heap.size w x3v1) := Lib.hid (stepB B_w3.out hbD)
  have Mt_x3v1 : Hid (BK 23 x3v1 (w.heap.size) [.int .i64 m, .int .i64 u]) := Lib.hid (Mt_w3.out.step hbD)
  have Md_x3v1 : Hid (BK 23 x3v1 (w2.heap.size) [.int .i64 m, .int .i64 (u + 1)]) := Lib.hid (Md_w3.out.step hbD)
  clear B_w3 Mt_w3 Md_w3
  have hbd : (fun w' => BK 23 w' (w.heap.size) [.int .i64 m, .int .i64 u] ∧ BK 23 w' (w2.heap.size) [.int .i64 m, .int .i64 (u + 1)]) (World.drew w3) := by rw [← hx3v1]; exact ⟨Mt_x3v1.out, Md_x3v1.out⟩
  have hSD : (fun w' => BK 23 w' (w.heap.size) [.int .i64 m, .int .i64 u] ∧ BK 23 w' (w2.heap.size) [.int .i64 m, .int .i64 (u + 1)]) x3v1 := ⟨Mt_x3v1.out, Md_x3v1.out⟩
  have HWD := Lib.hid hx3v1
  clear hx3v1 hbD
  refine wp_region_held_drew (S := fun w' => BK 23 w' (w.heap.size) [.int .i64 m, .int .i64 u] ∧ BK 23 w' (w2.heap.size) [.int .i64 m, .int .i64 (u + 1)]) (by kernel_rfl) hbd (fun hHeld => ?_)
  rw [← HWD.out]
  clear hHeld
  have hHeld := hSD
  clear hSD hbd HWD
  refine wpAnyH_take (i := 0) (v := .bool true) (get_ops _ _ _ rfl) (by kernel_rfl) (by kernel_rfl) (by kernel_rfl) (fun _ _ _ h => h) (Or.inl ⟨by rfl, fun wS hSw => by (try dsimp only at hSw); go_simp⟩) hHeld ?_
  try simp only [Act.put, List.setIfInBounds_toArray, List.set_cons_zero, List.set_cons_succ]
  refine wpAnyH_take (i := 1) (v := .bool true) (get_ops _ _ _ rfl) (by kernel_rfl) (by kernel_rfl) (by kernel_rfl) (fun _ _ _ h => h) (Or.inl ⟨by rfl, fun wS hSw => by (try dsimp only at hSw); go_simp⟩) hHeld ?_
  try simp only [Act.put, List.setIfInBounds_toArray, List.set_cons_zero, List.set_cons_succ]
  refine wpAnyH_take (i := 2) (v := .agg [.int .i64 m, .int .i64 (u + 1)].toArray) (get_ops _ _ _ rfl) (by kernel_rfl) (by kernel_rfl) (by kernel_rfl) (fun _ _ _ h => h) (Or.inl ⟨by rfl, fun wS hSw => by (try dsimp only at hSw); exact exec_load 23 _ rfl ⟨(w2.heap.size), 0, none⟩ (by go_simp) _ (run_load_all hSw.2 Try.underlying23 rfl infoC2)⟩) hHeld ?_
  try simp only [Act.put, List.setIfInBounds_toArray, List.set_cons_zero, List.set_cons_succ]
  refine wpAnyH_take (i := 4) (v := .agg [.int .i64 m, .int .i64 u].toArray) (get_ops _ _ _ rfl) (by kernel_rfl) (by kernel_rfl) (by kernel_rfl) (fun _ _ _ h => h) (Or.inl ⟨by rfl, fun wS hSw => by (try dsimp only at hSw); exact exec_load 23 _ rfl ⟨(w.heap.size), 0, none⟩ (by go_simp) _ (run_load_all hSw.1 Try.underlying23 rfl infoC2)⟩) hHeld ?_
  try simp only [Act.put, List.setIfInBounds_toArray, List.set_cons_zero, List.set_cons_succ]
  refine wpAnyH_ready (rs := [3]) (by kernel_rfl) (by simp) ?_
  refine (AllReadyH.cons (get_ops _ _ _ rfl) (fun K hK => ?_) AllReadyH.nil)
  go_simp
  go_at_call 14
  refine (C2.out x3v1).mono ?_
  rintro e x3v2 ⟨rfl, hb⟩
  have B_x3v2 : Hid (Below w.heap.size w x3v2) := Lib.hid (stepB B_x3v1.out hb)
  have Mt_x3v2 : Hid (BK 23 x3v2 (w.heap.size) [.int .i64 m, .int .i64 u]) := Lib.hid (Mt_x3v1.out.step hb)
  have Md_x3v2 : Hid (BK 23 x3v2 (w2.heap.size) [.int .i64 m, .int .i64 (u + 1)]) := Lib.hid (Md_x3v1.out.step hb)
  clear B_x3v1 Mt_x3v1 Md_x3v1
  clear hHeld hb
  go_wp2_with fail
  refine hK.out _ _ ⟨Mt_x3v2.out, Md_x3v2.out⟩ (fun hHeld => ?_)
  clear hK K
  try simp only [Act.put, List.setIfInBounds_toArray, List.set_cons_zero, List.set_cons_succ]
  refine wpAnyH_ready (rs := [5]) (by kernel_rfl) (by simp) ?_
  refine (AllReadyH.cons (get_ops _ _ _ rfl) (fun K hK => ?_) AllReadyH.nil)
  go_simp
  go_at_call 13
  refine (same16_self m u x3v2).mono ?_
  rintro e x3v3 ⟨rfl, hb⟩
  have B_x3v3 : Hid (Below w.heap.size w x3v3) := Lib.hid (stepB B_x3v2.out hb)
  have Mt_x3v3 : Hid (BK 23 x3v3 (w.heap.size) [.int .i64 m, .int .i64 u]) := Lib.hid (Mt_x3v2.out.step hb)
  have Md_x3v3 : Hid (BK 23 x3v3 (w2.heap.size) [.int .i64 m, .int .i64 (u + 1)]) := Lib.hid (Md_x3v2.out.step hb)
  clear B_x3v2 Mt_x3v2 Md_x3v2
  clear hHeld hb
  go_wp2_with fail
  refine hK.out _ _ ⟨Mt_x3v3.out, Md_x3v3.out⟩ (fun hHeld => ?_)
  clear hK K
  try simp only [Act.put, List.setIfInBounds_toArray, List.set_cons_zero, List.set_cons_succ]
  refine wpAnyH_take (i := 6) (v := .bool false) (get_ops _ _ _ rfl) (by kernel_rfl) (by kernel_rfl) (by kernel_rfl) (fun _ _ _ h => h) (Or.inl ⟨by rfl, fun wS hSw => by (try dsimp only at hSw); go_simp⟩) hHeld ?_
  try simp only [Act.put, List.setIfInBounds_toArray, List.set_cons_zero, List.set_cons_succ]
  refine wpAnyH_take (i := 7) (v := .bool false) (get_ops _ _ _ rfl) (by kernel_rfl) (by kernel_rfl) (by kernel_rfl) (fun _ _ _ h => h) (Or.inl ⟨by rfl, fun wS hSw => by (try dsimp only at hSw); go_simp⟩) hHeld ?_
  try simp only [Act.put, List.setIfInBounds_toArray, List.set_cons_zero, List.set_cons_succ]
  refine wpAnyH_done (by kernel_rfl) ?_ _
  have dt0 := Mt_x3v3.out.cell 0 rfl
  have dt1 := Mt_x3v3.out.cell 1 rfl
  go_wp2_with fail
  refine (HA.out x3v3).mono ?_
  rintro e w5 ⟨rfl, hb⟩
  have B_w5 : Hid (Below w.heap.size w w5) := Lib.hid (stepB B_x3v3.out hb)
  have Mt_w5 : Hid (BK 23 w5 (w.heap.size) [.int .i64 m, .int .i64 u]) := Lib.hid (Mt_x3v3.out.step hb)
  have Md_w5 : Hid (BK 23 w5 (w2.heap.size) [.int .i64 m, .int .i64 (u + 1)]) := Lib.hid (Md_x3v3.out.step hb)
  clear dt0 dt1
  clear B_x3v3 Mt_x3v3 Md_x3v3
  clear hb
  go_wp2_with fail
  go_ret
  exact ⟨rfl, B_w5.out⟩
set_option maxRecDepth 20000 in
set_option maxHeartbeats 4000000 in
theorem flowBack_tHigh (m u : Int) (w : World) (hv : okC (m, u) = true) (hp : 0 < lfC (m, u)) (h1 : ¬ u < 1) (h2 : m < u) :
    Calls Try.prog 4 #[cv m u] w fun e w' => e = .returned (.bool true) ∧ Below w.heap.size w w' := by
  have HA := Lib.hid (fun w => awake16_any w)
  obtain ⟨w0, hw0⟩ : ∃ w0, w0 = w.alloc (.cells #[.int .i64 m, .int .i64 u] 23) := ⟨_, rfl⟩
  have M0 : BK 23 w0 w.heap.size [.int .i64 m, .int .i64 u] := by rw [hw0]; exact BK.new w _ _
  have hb0 : Below w.heap.size w w0 := by rw [hw0]; exact below_new w _
  have B_w0 := Lib.hid hb0
  have Mt_w0 := Lib.hid M0
  have HW0 := Lib.hid hw0
  have CV := Lib.hid (fun w => rValidC_any m u w)
  have hv2 := okC_iff.1 hv
  dsimp only at hv2
  have C1 := Lib.hid (fun w => fTakeC_any m u hv w)
  have hz := lf_nonneg (m, u)
  rw [hv] at CV
  have e1 : takeC m u = u + 1 := by unfold takeC; rw [if_neg (by omega)]
  rw [e1, decide_eq_true hp] at C1
  have hlt : u < m := by unfold lfC at hp; dsimp only at hp; split at hp <;> omega
  have C2 : Hid (∀ w, Calls Try.prog 14 #[cv m (u + 1)] w (RetC m u w)) := Lib.hid (fun w => by
    have := fGive_any m (u + 1) (by rw [okC_iff]; dsimp only; omega) w
    have e : giveC (u + 1) = u := by unfold giveC; rw [if_neg (by omega)]; omega
    rw [e] at this; exact this)
  have q1 : decide (u < 1) = false := decide_eq_false h1
  have q2 : decide (m < u) = true := decide_eq_true h2
  clear hv hv2 hz hp e1 hlt h1 h2
  clear hw0 M0 hb0
  go_enter Try.func4, Try.ntmps4
  go_upto_region 1 with fail
  rw [← HW0.out]
  clear HW0
  have dt0 := Mt_w0.out.cell 0 rfl
  have dt1 := Mt_w0.out.cell 1 rfl
  go_wp2_with fail
  refine (CV.out w0).mono ?_
  rintro e w1 ⟨rfl, hb⟩
  have B_w1 : Hid (Below w.heap.size w w1) := Lib.hid (stepB B_w0.out hb)
  have Mt_w1 : Hid (BK 23 w1 (w.heap.size) [.int .i64 m, .int .i64 u]) := Lib.hid (Mt_w0.out.step hb)
  clear dt0 dt1
  clear B_w0 Mt_w0
  clear hb
  have dt0 := Mt_w1.out.cell 0 rfl
  have dt1 := Mt_w1.out.cell 1 rfl
  go_wp2_with fail
  refine (C1.out w1).mono ?_
  rintro e w2 ⟨rfl, hb⟩
  have B_w2 : Hid (Below w.heap.size w w2) := Lib.hid (stepB B_w1.out hb)
  have Mt_w2 : Hid (BK 23 w2 (w.heap.size) [.int .i64 m, .int .i64 u]) := Lib.hid (Mt_w1.out.step hb)
  clear dt0 dt1
  clear B_w1 Mt_w1
  clear hb
  go_upto_region 4 with first | (refine wpList_store_all (by rfl) 23 (.tmp 3) (.tmp 13) rfl rfl (w2.heap.size) rfl [.int .i64 m, .int .i64 (u + 1)] rfl 23 [.int .i64 0, .int .i64 0] (BK.new w2 _ _) infoC2 rfl (all_one rfl) ?_; intro w3 hM hP; have Md_w3 : Hid (BK 23 w3 (w2.heap.size) [.int .i64 m, .int .i64 (u + 1)]) := Lib.hid hM; have Lt_d : Hid (w.heap.size < w2.heap.size) := Lib.hid Mt_w2.out.lt; have Zd : Hid (w.heap.size ≤ w2.heap.size) := Lib.hid B_w2.out.size; have B_w3 : Hid (Below w.heap.size w w3) := Lib.hid (hP.below (stepB B_w2.out (below_new w2 _)) B_w2.out.size); have Mt_w3 : Hid (BK 23 w3 (w.heap.size) [.int .i64 m, .int .i64 u]) := Lib.hid (hP.other (BK.alloc Mt_w2.out _) (Nat.ne_of_lt Mt_w2.out.lt)); clear B_w2 Mt_w2 hM hP)
  obtain ⟨x3v1, hx3v1⟩ : ∃ x3v1, x3v1 = World.drew w3 := ⟨_, rfl⟩
  have hbD : Below w3.heap.size w3 x3v1 := by rw [hx3v1]; exact (Below.refl _ _).drew
  have B_x3v1 : Hid (Below w.heap.size w x3v1) := Lib.hid (stepB B_w3.out hbD)
  have Mt_x3v1 : Hid (BK 23 x3v1 (w.heap.size) [.int .i64 m, .int .i64 u]) := Lib.hid (Mt_w3.out.step hbD)
  have Md_x3v1 : Hid (BK 23 x3v1 (w2.heap.size) [.int .i64 m, .int .i64 (u + 1)]) := Lib.hid (Md_w3.out.step hbD)
  clear B_w3 Mt_w3 Md_w3
  have hbd : (fun w' => BK 23 w' (w.heap.size) [.int .i64 m, .int .i64 u] ∧ BK 23 w' (w2.heap.size) [.int .i64 m, .int .i64 (u + 1)]) (World.drew w3) := by rw [← hx3v1]; exact ⟨Mt_x3v1.out, Md_x3v1.out⟩
  have hSD : (fun w' => BK 23 w' (w.heap.size) [.int .i64 m, .int .i64 u] ∧ BK 23 w' (w2.heap.size) [.int .i64 m, .int .i64 (u + 1)]) x3v1 := ⟨Mt_x3v1.out, Md_x3v1.out⟩
  have HWD := Lib.hid hx3v1
  clear hx3v1 hbD
  refine wp_region_held_drew (S := fun w' => BK 23 w' (w.heap.size) [.int .i64 m, .int .i64 u] ∧ BK 23 w' (w2.heap.size) [.int .i64 m, .int .i64 (u + 1)]) (by kernel_rfl) hbd (fun hHeld => ?_)
  rw [← HWD.out]
  clear hHeld
  have hHeld := hSD
  clear hSD hbd HWD
  refine wpAnyH_take (i := 0) (v := .bool true) (get_ops _ _ _ rfl) (by kernel_rfl) (by kernel_rfl) (by kernel_rfl) (fun _ _ _ h => h) (Or.inl ⟨by rfl, fun wS hSw => by (try dsimp only at hSw); go_simp⟩) hHeld ?_
  try simp only [Act.put, List.setIfInBounds_toArray, List.set_cons_zero, List.set_cons_succ]
  refine wpAnyH_take (i := 1) (v := .bool true) (get_ops _ _ _ rfl) (by kernel_rfl) (by kernel_rfl) (by kernel_rfl) (fun _ _ _ h => h) (Or.inl ⟨by rfl, fun wS hSw => by (try dsimp only at hSw); go_simp⟩) hHeld ?_
  try simp only [Act.put, List.setIfInBounds_toArray, List.set_cons_zero, List.set_cons_succ]
  refine wpAnyH_take (i := 2) (v := .agg [.int .i64 m, .int .i64 (u + 1)].toArray) (get_ops _ _ _ rfl) (by kernel_rfl) (by kernel_rfl) (by kernel_rfl) (fun _ _ _ h => h) (Or.inl ⟨by rfl, fun wS hSw => by (try dsimp only at hSw); exact exec_load 23 _ rfl ⟨(w2.heap.size), 0, none⟩ (by go_simp) _ (run_load_all hSw.2 Try.underlying23 rfl infoC2)⟩) hHeld ?_
  try simp only [Act.put, List.setIfInBounds_toArray, List.set_cons_zero, List.set_cons_succ]
  refine wpAnyH_take (i := 4) (v := .agg [.int .i64 m, .int .i64 u].toArray) (get_ops _ _ _ rfl) (by kernel_rfl) (by kernel_rfl) (by kernel_rfl) (fun _ _ _ h => h) (Or.inl ⟨by rfl, fun wS hSw => by (try dsimp only at hSw); exact exec_load 23 _ rfl ⟨(w.heap.size), 0, none⟩ (by go_simp) _ (run_load_all hSw.1 Try.underlying23 rfl infoC2)⟩) hHeld ?_
  try simp only [Act.put, List.setIfInBounds_toArray, List.set_cons_zero, List.set_cons_succ]
  refine wpAnyH_ready (rs := [3]) (by kernel_rfl) (by simp) ?_
  refine (AllReadyH.cons (get_ops _ _ _ rfl) (fun K hK => ?_) AllReadyH.nil)
  go_simp
  go_at_call 14
  refine (C2.out x3v1).mono ?_
  rintro e x3v2 ⟨rfl, hb⟩
  have B_x3v2 : Hid (Below w.heap.size w x3v2) := Lib.hid (stepB B_x3v1.out hb)
  have Mt_x3v2 : Hid (BK 23 x3v2 (w.heap.size) [.int .i64 m, .int .i64 u]) := Lib.hid (Mt_x3v1.out.step hb)
  have Md_x3v2 : Hid (BK 23 x3v2 (w2.heap.size) [.int .i64 m, .int .i64 (u + 1)]) := Lib.hid (Md_x3v1.out.step hb)
  clear B_x3v1 Mt_x3v1 Md_x3v1
  clear hHeld hb
  go_wp2_with fail
  refine hK.out _ _ ⟨Mt_x3v2.out, Md_x3v2.out⟩ (fun hHeld => ?_)
  clear hK K
  try simp only [Act.put, List.setIfInBounds_toArray, List.set_cons_zero, List.set_cons_succ]
  refine wpAnyH_ready (rs := [5]) (by kernel_rfl) (by simp) ?_
  refine (AllReadyH.cons (get_ops _ _ _ rfl) (fun K hK => ?_) AllReadyH.nil)
  go_simp
  go_at_call 13
  refine (same16_self m u x3v2).mono ?_
  rintro e x3v3 ⟨rfl, hb⟩
  have B_x3v3 : Hid (Below w.heap.size w x3v3) := Lib.hid (stepB B_x3v2.out hb)
  have Mt_x3v3 : Hid (BK 23 x3v3 (w.heap.size) [.int .i64 m, .int .i64 u]) := Lib.hid (Mt_x3v2.out.step hb)
  have Md_x3v3 : Hid (BK 23 x3v3 (w2.heap.size) [.int .i64 m, .int .i64 (u + 1)]) := Lib.hid (Md_x3v2.out.step hb)
  clear B_x3v2 Mt_x3v2 Md_x3v2
  clear hHeld hb
  go_wp2_with fail
  refine hK.out _ _ ⟨Mt_x3v3.out, Md_x3v3.out⟩ (fun hHeld => ?_)
  clear hK K
  try simp only [Act.put, List.setIfInBounds_toArray, List.set_cons_zero, List.set_cons_succ]
  refine wpAnyH_take (i := 6) (v := .bool false) (get_ops _ _ _ rfl) (by kernel_rfl) (by kernel_rfl) (by kernel_rfl) (fun _ _ _ h => h) (Or.inl ⟨by rfl, fun wS hSw => by (try dsimp only at hSw); go_simp⟩) hHeld ?_
  try simp only [Act.put, List.setIfInBounds_toArray, List.set_cons_zero, List.set_cons_succ]
  refine wpAnyH_take (i := 7) (v := .bool false) (get_ops _ _ _ rfl) (by kernel_rfl) (by kernel_rfl) (by kernel_rfl) (fun _ _ _ h => h) (Or.inl ⟨by rfl, fun wS hSw => by (try dsimp only at hSw); go_simp⟩) hHeld ?_
  try simp only [Act.put, List.setIfInBounds_toArray, List.set_cons_zero, List.set_cons_succ]
  refine wpAnyH_done (by kernel_rfl) ?_ _
  have dt0 := Mt_x3v3.out.cell 0 rfl
  have dt1 := Mt_x3v3.out.cell 1 rfl
  go_wp2_with fail
  refine (HA.out x3v3).mono ?_
  rintro e w5 ⟨rfl, hb⟩
  have B_w5 : Hid (Below w.heap.size w w5) := Lib.hid (stepB B_x3v3.out hb)
  have Mt_w5 : Hid (BK 23 w5 (w.heap.size) [.int .i64 m, .int .i64 u]) := Lib.hid (Mt_x3v3.out.step hb)
  have Md_w5 : Hid (BK 23 w5 (w2.heap.size) [.int .i64 m, .int .i64 (u + 1)]) := Lib.hid (Md_x3v3.out.step hb)
  clear dt0 dt1
  clear B_x3v3 Mt_x3v3 Md_x3v3
  clear hb
  go_wp2_with fail
  go_ret
  exact ⟨rfl, B_w5.out⟩
set_option maxRecDepth 20000 in
set_option maxHeartbeats 4000000 in
theorem flowBack_tMid (m u : Int) (w : World) (hv : okC (m, u) = true) (hp : 0 < lfC (m, u)) (h1 : ¬ u < 1) (h2 : ¬ m < u) :
    Calls Try.prog 4 #[cv m u] w fun e w' => e = .returned (.bool true) ∧ Below w.heap.size w w' := by
  have HA := Lib.hid (fun w => awake16_any w)
  obtain ⟨w0, hw0⟩ : ∃ w0, w0 = w.alloc (.cells #[.int .i64 m, .int .i64 u] 23) := ⟨_, rfl⟩
  have M0 : BK 23 w0 w.heap.size [.int .i64 m, .int .i64 u] := by rw [hw0]; exact BK.new w _ _
  have hb0 : Below w.heap.size w w0 := by rw [hw0]; exact below_new w _
  have B_w0 := Lib.hid hb0
  have Mt_w0 := Lib.hid M0
  have HW0 := Lib.hid hw0
  have CV := Lib.hid (fun w => rValidC_any m u w)
  have hv2 := okC_iff.1 hv
  dsimp only at hv2
  have C1 := Lib.hid (fun w => fTakeC_any m u hv w)
  have hz := lf_nonneg (m, u)
  rw [hv] at CV
  have e1 : takeC m u = u + 1 := by unfold takeC; rw [if_neg (by omega)]
  rw [e1, decide_eq_true hp] at C1
  have hlt : u < m := by unfold lfC at hp; dsimp only at hp; split at hp <;> omega
  have C2 : Hid (∀ w, Calls Try.prog 14 #[cv m (u + 1)] w (RetC m u w)) := Lib.hid (fun w => by
    have := fGive_any m (u + 1) (by rw [okC_iff]; dsimp only; omega) w
    have e : giveC (u + 1) = u := by unfold giveC; rw [if_neg (by omega)]; omega
    rw [e] at this; exact this)
  have q1 : decide (u < 1) = false := decide_eq_false (by omega)
  have q2 : decide (m < u) = false := decide_eq_false (by omega)
  have C3 : Hid (∀ w, Calls Try.prog 14 #[cv m u] w (RetC m (u - 1) w)) := Lib.hid (fun w => by
    have := fGive_any m u hv w
    have e : giveC u = u - 1 := by unfold giveC; rw [if_neg (by omega)]
    rw [e] at this; exact this)
  have C4 : Hid (∀ w, Calls Try.prog 11 #[cv m (u - 1)] w (RetCB m u true w)) := Lib.hid (fun w => by
    have := fTakeC_any m (u - 1) (by rw [okC_iff]; dsimp only; omega) w
    have e0 : lfC (m, u - 1) = m - (u - 1) := by unfold lfC; dsimp only; rw [if_neg (by omega)]
    have e : takeC m (u - 1) = u := by unfold takeC; rw [if_neg (by omega)]; omega
    rw [e, decide_eq_true (by omega)] at this; exact this)
  clear hv hv2 hz hp e1 hlt h1 h2
  clear hw0 M0 hb0
  go_enter Try.func4, Try.ntmps4
  go_upto_region 1 with fail
  rw [← HW0.out]
  clear HW0
  have dt0 := Mt_w0.out.cell 0 rfl
  have dt1 := Mt_w0.out.cell 1 rfl
  go_wp2_with fail
  refine (CV.out w0).mono ?_
  rintro e w1 ⟨rfl, hb⟩
  have B_w1 : Hid (Below w.heap.size w w1) := Lib.hid (stepB B_w0.out hb)
  have Mt_w1 : Hid (BK 23 w1 (w.heap.size) [.int .i64 m, .int .i64 u]) := Lib.hid (Mt_w0.out.step hb)
  clear dt0 dt1
  clear B_w0 Mt_w0
  clear hb
  have dt0 := Mt_w1.out.cell 0 rfl
  have dt1 := Mt_w1.out.cell 1 rfl
  go_wp2_with fail
  refine (C1.out w1).mono ?_
  rintro e w2 ⟨rfl, hb⟩
  have B_w2 : Hid (Below w.heap.size w w2) := Lib.hid (stepB B_w1.out hb)
  have Mt_w2 : Hid (BK 23 w2 (w.heap.size) [.int .i64 m, .int .i64 u]) := Lib.hid (Mt_w1.out.step hb)
  clear dt0 dt1
  clear B_w1 Mt_w1
  clear hb
  go_upto_region 4 with first | (refine wpList_store_all (by rfl) 23 (.tmp 3) (.tmp 13) rfl rfl (w2.heap.size) rfl [.int .i64 m, .int .i64 (u + 1)] rfl 23 [.int .i64 0, .int .i64 0] (BK.new w2 _ _) infoC2 rfl (all_one rfl) ?_; intro w3 hM hP; have Md_w3 : Hid (BK 23 w3 (w2.heap.size) [.int .i64 m, .int .i64 (u + 1)]) := Lib.hid hM; have Lt_d : Hid (w.heap.size < w2.heap.size) := Lib.hid Mt_w2.out.lt; have Zd : Hid (w.heap.size ≤ w2.heap.size) := Lib.hid B_w2.out.size; have B_w3 : Hid (Below w.heap.size w w3) := Lib.hid (hP.below (stepB B_w2.out (below_new w2 _)) B_w2.out.size); have Mt_w3 : Hid (BK 23 w3 (w.heap.size) [.int .i64 m, .int .i64 u]) := Lib.hid (hP.other (BK.alloc Mt_w2.out _) (Nat.ne_of_lt Mt_w2.out.lt)); clear B_w2 Mt_w2 hM hP)
  obtain ⟨x3v1, hx3v1⟩ : ∃ x3v1, x3v1 = World.drew w3 := ⟨_, rfl⟩
  have hbD : Below w3.heap.size w3 x3v1 := by rw [hx3v1]; exact (Below.refl _ _).drew
  have B_x3v1 : Hid (Below w.heap.size w x3v1) := Lib.hid (stepB B_w3.out hbD)
  have Mt_x3v1 : Hid (BK 23 x3v1 (w.heap.size) [.int .i64 m, .int .i64 u]) := Lib.hid (Mt_w3.out.step hbD)
  have Md_x3v1 : Hid (BK 23 x3v1 (w2.heap.size) [.int .i64 m, .int .i64 (u + 1)]) := Lib.hid (Md_w3.out.step hbD)
  clear B_w3 Mt_w3 Md_w3
  have hbd : (fun w' => BK 23 w' (w.heap.size) [.int .i64 m, .int .i64 u] ∧ BK 23 w' (w2.heap.size) [.int .i64 m, .int .i64 (u + 1)]) (World.drew w3) := by rw [← hx3v1]; exact ⟨Mt_x3v1.out, Md_x3v1.out⟩
  have hSD : (fun w' => BK 23 w' (w.heap.size) [.int .i64 m, .int .i64 u] ∧ BK 23 w' (w2.heap.size) [.int .i64 m, .int .i64 (u + 1)]) x3v1 := ⟨Mt_x3v1.out, Md_x3v1.out⟩
  have HWD := Lib.hid hx3v1
  clear hx3v1 hbD
  refine wp_region_held_drew (S := fun w' => BK 23 w' (w.heap.size) [.int .i64 m, .int .i64 u] ∧ BK 23 w' (w2.heap.size) [.int .i64 m, .int .i64 (u + 1)]) (by kernel_rfl) hbd (fun hHeld => ?_)
  rw [← HWD.out]
  clear hHeld
  have hHeld := hSD
  clear hSD hbd HWD
  refine wpAnyH_take (i := 0) (v := .bool true) (get_ops _ _ _ rfl) (by kernel_rfl) (by kernel_rfl) (by kernel_rfl) (fun _ _ _ h => h) (Or.inl ⟨by rfl, fun wS hSw => by (try dsimp only at hSw); go_simp⟩) hHeld ?_
  try simp only [Act.put, List.setIfInBounds_toArray, List.set_cons_zero, List.set_cons_succ]
  refine wpAnyH_take (i := 1) (v := .bool true) (get_ops _ _ _ rfl) (by kernel_rfl) (by kernel_rfl) (by kernel_rfl) (fun _ _ _ h => h) (Or.inl ⟨by rfl, fun wS hSw => by (try dsimp only at hSw); go_simp⟩) hHeld ?_
  try simp only [Act.put, List.setIfInBounds_toArray, List.set_cons_zero, List.set_cons_succ]
  refine wpAnyH_take (i := 2) (v := .agg [.int .i64 m, .int .i64 (u + 1)].toArray) (get_ops _ _ _ rfl) (by kernel_rfl) (by kernel_rfl) (by kernel_rfl) (fun _ _ _ h => h) (Or.inl ⟨by rfl, fun wS hSw => by (try dsimp only at hSw); exact exec_load 23 _ rfl ⟨(w2.heap.size), 0, none⟩ (by go_simp) _ (run_load_all hSw.2 Try.underlying23 rfl infoC2)⟩) hHeld ?_
  try simp only [Act.put, List.setIfInBounds_toArray, List.set_cons_zero, List.set_cons_succ]
  refine wpAnyH_take (i := 4) (v := .agg [.int .i64 m, .int .i64 u].toArray) (get_ops _ _ _ rfl) (by kernel_rfl) (by kernel_rfl) (by kernel_rfl) (fun _ _ _ h => h) (Or.inl ⟨by rfl, fun wS hSw => by (try dsimp only at hSw); exact exec_load 23 _ rfl ⟨(w.heap.size), 0, none⟩ (by go_simp) _ (run_load_all hSw.1 Try.underlying23 rfl infoC2)⟩) hHeld ?_
  try simp only [Act.put, List.setIfInBounds_toArray, List.set_cons_zero, List.set_cons_succ]
  refine wpAnyH_ready (rs := [3]) (by kernel_rfl) (by simp) ?_
  refine (AllReadyH.cons (get_ops _ _ _ rfl) (fun K hK => ?_) AllReadyH.nil)
  go_simp
  go_at_call 14
  refine (C2.out x3v1).mono ?_
  rintro e x3v2 ⟨rfl, hb⟩
  have B_x3v2 : Hid (Below w.heap.size w x3v2) := Lib.hid (stepB B_x3v1.out hb)
  have Mt_x3v2 : Hid (BK 23 x3v2 (w.heap.size) [.int .i64 m, .int .i64 u]) := Lib.hid (Mt_x3v1.out.step hb)
  have Md_x3v2 : Hid (BK 23 x3v2 (w2.heap.size) [.int .i64 m, .int .i64 (u + 1)]) := Lib.hid (Md_x3v1.out.step hb)
  clear B_x3v1 Mt_x3v1 Md_x3v1
  clear hHeld hb
  go_wp2_with fail
  refine hK.out _ _ ⟨Mt_x3v2.out, Md_x3v2.out⟩ (fun hHeld => ?_)
  clear hK K
  try simp only [Act.put, List.setIfInBounds_toArray, List.set_cons_zero, List.set_cons_succ]
  refine wpAnyH_ready (rs := [5]) (by kernel_rfl) (by simp) ?_
  refine (AllReadyH.cons (get_ops _ _ _ rfl) (fun K hK => ?_) AllReadyH.nil)
  go_simp
  go_at_call 13
  refine (same16_self m u x3v2).mono ?_
  rintro e x3v3 ⟨rfl, hb⟩
  have B_x3v3 : Hid (Below w.heap.size w x3v3) := Lib.hid (stepB B_x3v2.out hb)
  have Mt_x3v3 : Hid (BK 23 x3v3 (w.heap.size) [.int .i64 m, .int .i64 u]) := Lib.hid (Mt_x3v2.out.step hb)
  have Md_x3v3 : Hid (BK 23 x3v3 (w2.heap.size) [.int .i64 m, .int .i64 (u + 1)]) := Lib.hid (Md_x3v2.out.step hb)
  clear B_x3v2 Mt_x3v2 Md_x3v2
  clear hHeld hb
  go_wp2_with fail
  refine hK.out _ _ ⟨Mt_x3v3.out, Md_x3v3.out⟩ (fun hHeld => ?_)
  clear hK K
  try simp only [Act.put, List.setIfInBounds_toArray, List.set_cons_zero, List.set_cons_succ]
  refine wpAnyH_take (i := 6) (v := .bool false) (get_ops _ _ _ rfl) (by kernel_rfl) (by kernel_rfl) (by kernel_rfl) (fun _ _ _ h => h) (Or.inl ⟨by rfl, fun wS hSw => by (try dsimp only at hSw); go_simp⟩) hHeld ?_
  try simp only [Act.put, List.setIfInBounds_toArray, List.set_cons_zero, List.set_cons_succ]
  refine wpAnyH_take (i := 7) (v := .bool false) (get_ops _ _ _ rfl) (by kernel_rfl) (by kernel_rfl) (by kernel_rfl) (fun _ _ _ h => h) (Or.inl ⟨by rfl, fun wS hSw => by (try dsimp only at hSw); go_simp⟩) hHeld ?_
  try simp only [Act.put, List.setIfInBounds_toArray, List.set_cons_zero, List.set_cons_succ]
  refine wpAnyH_done (by kernel_rfl) ?_ _
  have dt0 := Mt_x3v3.out.cell 0 rfl
  have dt1 := Mt_x3v3.out.cell 1 rfl
  go_wp2_with fail
  refine (C3.out x3v3).mono ?_
  rintro e w5 ⟨rfl, hb⟩
  have B_w5 : Hid (Below w.heap.size w w5) := Lib.hid (stepB B_x3v3.out hb)
  have Mt_w5 : Hid (BK 23 w5 (w.heap.size) [.int .i64 m, .int .i64 u]) := Lib.hid (Mt_x3v3.out.step hb)
  have Md_w5 : Hid (BK 23 w5 (w2.heap.size) [.int .i64 m, .int .i64 (u + 1)]) := Lib.hid (Md_x3v3.out.step hb)
  clear dt0 dt1
  clear B_x3v3 Mt_x3v3 Md_x3v3
  clear hb
  go_wp2_with fail
  refine (C4.out w5).mono ?_
  rintro e w6 ⟨rfl, hb⟩
  have B_w6 : Hid (Below w.heap.size w w6) := Lib.hid (stepB B_w5.out hb)
  have Mt_w6 : Hid (BK 23 w6 (w.heap.size) [.int .i64 m, .int .i64 u]) := Lib.hid (Mt_w5.out.step hb)
  have Md_w6 : Hid (BK 23 w6 (w2.heap.size) [.int .i64 m, .int .i64 (u + 1)]) := Lib.hid (Md_w5.out.step hb)
  clear B_w5 Mt_w5 Md_w5
  clear hb
  go_wp2_with first | (refine wpList_store_all (by rfl) 23 (.tmp 5) (.tmp 38) rfl rfl (w6.heap.size) rfl [.int .i64 m, .int .i64 u] rfl 23 [.int .i64 0, .int .i64 0] (BK.new w6 _ _) infoC2 rfl (all_one rfl) ?_; intro w7 hM hP; have Me_w7 : Hid (BK 23 w7 (w6.heap.size) [.int .i64 m, .int .i64 u]) := Lib.hid hM; have Lt_e : Hid (w.heap.size < w6.heap.size) := Lib.hid Mt_w6.out.lt; have Ld_e : Hid (w2.heap.size < w6.heap.size) := Lib.hid Md_w6.out.lt; have Ze : Hid (w.heap.size ≤ w6.heap.size) := Lib.hid B_w6.out.size; have B_w7 : Hid (Below w.heap.size w w7) := Lib.hid (hP.below (stepB B_w6.out (below_new w6 _)) B_w6.out.size); have Mt_w7 : Hid (BK 23 w7 (w.heap.size) [.int .i64 m, .int .i64 u]) := Lib.hid (hP.other (BK.alloc Mt_w6.out _) (Nat.ne_of_lt Mt_w6.out.lt)); have Md_w7 : Hid (BK 23 w7 (w2.heap.size) [.int .i64 m, .int .i64 (u + 1)]) := Lib.hid (hP.other (BK.alloc Md_w6.out _) (Nat.ne_of_lt Md_w6.out.lt)); clear B_w6 Mt_w6 Md_w6 hM hP)
  refine (HA.out w7).mono ?_
  rintro e w8 ⟨rfl, hb⟩
  have B_w8 : Hid (Below w.heap.size w w8) := Lib.hid (stepB B_w7.out hb)
  have Mt_w8 : Hid (BK 23 w8 (w.heap.size) [.int .i64 m, .int .i64 u]) := Lib.hid (Mt_w7.out.step hb)
  have Md_w8 : Hid (BK 23 w8 (w2.heap.size) [.int .i64 m, .int .i64 (u + 1)]) := Lib.hid (Md_w7.out.step hb)
  have Me_w8 : Hid (BK 23 w8 (w6.heap.size) [.int .i64 m, .int .i64 u]) := Lib.hid (Me_w7.out.step hb)
  clear B_w7 Mt_w7 Md_w7 Me_w7
  clear hb
  have dt0 := Mt_w8.out.cell 0 rfl
  have dt1 := Mt_w8.out.cell 1 rfl
  have de0 := Me_w8.out.cell 0 rfl
  have de1 := Me_w8.out.cell 1 rfl
  go_wp2_with fail
  refine (same16_self m u w8).mono ?_
  rintro e w9 ⟨rfl, hb⟩
  have B_w9 : Hid (Below w.heap.size w w9) := Lib.hid (stepB B_w8.out hb)
  have Mt_w9 : Hid (BK 23 w9 (w.heap.size) [.int .i64 m, .int .i64 u]) := Lib.hid (Mt_w8.out.step hb)
  have Md_w9 : Hid (BK 23 w9 (w2.heap.size) [.int .i64 m, .int .i64 (u + 1)]) := Lib.hid (Md_w8.out.step hb)
  have Me_w9 : Hid (BK 23 w9 (w6.heap.size) [.int .i64 m, .int .i64 u]) := Lib.hid (Me_w8.out.step hb)
  clear dt0 dt1 de0 de1
  clear B_w8 Mt_w8 Md_w8 Me_w8
  clear hb
  go_wp2_with fail
  go_ret
  exact ⟨rfl, B_w9.out⟩
set_option maxRecDepth 20000 in
set_option maxHeartbeats 4000000 in
theorem flowBack_nLow (m u : Int) (w : World) (hv : okC (m, u) = true) (hp : ¬ 0 < lfC (m, u)) (h1 : u < 1) :
    Calls Try.prog 4 #[cv m u] w fun e w' => e = .returned (.bool true) ∧ Below w.heap.size w w' := by
  have HA := Lib.hid (fun w => awake16_any w)
  obtain ⟨w0, hw0⟩ : ∃ w0, w0 = w.alloc (.cells #[.int .i64 m, .int .i64 u] 23) := ⟨_, rfl⟩
  have M0 : BK 23 w0 w.heap.size [.int .i64 m, .int .i64 u] := by rw [hw0]; exact BK.new w _ _
  have hb0 : Below w.heap.size w w0 := by rw [hw0]; exact below_new w _
  have B_w0 := Lib.hid hb0
  have Mt_w0 := Lib.hid M0
  have HW0 := Lib.hid hw0
  have CV := Lib.hid (fun w => rValidC_any m u w)
  have hv2 := okC_iff.1 hv
  dsimp only at hv2
  have C1 := Lib.hid (fun w => fTakeC_any m u hv w)
  have hz := lf_nonneg (m, u)
  rw [hv] at CV
  have e1 : takeC m u = u := by unfold takeC; rw [if_pos (by omega)]
  rw [e1, decide_eq_false hp] at C1
  have q1 : decide (u < 1) = true := decide_eq_true h1
  clear hv hv2 hz hp e1 h1
  clear hw0 M0 hb0
  go_enter Try.func4, Try.ntmps4
  go_upto_region 1 with fail
  rw [← HW0.out]
  clear HW0
  have dt0 := Mt_w0.out.cell 0 rfl
  have dt1 := Mt_w0.out.cell 1 rfl
  go_wp2_with fail
  refine (CV.out w0).mono ?_
  rintro e w1 ⟨rfl, hb⟩
  have B_w1 : Hid (Below w.heap.size w w1) := Lib.hid (stepB B_w0.out hb)
  have Mt_w1 : Hid (BK 23 w1 (w.heap.size) [.int .i64 m, .int .i64 u]) := Lib.hid (Mt_w0.out.step hb)
  clear dt0 dt1
  clear B_w0 Mt_w0
  clear hb
  have dt0 := Mt_w1.out.cell 0 rfl
  have dt1 := Mt_w1.out.cell 1 rfl
  go_wp2_with fail
  refine (C1.out w1).mono ?_
  rintro e w2 ⟨rfl, hb⟩
  have B_w2 : Hid (Below w.heap.size w w2) := Lib.hid (stepB B_w1.out hb)
  have Mt_w2 : Hid (BK 23 w2 (w.heap.size) [.int .i64 m, .int .i64 u]) := Lib.hid (Mt_w1.out.step hb)
  clear dt0 dt1
  clear B_w1 Mt_w1
  clear hb
  go_upto_region 4 with first | (refine wpList_store_all (by rfl) 23 (.tmp 3) (.tmp 13) rfl rfl (w2.heap.size) rfl [.int .i64 m, .int .i64 u] rfl 23 [.int .i64 0, .int .i64 0] (BK.new w2 _ _) infoC2 rfl (all_one rfl) ?_; intro w3 hM hP; have Md_w3 : Hid (BK 23 w3 (w2.heap.size) [.int .i64 m, .int .i64 u]) := Lib.hid hM; have Lt_d : Hid (w.heap.size < w2.heap.size) := Lib.hid Mt_w2.out.lt; have Zd : Hid (w.heap.size ≤ w2.heap.size) := Lib.hid B_w2.out.size; have B_w3 : Hid (Below w.heap.size w w3) := Lib.hid (hP.below (stepB B_w2.out (below_new w2 _)) B_w2.out.size); have Mt_w3 : Hid (BK 23 w3 (w.heap.size) [.int .i64 m, .int .i64 u]) := Lib.hid (hP.other (BK.alloc Mt_w2.out _) (Nat.ne_of_lt Mt_w2.out.lt)); clear B_w2 Mt_w2 hM hP)
  obtain ⟨x3v1, hx3v1⟩ : ∃ x3v1, x3v1 = World.drew w3 := ⟨_, rfl⟩
  have hbD : Below w3.heap.size w3 x3v1 := by rw [hx3v1]; exact (Below.refl _ _).drew
  have B_x3v1 : Hid (Below w.heap.size w x3v1) := Lib.hid (stepB B_w3.out hbD)
  have Mt_x3v1 : Hid (BK 23 x3v1 (w.heap.size) [.int .i64 m, .int .i64 u]) := Lib.hid (Mt_w3.out.step hbD)
  have Md_x3v1 : Hid (BK 23 x3v1 (w2.heap.size) [.int .i64 m, .int .i64 u]) := Lib.hid (Md_w3.out.step hbD)
  clear B_w3 Mt_w3 Md_w3
  have hbd : (fun w' => BK 23 w' (w.heap.size) [.int .i64 m, .int .i64 u] ∧ BK 23 w' (w2.heap.size) [.int .i64 m, .int .i64 u]) (World.drew w3) := by rw [← hx3v1]; exact ⟨Mt_x3v1.out, Md_x3v1.out⟩
  have hSD : (fun w' => BK 23 w' (w.heap.size) [.int .i64 m, .int .i64 u] ∧ BK 23 w' (w2.heap.size) [.int .i64 m, .int .i64 u]) x3v1 := ⟨Mt_x3v1.out, Md_x3v1.out⟩
  have HWD := Lib.hid hx3v1
  clear hx3v1 hbD
  refine wp_region_held_drew (S := fun w' => BK 23 w' (w.heap.size) [.int .i64 m, .int .i64 u] ∧ BK 23 w' (w2.heap.size) [.int .i64 m, .int .i64 u]) (by kernel_rfl) hbd (fun hHeld => ?_)
  rw [← HWD.out]
  clear hHeld
  have hHeld := hSD
  clear hSD hbd HWD
  refine wpAnyH_take (i := 0) (v := .bool false) (get_ops _ _ _ rfl) (by kernel_rfl) (by kernel_rfl) (by kernel_rfl) (fun _ _ _ h => h) (Or.inl ⟨by rfl, fun wS hSw => by (try dsimp only at hSw); go_simp⟩) hHeld ?_
  try simp only [Act.put, List.setIfInBounds_toArray, List.set_cons_zero, List.set_cons_succ]
  refine wpAnyH_take (i := 1) (v := .bool false) (get_ops _ _ _ rfl) (by kernel_rfl) (by kernel_rfl) (by kernel_rfl) (fun _ _ _ h => h) (Or.inl ⟨by rfl, fun wS hSw => by (try dsimp only at hSw); go_simp⟩) hHeld ?_
  try simp only [Act.put, List.setIfInBounds_toArray, List.set_cons_zero, List.set_cons_succ]
  refine wpAnyH_take (i := 2) (v := undef) (get_ops _ _ _ rfl) (by kernel_rfl) (by kernel_rfl) (by kernel_rfl) (fun _ _ _ h => h) (Or.inr ⟨by rfl, rfl⟩) hHeld ?_
  try simp only [Act.put, List.setIfInBounds_toArray, List.set_cons_zero, List.set_cons_succ]
  refine wpAnyH_take (i := 3) (v := undef) (get_ops _ _ _ rfl) (by kernel_rfl) (by kernel_rfl) (by kernel_rfl) (fun _ _ _ h => h) (Or.inr ⟨by rfl, rfl⟩) hHeld ?_
  try simp only [Act.put, List.setIfInBounds_toArray, List.set_cons_zero, List.set_cons_succ]
  refine wpAnyH_take (i := 4) (v := undef) (get_ops _ _ _ rfl) (by kernel_rfl) (by kernel_rfl) (by kernel_rfl) (fun _ _ _ h => h) (Or.inr ⟨by rfl, rfl⟩) hHeld ?_
  try simp only [Act.put, List.setIfInBounds_toArray, List.set_cons_zero, List.set_cons_succ]
  refine wpAnyH_take (i := 5) (v := undef) (get_ops _ _ _ rfl) (by kernel_rfl) (by kernel_rfl) (by kernel_rfl) (fun _ _ _ h => h) (Or.inr ⟨by rfl, rfl⟩) hHeld ?_
  try simp only [Act.put, List.setIfInBounds_toArray, List.set_cons_zero, List.set_cons_succ]
  refine wpAnyH_take (i := 6) (v := undef) (get_ops _ _ _ rfl) (by kernel_rfl) (by kernel_rfl) (by kernel_rfl) (fun _ _ _ h => h) (Or.inr ⟨by rfl, rfl⟩) hHeld ?_
  try simp only [Act.put, List.setIfInBounds_toArray, List.set_cons_zero, List.set_cons_succ]
  refine wpAnyH_take (i := 7) (v := .bool false) (get_ops _ _ _ rfl) (by kernel_rfl) (by kernel_rfl) (by kernel_rfl) (fun _ _ _ h => h) (Or.inl ⟨by rfl, fun wS hSw => by (try dsimp only at hSw); go_simp⟩) hHeld ?_
  try simp only [Act.put, List.setIfInBounds_toArray, List.set_cons_zero, List.set_cons_succ]
  refine wpAnyH_done (by kernel_rfl) ?_ _
  have dt0 := Mt_x3v1.out.cell 0 rfl
  have dt1 := Mt_x3v1.out.cell 1 rfl
  go_wp2_with fail
  refine (HA.out x3v1).mono ?_
  rintro e w5 ⟨rfl, hb⟩
  have B_w5 : Hid (Below w.heap.size w w5) := Lib.hid (stepB B_x3v1.out hb)
  have Mt_w5 : Hid (BK 23 w5 (w.heap.size) [.int .i64 m, .int .i64 u]) := Lib.hid (Mt_x3v1.out.step hb)
  have Md_w5 : Hid (BK 23 w5 (w2.heap.size) [.int .i64 m, .int .i64 u]) := Lib.hid (Md_x3v1.out.step hb)
  clear dt0 dt1
  clear B_x3v1 Mt_x3v1 Md_x3v1
  clear hb
  go_wp2_with fail
  go_ret
  exact ⟨rfl, B_w5.out⟩
set_option maxRecDepth 20000 in
set_option maxHeartbeats 4000000 in
theorem flowBack_nHigh (m u : Int) (w : World) (hv : okC (m, u) = true) (hp : ¬ 0 < lfC (m, u)) (h1 : ¬ u < 1) (h2 : m < u) :
    Calls Try.prog 4 #[cv m u] w fun e w' => e = .returned (.bool true) ∧ Below w.heap.size w w' := by
  have HA := Lib.hid (fun w => awake16_any w)
  obtain ⟨w0, hw0⟩ : ∃ w0, w0 = w.alloc (.cells #[.int .i64 m, .int .i64 u] 23) := ⟨_, rfl⟩
  have M0 : BK 23 w0 w.heap.size [.int .i64 m, .int .i64 u] := by rw [hw0]; exact BK.new w _ _
  have hb0 : Below w.heap.size w w0 := by rw [hw0]; exact below_new w _
  have B_w0 := Lib.hid hb0
  have Mt_w0 := Lib.hid M0
  have HW0 := Lib.hid hw0
  have CV := Lib.hid (fun w => rValidC_any m u w)
  have hv2 := okC_iff.1 hv
  dsimp only at hv2
  have C1 := Lib.hid (fun w => fTakeC_any m u hv w)
  have hz := lf_nonneg (m, u)
  rw [hv] at CV
  have e1 : takeC m u = u := by unfold takeC; rw [if_pos (by omega)]
  rw [e1, decide_eq_false hp] at C1
  have q1 : decide (u < 1) = false := decide_eq_false h1
  have q2 : decide (m < u) = true := decide_eq_true h2
  clear hv hv2 hz hp e1 h1 h2
  clear hw0 M0 hb0
  go_enter Try.func4, Try.ntmps4
  go_upto_region 1 with fail
  rw [← HW0.out]
  clear HW0
  have dt0 := Mt_w0.out.cell 0 rfl
  have dt1 := Mt_w0.out.cell 1 rfl
  go_wp2_with fail
  refine (CV.out w0).mono ?_
  rintro e w1 ⟨rfl, hb⟩
  have B_w1 : Hid (Below w.heap.size w w1) := Lib.hid (stepB B_w0.out hb)
  have Mt_w1 : Hid (BK 23 w1 (w.heap.size) [.int .i64 m, .int .i64 u]) := Lib.hid (Mt_w0.out.step hb)
  clear dt0 dt1
  clear B_w0 Mt_w0
  clear hb
  have dt0 := Mt_w1.out.cell 0 rfl
  have dt1 := Mt_w1.out.cell 1 rfl
  go_wp2_with fail
  refine (C1.out w1).mono ?_
  rintro e w2 ⟨rfl, hb⟩
  have B_w2 : Hid (Below w.heap.size w w2) := Lib.hid (stepB B_w1.out hb)
  have Mt_w2 : Hid (BK 23 w2 (w.heap.size) [.int .i64 m, .int .i64 u]) := Lib.hid (Mt_w1.out.step hb)
  clear dt0 dt1
  clear B_w1 Mt_w1
  clear hb
  go_upto_region 4 with first | (refine wpList_store_all (by rfl) 23 (.tmp 3) (.tmp 13) rfl rfl (w2.heap.size) rfl [.int .i64 m, .int .i64 u] rfl 23 [.int .i64 0, .int .i64 0] (BK.new w2 _ _) infoC2 rfl (all_one rfl) ?_; intro w3 hM hP; have Md_w3 : Hid (BK 23 w3 (w2.heap.size) [.int .i64 m, .int .i64 u]) := Lib.hid hM; have Lt_d : Hid (w.heap.size < w2.heap.size) := Lib.hid Mt_w2.out.lt; have Zd : Hid (w.heap.size ≤ w2.heap.size) := Lib.hid B_w2.out.size; have B_w3 : Hid (Below w.heap.size w w3) := Lib.hid (hP.below (stepB B_w2.out (below_new w2 _)) B_w2.out.size); have Mt_w3 : Hid (BK 23 w3 (w.heap.size) [.int .i64 m, .int .i64 u]) := Lib.hid (hP.other (BK.alloc Mt_w2.out _) (Nat.ne_of_lt Mt_w2.out.lt)); clear B_w2 Mt_w2 hM hP)
  obtain ⟨x3v1, hx3v1⟩ : ∃ x3v1, x3v1 = World.drew w3 := ⟨_, rfl⟩
  have hbD : Below w3.heap.size w3 x3v1 := by rw [hx3v1]; exact (Below.refl _ _).drew
  have B_x3v1 : Hid (Below w.heap.size w x3v1) := Lib.hid (stepB B_w3.out hbD)
  have Mt_x3v1 : Hid (BK 23 x3v1 (w.heap.size) [.int .i64 m, .int .i64 u]) := Lib.hid (Mt_w3.out.step hbD)
  have Md_x3v1 : Hid (BK 23 x3v1 (w2.heap.size) [.int .i64 m, .int .i64 u]) := Lib.hid (Md_w3.out.step hbD)
  clear B_w3 Mt_w3 Md_w3
  have hbd : (fun w' => BK 23 w' (w.heap.size) [.int .i64 m, .int .i64 u] ∧ BK 23 w' (w2.heap.size) [.int .i64 m, .int .i64 u]) (World.drew w3) := by rw [← hx3v1]; exact ⟨Mt_x3v1.out, Md_x3v1.out⟩
  have hSD : (fun w' => BK 23 w' (w.heap.size) [.int .i64 m, .int .i64 u] ∧ BK 23 w' (w2.heap.size) [.int .i64 m, .int .i64 u]) x3v1 := ⟨Mt_x3v1.out, Md_x3v1.out⟩
  have HWD := Lib.hid hx3v1
  clear hx3v1 hbD
  refine wp_region_held_drew (S := fun w' => BK 23 w' (w.heap.size) [.int .i64 m, .int .i64 u] ∧ BK 23 w' (w2.heap.size) [.int .i64 m, .int .i64 u]) (by kernel_rfl) hbd (fun hHeld => ?_)
  rw [← HWD.out]
  clear hHeld
  have hHeld := hSD
  clear hSD hbd HWD
  refine wpAnyH_take (i := 0) (v := .bool false) (get_ops _ _ _ rfl) (by kernel_rfl) (by kernel_rfl) (by kernel_rfl) (fun _ _ _ h => h) (Or.inl ⟨by rfl, fun wS hSw => by (try dsimp only at hSw); go_simp⟩) hHeld ?_
  try simp only [Act.put, List.setIfInBounds_toArray, List.set_cons_zero, List.set_cons_succ]
  refine wpAnyH_take (i := 1) (v := .bool false) (get_ops _ _ _ rfl) (by kernel_rfl) (by kernel_rfl) (by kernel_rfl) (fun _ _ _ h => h) (Or.inl ⟨by rfl, fun wS hSw => by (try dsimp only at hSw); go_simp⟩) hHeld ?_
  try simp only [Act.put, List.setIfInBounds_toArray, List.set_cons_zero, List.set_cons_succ]
  refine wpAnyH_take (i := 2) (v := undef) (get_ops _ _ _ rfl) (by kernel_rfl) (by kernel_rfl) (by kernel_rfl) (fun _ _ _ h => h) (Or.inr ⟨by rfl, rfl⟩) hHeld ?_
  try simp only [Act.put, List.setIfInBounds_toArray, List.set_cons_zero, List.set_cons_succ]
  refine wpAnyH_take (i := 3) (v := undef) (get_ops _ _ _ rfl) (by kernel_rfl) (by kernel_rfl) (by kernel_rfl) (fun _ _ _ h => h) (Or.inr ⟨by rfl, rfl⟩) hHeld ?_
  try simp only [Act.put, List.setIfInBounds_toArray, List.set_cons_zero, List.set_cons_succ]
  refine wpAnyH_take (i := 4) (v := undef) (get_ops _ _ _ rfl) (by kernel_rfl) (by kernel_rfl) (by kernel_rfl) (fun _ _ _ h => h) (Or.inr ⟨by rfl, rfl⟩) hHeld ?_
  try simp only [Act.put, List.setIfInBounds_toArray, List.set_cons_zero, List.set_cons_succ]
  refine wpAnyH_take (i := 5) (v := undef) (get_ops _ _ _ rfl) (by kernel_rfl) (by kernel_rfl) (by kernel_rfl) (fun _ _ _ h => h) (Or.inr ⟨by rfl, rfl⟩) hHeld ?_
  try simp only [Act.put, List.setIfInBounds_toArray, List.set_cons_zero, List.set_cons_succ]
  refine wpAnyH_take (i := 6) (v := undef) (get_ops _ _ _ rfl) (by kernel_rfl) (by kernel_rfl) (by kernel_rfl) (fun _ _ _ h => h) (Or.inr ⟨by rfl, rfl⟩) hHeld ?_
  try simp only [Act.put, List.setIfInBounds_toArray, List.set_cons_zero, List.set_cons_succ]
  refine wpAnyH_take (i := 7) (v := .bool false) (get_ops _ _ _ rfl) (by kernel_rfl) (by kernel_rfl) (by kernel_rfl) (fun _ _ _ h => h) (Or.inl ⟨by rfl, fun wS hSw => by (try dsimp only at hSw); go_simp⟩) hHeld ?_
  try simp only [Act.put, List.setIfInBounds_toArray, List.set_cons_zero, List.set_cons_succ]
  refine wpAnyH_done (by kernel_rfl) ?_ _
  have dt0 := Mt_x3v1.out.cell 0 rfl
  have dt1 := Mt_x3v1.out.cell 1 rfl
  go_wp2_with fail
  refine (HA.out x3v1).mono ?_
  rintro e w5 ⟨rfl, hb⟩
  have B_w5 : Hid (Below w.heap.size w w5) := Lib.hid (stepB B_x3v1.out hb)
  have Mt_w5 : Hid (BK 23 w5 (w.heap.size) [.int .i64 m, .int .i64 u]) := Lib.hid (Mt_x3v1.out.step hb)
  have Md_w5 : Hid (BK 23 w5 (w2.heap.size) [.int .i64 m, .int .i64 u]) := Lib.hid (Md_x3v1.out.step hb)
  clear dt0 dt1
  clear B_x3v1 Mt_x3v1 Md_x3v1
  clear hb
  go_wp2_with fail
  go_ret
  exact ⟨rfl, B_w5.out⟩
set_option maxRecDepth 20000 in
set_option maxHeartbeats 4000000 in
theorem flowBack_nMid (m u : Int) (w : World) (hv : okC (m, u) = true) (hp : ¬ 0 < lfC (m, u)) (h1 : ¬ u < 1) (h2 : ¬ m < u) :
    Calls Try.prog 4 #[cv m u] w fun e w' => e = .returned (.bool true) ∧ Below w.heap.size w w' := by
  have HA := Lib.hid (fun w => awake16_any w)
  obtain ⟨w0, hw0⟩ : ∃ w0, w0 = w.alloc (.cells #[.int .i64 m, .int .i64 u] 23) := ⟨_, rfl⟩
  have M0 : BK 23 w0 w.heap.size [.int .i64 m, .int .i64 u] := by rw [hw0]; exact BK.new w _ _
  have hb0 : Below w.heap.size w w0 := by rw [hw0]; exact below_new w _
  have B_w0 := Lib.hid hb0
  have Mt_w0 := Lib.hid M0
  have HW0 := Lib.hid hw0
  have CV := Lib.hid (fun w => rValidC_any m u w)
  have hv2 := okC_iff.1 hv
  dsimp only at hv2
  have C1 := Lib.hid (fun w => fTakeC_any m u hv w)
  have hz := lf_nonneg (m, u)
  rw [hv] at CV
  have e1 : takeC m u = u := by unfold takeC; rw [if_pos (by omega)]
  rw [e1, decide_eq_false hp] at C1
  have q1 : decide (u < 1) = false := decide_eq_false (by omega)
  have q2 : decide (m < u) = false := decide_eq_false (by omega)
  have C3 : Hid (∀ w, Calls Try.prog 14 #[cv m u] w (RetC m (u - 1) w)) := Lib.hid (fun w => by
    have := fGive_any m u hv w
    have e : giveC u = u - 1 := by unfold giveC; rw [if_neg (by omega)]
    rw [e] at this; exact this)
  have C4 : Hid (∀ w, Calls Try.prog 11 #[cv m (u - 1)] w (RetCB m u true w)) := Lib.hid (fun w => by
    have := fTakeC_any m (u - 1) (by rw [okC_iff]; dsimp only; omega) w
    have e0 : lfC (m, u - 1) = m - (u - 1) := by unfold lfC; dsimp only; rw [if_neg (by omega)]
    have e : takeC m (u - 1) = u := by unfold takeC; rw [if_neg (by omega)]; omega
    rw [e, decide_eq_true (by omega)] at this; exact this)
  clear hv hv2 hz hp e1 h1 h2
  clear hw0 M0 hb0
  go_enter Try.func4, Try.ntmps4
  go_upto_region 1 with fail
  rw [← HW0.out]
  clear HW0
  have dt0 := Mt_w0.out.cell 0 rfl
  have dt1 := Mt_w0.out.cell 1 rfl
  go_wp2_with fail
  refine (CV.out w0).mono ?_
  rintro e w1 ⟨rfl, hb⟩
  have B_w1 : Hid (Below w.heap.size w w1) := Lib.hid (stepB B_w0.out hb)
  have Mt_w1 : Hid (BK 23 w1 (w.heap.size) [.int .i64 m, .int .i64 u]) := Lib.hid (Mt_w0.out.step hb)
  clear dt0 dt1
  clear B_w0 Mt_w0
  clear hb
  have dt0 := Mt_w1.out.cell 0 rfl
  have dt1 := Mt_w1.out.cell 1 rfl
  go_wp2_with fail
  refine (C1.out w1).mono ?_
  rintro e w2 ⟨rfl, hb⟩
  have B_w2 : Hid (Below w.heap.size w w2) := Lib.hid (stepB B_w1.out hb)
  have Mt_w2 : Hid (BK 23 w2 (w.heap.size) [.int .i64 m, .int .i64 u]) := Lib.hid (Mt_w1.out.step hb)
  clear dt0 dt1
  clear B_w1 Mt_w1
  clear hb
  go_upto_region 4 with first | (refine wpList_store_all (by rfl) 23 (.tmp 3) (.tmp 13) rfl rfl (w2.heap.size) rfl [.int .i64 m, .int .i64 u] rfl 23 [.int .i64 0, .int .i64 0] (BK.new w2 _ _) infoC2 rfl (all_one rfl) ?_; intro w3 hM hP; have Md_w3 : Hid (BK 23 w3 (w2.heap.size) [.int .i64 m, .int .i64 u]) := Lib.hid hM; have Lt_d : Hid (w.heap.size < w2.heap.size) := Lib.hid Mt_w2.out.lt; have Zd : Hid (w.heap.size ≤ w2.heap.size) := Lib.hid B_w2.out.size; have B_w3 : Hid (Below w.heap.size w w3) := Lib.hid (hP.below (stepB B_w2.out (below_new w2 _)) B_w2.out.size); have Mt_w3 : Hid (BK 23 w3 (w.heap.size) [.int .i64 m, .int .i64 u]) := Lib.hid (hP.other (BK.alloc Mt_w2.out _) (Nat.ne_of_lt Mt_w2.out.lt)); clear B_w2 Mt_w2 hM hP)
  obtain ⟨x3v1, hx3v1⟩ : ∃ x3v1, x3v1 = World.drew w3 := ⟨_, rfl⟩
  have hbD : Below w3.heap.size w3 x3v1 := by rw [hx3v1]; exact (Below.refl _ _).drew
  have B_x3v1 : Hid (Below w.heap.size w x3v1) := Lib.hid (stepB B_w3.out hbD)
  have Mt_x3v1 : Hid (BK 23 x3v1 (w.heap.size) [.int .i64 m, .int .i64 u]) := Lib.hid (Mt_w3.out.step hbD)
  have Md_x3v1 : Hid (BK 23 x3v1 (w2.heap.size) [.int .i64 m, .int .i64 u]) := Lib.hid (Md_w3.out.step hbD)
  clear B_w3 Mt_w3 Md_w3
  have hbd : (fun w' => BK 23 w' (w.heap.size) [.int .i64 m, .int .i64 u] ∧ BK 23 w' (w2.heap.size) [.int .i64 m, .int .i64 u]) (World.drew w3) := by rw [← hx3v1]; exact ⟨Mt_x3v1.out, Md_x3v1.out⟩
  have hSD : (fun w' => BK 23 w' (w.heap.size) [.int .i64 m, .int .i64 u] ∧ BK 23 w' (w2.heap.size) [.int .i64 m, .int .i64 u]) x3v1 := ⟨Mt_x3v1.out, Md_x3v1.out⟩
  have HWD := Lib.hid hx3v1
  clear hx3v1 hbD
  refine wp_region_held_drew (S := fun w' => BK 23 w' (w.heap.size) [.int .i64 m, .int .i64 u] ∧ BK 23 w' (w2.heap.size) [.int .i64 m, .int .i64 u]) (by kernel_rfl) hbd (fun hHeld => ?_)
  rw [← HWD.out]
  clear hHeld
  have hHeld := hSD
  clear hSD hbd HWD
  refine wpAnyH_take (i := 0) (v := .bool false) (get_ops _ _ _ rfl) (by kernel_rfl) (by kernel_rfl) (by kernel_rfl) (fun _ _ _ h => h) (Or.inl ⟨by rfl, fun wS hSw => by (try dsimp only at hSw); go_simp⟩) hHeld ?_
  try simp only [Act.put, List.setIfInBounds_toArray, List.set_cons_zero, List.set_cons_succ]
  refine wpAnyH_take (i := 1) (v := .bool false) (get_ops _ _ _ rfl) (by kernel_rfl) (by kernel_rfl) (by kernel_rfl) (fun _ _ _ h => h) (Or.inl ⟨by rfl, fun wS hSw => by (try dsimp only at hSw); go_simp⟩) hHeld ?_
  try simp only [Act.put, List.setIfInBounds_toArray, List.set_cons_zero, List.set_cons_succ]
  refine wpAnyH_take (i := 2) (v := undef) (get_ops _ _ _ rfl) (by kernel_rfl) (by kernel_rfl) (by kernel_rfl) (fun _ _ _ h => h) (Or.inr ⟨by rfl, rfl⟩) hHeld ?_
  try simp only [Act.put, List.setIfInBounds_toArray, List.set_cons_zero, List.set_cons_succ]
  refine wpAnyH_take (i := 3) (v := undef) (get_ops _ _ _ rfl) (by kernel_rfl) (by kernel_rfl) (by kernel_rfl) (fun _ _ _ h => h) (Or.inr ⟨by rfl, rfl⟩) hHeld ?_
  try simp only [Act.put, List.setIfInBounds_toArray, List.set_cons_zero, List.set_cons_succ]
  refine wpAnyH_take (i := 4) (v := undef) (get_ops _ _ _ rfl) (by kernel_rfl) (by kernel_rfl) (by kernel_rfl) (fun _ _ _ h => h) (Or.inr ⟨by rfl, rfl⟩) hHeld ?_
  try simp only [Act.put, List.setIfInBounds_toArray, List.set_cons_zero, List.set_cons_succ]
  refine wpAnyH_take (i := 5) (v := undef) (get_ops _ _ _ rfl) (by kernel_rfl) (by kernel_rfl) (by kernel_rfl) (fun _ _ _ h => h) (Or.inr ⟨by rfl, rfl⟩) hHeld ?_
  try simp only [Act.put, List.setIfInBounds_toArray, List.set_cons_zero, List.set_cons_succ]
  refine wpAnyH_take (i := 6) (v := undef) (get_ops _ _ _ rfl) (by kernel_rfl) (by kernel_rfl) (by kernel_rfl) (fun _ _ _ h => h) (Or.inr ⟨by rfl, rfl⟩) hHeld ?_
  try simp only [Act.put, List.setIfInBounds_toArray, List.set_cons_zero, List.set_cons_succ]
  refine wpAnyH_take (i := 7) (v := .bool false) (get_ops _ _ _ rfl) (by kernel_rfl) (by kernel_rfl) (by kernel_rfl) (fun _ _ _ h => h) (Or.inl ⟨by rfl, fun wS hSw => by (try dsimp only at hSw); go_simp⟩) hHeld ?_
  try simp only [Act.put, List.setIfInBounds_toArray, List.set_cons_zero, List.set_cons_succ]
  refine wpAnyH_done (by kernel_rfl) ?_ _
  have dt0 := Mt_x3v1.out.cell 0 rfl
  have dt1 := Mt_x3v1.out.cell 1 rfl
  go_wp2_with fail
  refine (C3.out x3v1).mono ?_
  rintro e w5 ⟨rfl, hb⟩
  have B_w5 : Hid (Below w.heap.size w w5) := Lib.hid (stepB B_x3v1.out hb)
  have Mt_w5 : Hid (BK 23 w5 (w.heap.size) [.int .i64 m, .int .i64 u]) := Lib.hid (Mt_x3v1.out.step hb)
  have Md_w5 : Hid (BK 23 w5 (w2.heap.size) [.int .i64 m, .int .i64 u]) := Lib.hid (Md_x3v1.out.step hb)
  clear dt0 dt1
  clear B_x3v1 Mt_x3v1 Md_x3v1
  clear hb
  go_wp2_with fail
  refine (C4.out w5).mono ?_
  rintro e w6 ⟨rfl, hb⟩
  have B_w6 : Hid (Below w.heap.size w w6) := Lib.hid (stepB B_w5.out hb)
  have Mt_w6 : Hid (BK 23 w6 (w.heap.size) [.int .i64 m, .int .i64 u]) := Lib.hid (Mt_w5.out.step hb)
  have Md_w6 : Hid (BK 23 w6 (w2.heap.size) [.int .i64 m, .int .i64 u]) := Lib.hid (Md_w5.out.step hb)
  clear B_w5 Mt_w5 Md_w5
  clear hb
  go_wp2_with first | (refine wpList_store_all (by rfl) 23 (.tmp 5) (.tmp 38) rfl rfl (w6.heap.size) rfl [.int .i64 m, .int .i64 u] rfl 23 [.int .i64 0, .int .i64 0] (BK.new w6 _ _) infoC2 rfl (all_one rfl) ?_; intro w7 hM hP; have Me_w7 : Hid (BK 23 w7 (w6.heap.size) [.int .i64 m, .int .i64 u]) := Lib.hid hM; have Lt_e : Hid (w.heap.size < w6.heap.size) := Lib.hid Mt_w6.out.lt; have Ld_e : Hid (w2.heap.size < w6.heap.size) := Lib.hid Md_w6.out.lt; have Ze : Hid (w.heap.size ≤ w6.heap.size) := Lib.hid B_w6.out.size; have B_w7 : Hid (Below w.heap.size w w7) := Lib.hid (hP.below (stepB B_w6.out (below_new w6 _)) B_w6.out.size); have Mt_w7 : Hid (BK 23 w7 (w.heap.size) [.int .i64 m, .int .i64 u]) := Lib.hid (hP.other (BK.alloc Mt_w6.out _) (Nat.ne_of_lt Mt_w6.out.lt)); have Md_w7 : Hid (BK 23 w7 (w2.heap.size) [.int .i64 m, .int .i64 u]) := Lib.hid (hP.other (BK.alloc Md_w6.out _) (Nat.ne_of_lt Md_w6.out.lt)); clear B_w6 Mt_w6 Md_w6 hM hP)
  refine (HA.out w7).mono ?_
  rintro e w8 ⟨rfl, hb⟩
  have B_w8 : Hid (Below w.heap.size w w8) := Lib.hid (stepB B_w7.out hb)
  have Mt_w8 : Hid (BK 23 w8 (w.heap.size) [.int .i64 m, .int .i64 u]) := Lib.hid (Mt_w7.out.step hb)
  have Md_w8 : Hid (BK 23 w8 (w2.heap.size) [.int .i64 m, .int .i64 u]) := Lib.hid (Md_w7.out.step hb)
  have Me_w8 : Hid (BK 23 w8 (w6.heap.size) [.int .i64 m, .int .i64 u]) := Lib.hid (Me_w7.out.step hb)
  clear B_w7 Mt_w7 Md_w7 Me_w7
  clear hb
  have dt0 := Mt_w8.out.cell 0 rfl
  have dt1 := Mt_w8.out.cell 1 rfl
  have de0 := Me_w8.out.cell 0 rfl
  have de1 := Me_w8.out.cell 1 rfl
  go_wp2_with fail
  refine (same16_self m u w8).mono ?_
  rintro e w9 ⟨rfl, hb⟩
  have B_w9 : Hid (Below w.heap.size w w9) := Lib.hid (stepB B_w8.out hb)
  have Mt_w9 : Hid (BK 23 w9 (w.heap.size) [.int .i64 m, .int .i64 u]) := Lib.hid (Mt_w8.out.step hb)
  have Md_w9 : Hid (BK 23 w9 (w2.heap.size) [.int .i64 m, .int .i64 u]) := Lib.hid (Md_w8.out.step hb)
  have Me_w9 : Hid (BK 23 w9 (w6.heap.size) [.int .i64 m, .int .i64 u]) := Lib.hid (Me_w8.out.step hb)
  clear dt0 dt1 de0 de1
  clear B_w8 Mt_w8 Md_w8 Me_w8
  clear hb
  go_wp2_with fail
  go_ret
  exact ⟨rfl, B_w9.out⟩
theorem flowBack_walk (m u : Int) (w : World) : Calls Try.prog 4 #[cv m u] w fun e w' => e = .returned (.bool true) ∧ Below w.heap.size w w' := by
  cases hv : okC (m, u) with
  | false => exact flowBack_bad m u w hv
  | true =>
    by_cases hp : 0 < lfC (m, u)
    · by_cases h1 : u < 1
      · exact flowBack_tLow m u w hv hp h1
      · by_cases h2 : m < u
        · exact flowBack_tHigh m u w hv hp h1 h2
        · exact flowBack_tMid m u w hv hp h1 h2
    · by_cases h1 : u < 1
      · exact flowBack_nLow m u w hv hp h1
      · by_cases h2 : m < u
        · exact flowBack_nHigh m u w hv hp h1 h2
        · exact flowBack_nMid m u w hv hp h1 h2
set_option maxRecDepth 20000 in
set_option maxHeartbeats 4000000 in
theorem flowNext_bad (A : Option Addr) (c : Nat) (X : List (Int × Int)) (last : Int) (w : World) (hsl : CrL w w.heap.size A X) (hX : X.length ≤ 9223372036854775807) (_hl1 : -9223372036854775808 ≤ last) (_hl2 : last ≤ 9223372036854775807) (hv : vlC X = false) :
    Calls Try.prog 5 #[.slice A X.length c, .int .i64 last] w fun e w' => e = .returned (.bool true) ∧ Below w.heap.size w w' := by
  have HA := Lib.hid (fun w => awake16_any w)
  have CV := Lib.hid (fun w hs => valid16_any A c X w hs hX)
  rw [hv] at CV
  have Sx_w := Lib.hid hsl
  have _u := And.intro hsl hX
  clear hsl hX hv _u
  go_enter Try.func5, Try.ntmps5
  go_wp2_with fail
  refine (CV.out w Sx_w.out).mono ?_
  rintro e w1 ⟨rfl, hb⟩
  have B_w1 : Hid (Below w.heap.size w w1) := Lib.hid (hb)
  have Sx_w1 : Hid (CrL w1 w1.heap.size A X) := Lib.hid (GL.step Sx_w.out hb)
  clear Sx_w
  clear hb
  go_wp2_with fail
  refine (HA.out w1).mono ?_
  rintro e w2 ⟨rfl, hb⟩
  have B_w2 : Hid (Below w.heap.size w w2) := Lib.hid (stepB B_w1.out hb)
  have Sx_w2 : Hid (CrL w2 w2.heap.size A X) := Lib.hid (GL.step Sx_w1.out hb)
  clear B_w1 Sx_w1
  clear hb
  go_wp2_with fail
  go_ret
  exact ⟨rfl, B_w2.out⟩
set_option maxRecDepth 20000 in
set_option maxHeartbeats 4000000 in
theorem flowNext_good (A : Option Addr) (c : Nat) (X : List (Int × Int)) (last : Int) (w : World) (hsl : CrL w w.heap.size A X) (hX : X.length ≤ 9223372036854775807) (hl1 : -9223372036854775808 ≤ last) (hl2 : last ≤ 9223372036854775807) (hv : vlC X = true) :
    Calls Try.prog 5 #[.slice A X.length c, .int .i64 last] w fun e w' => e = .returned (.bool true) ∧ Below w.heap.size w w' := by
  have HA := Lib.hid (fun w => awake16_any w)
  have CV := Lib.hid (fun w hs => valid16_any A c X w hs hX)
  rw [hv] at CV
  have Sx_w := Lib.hid hsl
  obtain ⟨hv1, hv2⟩ := vlC_iff.1 hv
  have C1 := Lib.hid (fun w hs => fNext_loop A c X last hl1 hl2 w hs (by omega) hv2)
  have C2 := Lib.hid (fun w hs => rNext_loop A c X last hl1 hl2 w hs (by omega) hv2)
  generalize nxC X last = o at C1 C2
  unfold RetN at C1 C2
  generalize (((o.getD 0 : Nat) : Int)) = i at C1 C2
  generalize o.isSome = b at C1 C2
  clear hsl hX hv hv1 hv2
  go_enter Try.func5, Try.ntmps5
  go_wp2_with fail
  refine (CV.out w Sx_w.out).mono ?_
  rintro e w1 ⟨rfl, hb⟩
  have B_w1 : Hid (Below w.heap.size w w1) := Lib.hid (hb)
  have Sx_w1 : Hid (CrL w1 w1.heap.size A X) := Lib.hid (GL.step Sx_w.out hb)
  clear Sx_w
  clear hb
  go_wp2_with fail
  refine (C1.out w1 Sx_w1.out).mono ?_
  rintro e w2 ⟨rfl, hb⟩
  have B_w2 : Hid (Below w.heap.size w w2) := Lib.hid (stepB B_w1.out hb)
  have Sx_w2 : Hid (CrL w2 w2.heap.size A X) := Lib.hid (GL.step Sx_w1.out hb)
  clear B_w1 Sx_w1
  clear hb
  go_wp2_with fail
  refine (C2.out w2 Sx_w2.out).mono ?_
  rintro e w3 ⟨rfl, hb⟩
  have B_w3 : Hid (Below w.heap.size w w3) := Lib.hid (stepB B_w2.out hb)
  have Sx_w3 : Hid (CrL w3 w3.heap.size A X) := Lib.hid (GL.step Sx_w2.out hb)
  clear B_w2 Sx_w2
  clear hb
  go_wp2_with fail
  refine (HA.out w3).mono ?_
  rintro e w4 ⟨rfl, hb⟩
  have B_w4 : Hid (Below w.heap.size w w4) := Lib.hid (stepB B_w3.out hb)
  have Sx_w4 : Hid (CrL w4 w4.heap.size A X) := Lib.hid (GL.step Sx_w3.out hb)
  clear B_w3 Sx_w3
  clear hb
  go_wp2_with fail
  go_ret
  exact ⟨rfl, B_w4.out⟩
theorem flowNext_walk (A : Option Addr) (c : Nat) (X : List (Int × Int)) (last : Int) (w : World) (hsl : CrL w w.heap.size A X) (hX : X.length ≤ 9223372036854775807) (hl1 : -9223372036854775808 ≤ last) (hl2 : last ≤ 9223372036854775807) :
    Calls Try.prog 5 #[.slice A X.length c, .int .i64 last] w fun e w' => e = .returned (.bool true) ∧ Below w.heap.size w w' := by
  cases hv : vlC X with
  | true => exact flowNext_good A c X last w hsl hX hl1 hl2 hv
  | false => exact flowNext_bad A c X last w hsl hX hl1 hl2 hv
set_option maxRecDepth 20000 in
set_option maxHeartbeats 4000000 in
theorem flowRounds_bad (A : Option Addr) (c : Nat) (X : List (Int × Int)) (last n : Int) (w : World) (hsl : CrL w w.heap.size A X) (hX : X.length ≤ 9223372036854775807) (_hl1 : -9223372036854775808 ≤ last) (_hl2 : last ≤ 9223372036854775807) (_hn1 : -9223372036854775808 ≤ n) (_hn2 : n ≤ 9223372036854775807) (hv : vlC X = false) :
    Calls Try.prog 6 #[.slice A X.length c, .int .i64 last, .int .i64 n] w fun e w' => e = .returned (.bool true) ∧ Below w.heap.size w w' := by
  have HA := Lib.hid (fun w => awake16_any w)
  have CV := Lib.hid (fun w hs => valid16_any A c X w hs hX)
  rw [hv] at CV
  have Sx_w := Lib.hid hsl
  have _u := And.intro hsl hX
  clear hsl hX hv _u
  go_enter Try.func6, Try.ntmps6
  go_wp2_with fail
  refine (CV.out w Sx_w.out).mono ?_
  rintro e w1 ⟨rfl, hb⟩
  have B_w1 : Hid (Below w.heap.size w w1) := Lib.hid (hb)
  have Sx_w1 : Hid (CrL w1 w1.heap.size A X) := Lib.hid (GL.step Sx_w.out hb)
  clear Sx_w
  clear hb
  go_wp2_with fail
  refine (HA.out w1).mono ?_
  rintro e w2 ⟨rfl, hb⟩
  have B_w2 : Hid (Below w.heap.size w w2) := Lib.hid (stepB B_w1.out hb)
  have Sx_w2 : Hid (CrL w2 w2.heap.size A X) := Lib.hid (GL.step Sx_w1.out hb)
  clear B_w1 Sx_w1
  clear hb
  go_wp2_with fail
  go_ret
  exact ⟨rfl, B_w2.out⟩
set_option maxRecDepth 20000 in
set_option maxHeartbeats 4000000 in
theorem flowRounds_good (A : Option Addr) (c : Nat) (X : List (Int × Int)) (last n : Int) (w : World) (hsl : CrL w w.heap.size A X) (hX : X.length ≤ 9223372036854775807) (hl1 : -9223372036854775808 ≤ last) (hl2 : last ≤ 9223372036854775807) (_hn1 : -9223372036854775808 ≤ n) (_hn2 : n ≤ 9223372036854775807) (hv : vlC X = true) :
    Calls Try.prog 6 #[.slice A X.length c, .int .i64 last, .int .i64 n] w fun e w' => e = .returned (.bool true) ∧ Below w.heap.size w w' := by
  have HA := Lib.hid (fun w => awake16_any w)
  have CV := Lib.hid (fun w hs => valid16_any A c X w hs hX)
  rw [hv] at CV
  have Sx_w := Lib.hid hsl
  obtain ⟨hv1, hv2⟩ := vlC_iff.1 hv
  have C1 := Lib.hid (fun w hs => fRound_any A c X last n hl1 hl2 w hs (by omega) hv2)
  have C2 := Lib.hid (fun w hs => rRound_any A c X last n hl1 hl2 w hs (by omega) hv2)
  have HY := Lib.hid (Nat.le_trans (Nat.le_of_eq (rdC_len X last n)) hX)
  generalize rdC X last n = r at C1 C2 HY
  obtain ⟨Y, la⟩ := r
  dsimp only at HY
  clear hsl hX hv hv1 hv2
  go_enter Try.func6, Try.ntmps6
  go_wp2_with fail
  refine (CV.out w Sx_w.out).mono ?_
  rintro e w1 ⟨rfl, hb⟩
  have B_w1 : Hid (Below w.heap.size w w1) := Lib.hid (hb)
  have Sx_w1 : Hid (CrL w1 w1.heap.size A X) := Lib.hid (GL.step Sx_w.out hb)
  clear Sx_w
  clear hb
  go_wp2_with fail
  refine (C1.out w1 Sx_w1.out).mono ?_
  rintro e w2 ⟨A1, c1, rfl, _, hs1, hb⟩
  have B_w2 : Hid (Below w.heap.size w w2) := Lib.hid (stepB B_w1.out hb)
  have Sx_w2 : Hid (CrL w2 w2.heap.size A X) := Lib.hid (GL.step Sx_w1.out hb)
  clear B_w1 Sx_w1
  clear hb
  have Sa_w2 := Lib.hid (hs1)
  clear hs1
  go_wp2_with fail
  refine (C2.out w2 Sx_w2.out).mono ?_
  rintro e w3 ⟨A2, c2, rfl, _, hs2, hb⟩
  have B_w3 : Hid (Below w.heap.size w w3) := Lib.hid (stepB B_w2.out hb)
  have Sx_w3 : Hid (CrL w3 w3.heap.size A X) := Lib.hid (GL.step Sx_w2.out hb)
  have Sa_w3 : Hid (IL w3 w3.heap.size A1 Y) := Lib.hid (CL.step Sa_w2.out hb)
  clear B_w2 Sx_w2 Sa_w2
  clear hb
  have Sb_w3 := Lib.hid (hs2)
  clear hs2
  go_wp2_with fail
  refine (HA.out w3).mono ?_
  rintro e w4 ⟨rfl, hb⟩
  have B_w4 : Hid (Below w.heap.size w w4) := Lib.hid (stepB B_w3.out hb)
  have Sx_w4 : Hid (CrL w4 w4.heap.size A X) := Lib.hid (GL.step Sx_w3.out hb)
  have Sa_w4 : Hid (IL w4 w4.heap.size A1 Y) := Lib.hid (CL.step Sa_w3.out hb)
  have Sb_w4 : Hid (IL w4 w4.heap.size A2 Y) := Lib.hid (CL.step Sb_w3.out hb)
  clear B_w3 Sx_w3 Sa_w3 Sb_w3
  clear hb
  go_wp2_with fail
  refine (ints_self16 A1 A2 c1 c2 Y w4 Sa_w4.out Sb_w4.out HY.out).mono ?_
  rintro e w5 ⟨rfl, hb⟩
  have B_w5 : Hid (Below w.heap.size w w5) := Lib.hid (stepB B_w4.out hb)
  have Sx_w5 : Hid (CrL w5 w5.heap.size A X) := Lib.hid (GL.step Sx_w4.out hb)
  have Sa_w5 : Hid (IL w5 w5.heap.size A1 Y) := Lib.hid (CL.step Sa_w4.out hb)
  have Sb_w5 : Hid (IL w5 w5.heap.size A2 Y) := Lib.hid (CL.step Sb_w4.out hb)
  clear B_w4 Sx_w4 Sa_w4 Sb_w4
  clear hb
  go_wp2_with fail
  go_ret
  exact ⟨rfl, B_w5.out⟩
theorem flowRounds_walk (A : Option Addr) (c : Nat) (X : List (Int × Int)) (last n : Int) (w : World) (hsl : CrL w w.heap.size A X) (hX : X.length ≤ 9223372036854775807) (hl1 : -9223372036854775808 ≤ last) (hl2 : last ≤ 9223372036854775807) (_hn1 : -9223372036854775808 ≤ n) (_hn2 : n ≤ 9223372036854775807) :
    Calls Try.prog 6 #[.slice A X.length c, .int .i64 last, .int .i64 n] w fun e w' => e = .returned (.bool true) ∧ Below w.heap.size w w' := by
  cases hv : vlC X with
  | true => exact flowRounds_good A c X last n w hsl hX hl1 hl2 _hn1 _hn2 hv
  | false => exact flowRounds_bad A c X last n w hsl hX hl1 hl2 _hn1 _hn2 hv
end Go.Proofs.Ytomlideijhejfab
