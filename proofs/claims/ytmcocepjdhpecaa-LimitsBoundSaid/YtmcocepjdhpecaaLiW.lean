/-
  The example that each statement of brokerlaw21 looks at; which buckets and instants are valid. Conditions: none.
-/
import Derived.Test.YtmcocepjdhpecaaLiI
namespace Go.Proofs.Ytmcocepjdhpecaa
open Go.RowKit

theorem infoQ4 : (Try.prog.info? 45).map (·.size) = some 4 := by kernel_rfl
set_option maxRecDepth 20000 in
set_option maxHeartbeats 4000000 in
theorem awake21_any (w : World) : Calls Try.prog 9 #[] w fun e w' => e = .returned (.bool true) ∧ Below w.heap.size w w' := by
  have o1 : okL 1 5 0 0 := by unfold okL; decide
  have H1 : Hid (∀ w, Calls Try.prog 13 #[bk 1 5 0 0, .int .i64 3, .int .i64 3] w (RetTL 1 5 0 3 true w)) := Lib.hid (fun w => lTake_any 1 5 0 0 3 3 o1 (by decide) (by decide) w)
  have H2 : Hid (∀ w, Calls Try.prog 13 #[bk 1 5 0 0, .int .i64 3, .int .i64 4] w (RetTL 1 5 3 3 false w)) := Lib.hid (fun w => lTake_any 1 5 0 0 3 4 o1 (by decide) (by decide) w)
  have H3 : Hid (∀ w, Calls Try.prog 18 #[bk 1 5 0 0, .int .i64 0, .int .i64 4] w fun e w' => e = .returned (.tuple #[.int .i64 4, .bool true]) ∧ Below w.heap.size w w') := Lib.hid (fun w => lWait_any 1 5 0 0 0 4 o1 (by decide) (by decide) w)
  have H4 : Hid (∀ w, Calls Try.prog 15 #[bk 1 5 0 0, .int .i64 9] w (RetL 1 5 5 9 w)) := Lib.hid (fun w => lRefill_any 1 5 0 0 9 o1 (by decide) (by decide) w)
  have H5 : Hid (∀ w, Calls Try.prog 10 #[bk 0 0 1 0] w fun e w' => e = .returned (.int .i64 1) ∧ Below w.heap.size w w') := Lib.hid (fun w => lCheckL_any 0 0 1 0 w)
  have HS : Hid (∀ r b v t w, Calls Try.prog 16 #[bk r b v t, bk r b v t] w fun e w' => e = .returned (.bool true) ∧ Below w.heap.size w w') := Lib.hid (fun r b v t w => by have := rSameL_any r b v t r b v t w; simpa using this)
  clear o1
  go_enter Try.func9, Try.ntmps9
  go_wp2_with first | (refine wpList_store_all (by rfl) 23 (.tmp 1) (.tmp 12) rfl rfl (w.heap.size) rfl [.int .i64 1, .int .i64 5, .int .i64 0, .int .i64 0] rfl 23 [.int .i64 0, .int .i64 0, .int .i64 0, .int .i64 0] (BK.new w _ _) infoB4 rfl (all_one rfl) ?_; intro w1 hM hP; have Mb_w1 : Hid (BK 23 w1 (w.heap.size) [.int .i64 1, .int .i64 5, .int .i64 0, .int .i64 0]) := Lib.hid hM; have Zb : Hid (w.heap.size ≤ w.heap.size) := Lib.hid (Nat.le_refl _); have B_w1 : Hid (Below w.heap.size w w1) := Lib.hid (hP.below (below_new w _) (Nat.le_refl _)); clear hM hP; have db0 := Mb_w1.out.cell 0 rfl; have db1 := Mb_w1.out.cell 1 rfl; have db2 := Mb_w1.out.cell 2 rfl; have db3 := Mb_w1.out.cell 3 rfl)
  refine (H1.out w1).mono ?_
  rintro e w2 ⟨rfl, hb⟩
  have B_w2 : Hid (Below w.heap.size w w2) := Lib.hid (stepB B_w1.out hb)
  have Mb_w2 : Hid (BK 23 w2 (w.heap.size) [.int .i64 1, .int .i64 5, .int .i64 0, .int .i64 0]) := Lib.hid (Mb_w1.out.step hb)
  clear db0 db1 db2 db3
  clear B_w1 Mb_w1
  clear hb
  have db0 := Mb_w2.out.cell 0 rfl
  have db1 := Mb_w2.out.cell 1 rfl
  have db2 := Mb_w2.out.cell 2 rfl
  have db3 := Mb_w2.out.cell 3 rfl
  go_wp2_with first | (refine wpList_store_all (by rfl) 23 (.tmp 2) (.tmp 16) rfl rfl (w2.heap.size) rfl [.int .i64 1, .int .i64 5, .int .i64 0, .int .i64 3] rfl 23 [.int .i64 0, .int .i64 0, .int .i64 0, .int .i64 0] (BK.new w2 _ _) infoB4 rfl (all_one rfl) ?_; intro w3 hM hP; have Mc_w3 : Hid (BK 23 w3 (w2.heap.size) [.int .i64 1, .int .i64 5, .int .i64 0, .int .i64 3]) := Lib.hid hM; have Lb_c : Hid (w.heap.size < w2.heap.size) := Lib.hid Mb_w2.out.lt; have Zc : Hid (w.heap.size ≤ w2.heap.size) := Lib.hid B_w2.out.size; have B_w3 : Hid (Below w.heap.size w w3) := Lib.hid (hP.below (stepB B_w2.out (below_new w2 _)) B_w2.out.size); have Mb_w3 : Hid (BK 23 w3 (w.heap.size) [.int .i64 1, .int .i64 5, .int .i64 0, .int .i64 0]) := Lib.hid (hP.other (BK.alloc Mb_w2.out _) (Nat.ne_of_lt Mb_w2.out.lt)); clear B_w2 Mb_w2 hM hP db0 db1 db2 db3; have db0 := Mb_w3.out.cell 0 rfl; have db1 := Mb_w3.out.cell 1 rfl; have db2 := Mb_w3.out.cell 2 rfl; have db3 := Mb_w3.out.cell 3 rfl)
  refine (H2.out w3).mono ?_
  rintro e w4 ⟨rfl, hb⟩
  have B_w4 : Hid (Below w.heap.size w w4) := Lib.hid (stepB B_w3.out hb)
  have Mb_w4 : Hid (BK 23 w4 (w.heap.size) [.int .i64 1, .int .i64 5, .int .i64 0, .int .i64 0]) := Lib.hid (Mb_w3.out.step hb)
  have Mc_w4 : Hid (BK 23 w4 (w2.heap.size) [.int .i64 1, .int .i64 5, .int .i64 0, .int .i64 3]) := Lib.hid (Mc_w3.out.step hb)
  clear db0 db1 db2 db3
  clear B_w3 Mb_w3 Mc_w3
  clear hb
  have db0 := Mb_w4.out.cell 0 rfl
  have db1 := Mb_w4.out.cell 1 rfl
  have db2 := Mb_w4.out.cell 2 rfl
  have db3 := Mb_w4.out.cell 3 rfl
  go_wp2_with first | (refine wpList_store_all (by rfl) 23 (.tmp 4) (.tmp 21) rfl rfl (w4.heap.size) rfl [.int .i64 1, .int .i64 5, .int .i64 3, .int .i64 3] rfl 23 [.int .i64 0, .int .i64 0, .int .i64 0, .int .i64 0] (BK.new w4 _ _) infoB4 rfl (all_one rfl) ?_; intro w5 hM hP; have Md_w5 : Hid (BK 23 w5 (w4.heap.size) [.int .i64 1, .int .i64 5, .int .i64 3, .int .i64 3]) := Lib.hid hM; have Lb_d : Hid (w.heap.size < w4.heap.size) := Lib.hid Mb_w4.out.lt; have Lc_d : Hid (w2.heap.size < w4.heap.size) := Lib.hid Mc_w4.out.lt; have Zd : Hid (w.heap.size ≤ w4.heap.size) := Lib.hid B_w4.out.size; have B_w5 : Hid (Below w.heap.size w w5) := Lib.hid (hP.below (stepB B_w4.out (below_new w4 _)) B_w4.out.size); have Mb_w5 : Hid (BK 23 w5 (w.heap.size) [.int .i64 1, .int .i64 5, .int .i64 0, .int .i64 0]) := Lib.hid (hP.other (BK.alloc Mb_w4.out _) (Nat.ne_of_lt Mb_w4.out.lt)); have Mc_w5 : Hid (BK 23 w5 (w2.heap.size) [.int .i64 1, .int .i64 5, .int .i64 0, .int .i64 3]) := Lib.hid (hP.other (BK.alloc Mc_w4.out _) (Nat.ne_of_lt Mc_w4.out.lt)); clear B_w4 Mb_w4 Mc_w4 hM hP db0 db1 db2 db3; have db0 := Mb_w5.out.cell 0 rfl; have db1 := Mb_w5.out.cell 1 rfl; have db2 := Mb_w5.out.cell 2 rfl; have db3 := Mb_w5.out.cell 3 rfl)
  refine (H3.out w5).mono ?_
  rintro e w6 ⟨rfl, hb⟩
  have B_w6 : Hid (Below w.heap.size w w6) := Lib.hid (stepB B_w5.out hb)
  have Mb_w6 : Hid (BK 23 w6 (w.heap.size) [.int .i64 1, .int .i64 5, .int .i64 0, .int .i64 0]) := Lib.hid (Mb_w5.out.step hb)
  have Mc_w6 : Hid (BK 23 w6 (w2.heap.size) [.int .i64 1, .int .i64 5, .int .i64 0, .int .i64 3]) := Lib.hid (Mc_w5.out.step hb)
  have Md_w6 : Hid (BK 23 w6 (w4.heap.size) [.int .i64 1, .int .i64 5, .int .i64 3, .int .i64 3]) := Lib.hid (Md_w5.out.step hb)
  clear db0 db1 db2 db3
  clear B_w5 Mb_w5 Mc_w5 Md_w5
  clear hb
  go_wp2_with fail
  refine (lCharge_ex w6).mono ?_
  rintro e w7 ⟨rfl, hb⟩
  have B_w7 : Hid (Below w.heap.size w w7) := Lib.hid (stepB B_w6.out hb)
  have Mb_w7 : Hid (BK 23 w7 (w.heap.size) [.int .i64 1, .int .i64 5, .int .i64 0, .int .i64 0]) := Lib.hid (Mb_w6.out.step hb)
  have Mc_w7 : Hid (BK 23 w7 (w2.heap.size) [.int .i64 1, .int .i64 5, .int .i64 0, .int .i64 3]) := Lib.hid (Mc_w6.out.step hb)
  have Md_w7 : Hid (BK 23 w7 (w4.heap.size) [.int .i64 1, .int .i64 5, .int .i64 3, .int .i64 3]) := Lib.hid (Md_w6.out.step hb)
  clear B_w6 Mb_w6 Mc_w6 Md_w6
  clear hb
  go_wp2_with first | (refine wpList_store_all (by rfl) 45 (.tmp 8) (.tmp 31) rfl rfl (w7.heap.size) rfl [.int .i64 2, .int .i64 10, .int .i64 2, .int .i64 10] rfl 45 [.int .i64 0, .int .i64 0, .int .i64 0, .int .i64 0] (BK.new w7 _ _) infoQ4 rfl (all_one rfl) ?_; intro w8 hM hP; have Mq_w8 : Hid (BK 45 w8 (w7.heap.size) [.int .i64 2, .int .i64 10, .int .i64 2, .int .i64 10]) := Lib.hid hM; have Lb_q : Hid (w.heap.size < w7.heap.size) := Lib.hid Mb_w7.out.lt; have Lc_q : Hid (w2.heap.size < w7.heap.size) := Lib.hid Mc_w7.out.lt; have Ld_q : Hid (w4.heap.size < w7.heap.size) := Lib.hid Md_w7.out.lt; have Zq : Hid (w.heap.size ≤ w7.heap.size) := Lib.hid B_w7.out.size; have B_w8 : Hid (Below w.heap.size w w8) := Lib.hid (hP.below (stepB B_w7.out (below_new w7 _)) B_w7.out.size); have Mb_w8 : Hid (BK 23 w8 (w.heap.size) [.int .i64 1, .int .i64 5, .int .i64 0, .int .i64 0]) := Lib.hid (hP.other (BK.alloc Mb_w7.out _) (Nat.ne_of_lt Mb_w7.out.lt)); have Mc_w8 : Hid (BK 23 w8 (w2.heap.size) [.int .i64 1, .int .i64 5, .int .i64 0, .int .i64 3]) := Lib.hid (hP.other (BK.alloc Mc_w7.out _) (Nat.ne_of_lt Mc_w7.out.lt)); have Md_w8 : Hid (BK 23 w8 (w4.heap.size) [.int .i64 1, .int .i64 5, .int .i64 3, .int .i64 3]) := Lib.hid (hP.other (BK.alloc Md_w7.out _) (Nat.ne_of_lt Md_w7.out.lt)); clear B_w7 Mb_w7 Mc_w7 Md_w7 hM hP; have dq0 := Mq_w8.out.cell 0 rfl; have dq1 := Mq_w8.out.cell 1 rfl; have dq2 := Mq_w8.out.cell 2 rfl; have dq3 := Mq_w8.out.cell 3 rfl)
  refine (lRefund_ex w8).mono ?_
  rintro e w9 ⟨rfl, hb⟩
  have B_w9 : Hid (Below w.heap.size w w9) := Lib.hid (stepB B_w8.out hb)
  have Mb_w9 : Hid (BK 23 w9 (w.heap.size) [.int .i64 1, .int .i64 5, .int .i64 0, .int .i64 0]) := Lib.hid (Mb_w8.out.step hb)
  have Mc_w9 : Hid (BK 23 w9 (w2.heap.size) [.int .i64 1, .int .i64 5, .int .i64 0, .int .i64 3]) := Lib.hid (Mc_w8.out.step hb)
  have Md_w9 : Hid (BK 23 w9 (w4.heap.size) [.int .i64 1, .int .i64 5, .int .i64 3, .int .i64 3]) := Lib.hid (Md_w8.out.step hb)
  have Mq_w9 : Hid (BK 45 w9 (w7.heap.size) [.int .i64 2, .int .i64 10, .int .i64 2, .int .i64 10]) := Lib.hid (Mq_w8.out.step hb)
  clear dq0 dq1 dq2 dq3
  clear B_w8 Mb_w8 Mc_w8 Md_w8 Mq_w8
  clear hb
  have dc0 := Mc_w9.out.cell 0 rfl
  have dc1 := Mc_w9.out.cell 1 rfl
  have dc2 := Mc_w9.out.cell 2 rfl
  have dc3 := Mc_w9.out.cell 3 rfl
  have dd0 := Md_w9.out.cell 0 rfl
  have dd1 := Md_w9.out.cell 1 rfl
  have dd2 := Md_w9.out.cell 2 rfl
  have dd3 := Md_w9.out.cell 3 rfl
  have dq0 := Mq_w9.out.cell 0 rfl
  have dq1 := Mq_w9.out.cell 1 rfl
  have dq2 := Mq_w9.out.cell 2 rfl
  have dq3 := Mq_w9.out.cell 3 rfl
  go_wp2_with first | (refine wpList_store_all (by rfl) 45 (.tmp 10) (.tmp 36) rfl rfl (w9.heap.size) rfl [.int .i64 0, .int .i64 0, .int .i64 0, .int .i64 0] rfl 45 [.int .i64 0, .int .i64 0, .int .i64 0, .int .i64 0] (BK.new w9 _ _) infoQ4 rfl (all_one rfl) ?_; intro w10 hM hP; have Mx_w10 : Hid (BK 45 w10 (w9.heap.size) [.int .i64 0, .int .i64 0, .int .i64 0, .int .i64 0]) := Lib.hid hM; have Lb_x : Hid (w.heap.size < w9.heap.size) := Lib.hid Mb_w9.out.lt; have Lc_x : Hid (w2.heap.size < w9.heap.size) := Lib.hid Mc_w9.out.lt; have Ld_x : Hid (w4.heap.size < w9.heap.size) := Lib.hid Md_w9.out.lt; have Lq_x : Hid (w7.heap.size < w9.heap.size) := Lib.hid Mq_w9.out.lt; have Zx : Hid (w.heap.size ≤ w9.heap.size) := Lib.hid B_w9.out.size; have B_w10 : Hid (Below w.heap.size w w10) := Lib.hid (hP.below (stepB B_w9.out (below_new w9 _)) B_w9.out.size); have Mb_w10 : Hid (BK 23 w10 (w.heap.size) [.int .i64 1, .int .i64 5, .int .i64 0, .int .i64 0]) := Lib.hid (hP.other (BK.alloc Mb_w9.out _) (Nat.ne_of_lt Mb_w9.out.lt)); have Mc_w10 : Hid (BK 23 w10 (w2.heap.size) [.int .i64 1, .int .i64 5, .int .i64 0, .int .i64 3]) := Lib.hid (hP.other (BK.alloc Mc_w9.out _) (Nat.ne_of_lt Mc_w9.out.lt)); have Md_w10 : Hid (BK 23 w10 (w4.heap.size) [.int .i64 1, .int .i64 5, .int .i64 3, .int .i64 3]) := Lib.hid (hP.other (BK.alloc Md_w9.out _) (Nat.ne_of_lt Md_w9.out.lt)); have Mq_w10 : Hid (BK 45 w10 (w7.heap.size) [.int .i64 2, .int .i64 10, .int .i64 2, .int .i64 10]) := Lib.hid (hP.other (BK.alloc Mq_w9.out _) (Nat.ne_of_lt Mq_w9.out.lt)); clear B_w9 Mb_w9 Mc_w9 Md_w9 Mq_w9 hM hP dc0 dc1 dc2 dc3 dd0 dd1 dd2 dd3 dq0 dq1 dq2 dq3; have dc0 := Mc_w10.out.cell 0 rfl; have dc1 := Mc_w10.out.cell 1 rfl; have dc2 := Mc_w10.out.cell 2 rfl; have dc3 := Mc_w10.out.cell 3 rfl)
  refine (HS.out 1 5 0 3 w10).mono ?_
  rintro e w11 ⟨rfl, hb⟩
  have B_w11 : Hid (Below w.heap.size w w11) := Lib.hid (stepB B_w10.out hb)
  have Mb_w11 : Hid (BK 23 w11 (w.heap.size) [.int .i64 1, .int .i64 5, .int .i64 0, .int .i64 0]) := Lib.hid (Mb_w10.out.step hb)
  have Mc_w11 : Hid (BK 23 w11 (w2.heap.size) [.int .i64 1, .int .i64 5, .int .i64 0, .int .i64 3]) := Lib.hid (Mc_w10.out.step hb)
  have Md_w11 : Hid (BK 23 w11 (w4.heap.size) [.int .i64 1, .int .i64 5, .int .i64 3, .int .i64 3]) := Lib.hid (Md_w10.out.step hb)
  have Mq_w11 : Hid (BK 45 w11 (w7.heap.size) [.int .i64 2, .int .i64 10, .int .i64 2, .int .i64 10]) := Lib.hid (Mq_w10.out.step hb)
  have Mx_w11 : Hid (BK 45 w11 (w9.heap.size) [.int .i64 0, .int .i64 0, .int .i64 0, .int .i64 0]) := Lib.hid (Mx_w10.out.step hb)
  clear dc0 dc1 dc2 dc3
  clear B_w10 Mb_w10 Mc_w10 Md_w10 Mq_w10 Mx_w10
  clear hb
  have dd0 := Md_w11.out.cell 0 rfl
  have dd1 := Md_w11.out.cell 1 rfl
  have dd2 := Md_w11.out.cell 2 rfl
  have dd3 := Md_w11.out.cell 3 rfl
  have dq0 := Mq_w11.out.cell 0 rfl
  have dq1 := Mq_w11.out.cell 1 rfl
  have dq2 := Mq_w11.out.cell 2 rfl
  have dq3 := Mq_w11.out.cell 3 rfl
  go_wp2_with fail
  refine (HS.out 1 5 3 3 w11).mono ?_
  rintro e w12 ⟨rfl, hb⟩
  have B_w12 : Hid (Below w.heap.size w w12) := Lib.hid (stepB B_w11.out hb)
  have Mb_w12 : Hid (BK 23 w12 (w.heap.size) [.int .i64 1, .int .i64 5, .int .i64 0, .int .i64 0]) := Lib.hid (Mb_w11.out.step hb)
  have Mc_w12 : Hid (BK 23 w12 (w2.heap.size) [.int .i64 1, .int .i64 5, .int .i64 0, .int .i64 3]) := Lib.hid (Mc_w11.out.step hb)
  have Md_w12 : Hid (BK 23 w12 (w4.heap.size) [.int .i64 1, .int .i64 5, .int .i64 3, .int .i64 3]) := Lib.hid (Md_w11.out.step hb)
  have Mq_w12 : Hid (BK 45 w12 (w7.heap.size) [.int .i64 2, .int .i64 10, .int .i64 2, .int .i64 10]) := Lib.hid (Mq_w11.out.step hb)
  have Mx_w12 : Hid (BK 45 w12 (w9.heap.size) [.int .i64 0, .int .i64 0, .int .i64 0, .int .i64 0]) := Lib.hid (Mx_w11.out.step hb)
  clear dd0 dd1 dd2 dd3 dq0 dq1 dq2 dq3
  clear B_w11 Mb_w11 Mc_w11 Md_w11 Mq_w11 Mx_w11
  clear hb
  have db0 := Mb_w12.out.cell 0 rfl
  have db1 := Mb_w12.out.cell 1 rfl
  have db2 := Mb_w12.out.cell 2 rfl
  have db3 := Mb_w12.out.cell 3 rfl
  have dq0 := Mq_w12.out.cell 0 rfl
  have dq1 := Mq_w12.out.cell 1 rfl
  have dq2 := Mq_w12.out.cell 2 rfl
  have dq3 := Mq_w12.out.cell 3 rfl
  go_wp2_with fail
  refine (H4.out w12).mono ?_
  rintro e w13 ⟨rfl, hb⟩
  have B_w13 : Hid (Below w.heap.size w w13) := Lib.hid (stepB B_w12.out hb)
  have Mb_w13 : Hid (BK 23 w13 (w.heap.size) [.int .i64 1, .int .i64 5, .int .i64 0, .int .i64 0]) := Lib.hid (Mb_w12.out.step hb)
  have Mc_w13 : Hid (BK 23 w13 (w2.heap.size) [.int .i64 1, .int .i64 5, .int .i64 0, .int .i64 3]) := Lib.hid (Mc_w12.out.step hb)
  have Md_w13 : Hid (BK 23 w13 (w4.heap.size) [.int .i64 1, .int .i64 5, .int .i64 3, .int .i64 3]) := Lib.hid (Md_w12.out.step hb)
  have Mq_w13 : Hid (BK 45 w13 (w7.heap.size) [.int .i64 2, .int .i64 10, .int .i64 2, .int .i64 10]) := Lib.hid (Mq_w12.out.step hb)
  have Mx_w13 : Hid (BK 45 w13 (w9.heap.size) [.int .i64 0, .int .i64 0, .int .i64 0, .int .i64 0]) := Lib.hid (Mx_w12.out.step hb)
  clear db0 db1 db2 db3 dq0 dq1 dq2 dq3
  clear B_w12 Mb_w12 Mc_w12 Md_w12 Mq_w12 Mx_w12
  clear hb
  go_wp2_with fail
  refine (HS.out 1 5 5 9 w13).mono ?_
  rintro e w14 ⟨rfl, hb⟩
  have B_w14 : Hid (Below w.heap.size w w14) := Lib.hid (stepB B_w13.out hb)
  have Mb_w14 : Hid (BK 23 w14 (w.heap.size) [.int .i64 1, .int .i64 5, .int .i64 0, .int .i64 0]) := Lib.hid (Mb_w13.out.step hb)
  have Mc_w14 : Hid (BK 23 w14 (w2.heap.size) [.int .i64 1, .int .i64 5, .int .i64 0, .int .i64 3]) := Lib.hid (Mc_w13.out.step hb)
  have Md_w14 : Hid (BK 23 w14 (w4.heap.size) [.int .i64 1, .int .i64 5, .int .i64 3, .int .i64 3]) := Lib.hid (Md_w13.out.step hb)
  have Mq_w14 : Hid (BK 45 w14 (w7.heap.size) [.int .i64 2, .int .i64 10, .int .i64 2, .int .i64 10]) := Lib.hid (Mq_w13.out.step hb)
  have Mx_w14 : Hid (BK 45 w14 (w9.heap.size) [.int .i64 0, .int .i64 0, .int .i64 0, .int .i64 0]) := Lib.hid (Mx_w13.out.step hb)
  clear B_w13 Mb_w13 Mc_w13 Md_w13 Mq_w13 Mx_w13
  clear hb
  go_wp2_with fail
  refine (H5.out w14).mono ?_
  rintro e w15 ⟨rfl, hb⟩
  have B_w15 : Hid (Below w.heap.size w w15) := Lib.hid (stepB B_w14.out hb)
  have Mb_w15 : Hid (BK 23 w15 (w.heap.size) [.int .i64 1, .int .i64 5, .int .i64 0, .int .i64 0]) := Lib.hid (Mb_w14.out.step hb)
  have Mc_w15 : Hid (BK 23 w15 (w2.heap.size) [.int .i64 1, .int .i64 5, .int .i64 0, .int .i64 3]) := Lib.hid (Mc_w14.out.step hb)
  have Md_w15 : Hid (BK 23 w15 (w4.heap.size) [.int .i64 1, .int .i64 5, .int .i64 3, .int .i64 3]) := Lib.hid (Md_w14.out.step hb)
  have Mq_w15 : Hid (BK 45 w15 (w7.heap.size) [.int .i64 2, .int .i64 10, .int .i64 2, .int .i64 10]) := Lib.hid (Mq_w14.out.step hb)
  have Mx_w15 : Hid (BK 45 w15 (w9.heap.size) [.int .i64 0, .int .i64 0, .int .i64 0, .int .i64 0]) := Lib.hid (Mx_w14.out.step hb)
  clear B_w14 Mb_w14 Mc_w14 Md_w14 Mq_w14 Mx_w14
  clear hb
  go_wp2_with fail
  go_ret
  exact ⟨rfl, B_w15.out⟩

def vbL (r b v t now : Int) : Bool := chkL r b v t && isL now 1099511627776
theorem vbL_iff {r b v t now : Int} : vbL r b v t now = true ↔ okL r b v t ∧ 0 ≤ now ∧ now ≤ 1099511627776 := by
  unfold vbL isL
  simp only [Bool.and_eq_true, decide_eq_true_eq, chkL_iff]
theorem ckL_zero (r b v t : Int) : (ckL r b v t == 0) = chkL r b v t := by unfold ckL; cases chkL r b v t <;> simp
set_option maxHeartbeats 2000000 in
theorem valid21_any (r b v t now : Int) (w : World) : Calls Try.prog 12 #[bk r b v t, .int .i64 now] w fun e w' => e = .returned (.bool (vbL r b v t now)) ∧ Below w.heap.size w w' := by
  unfold vbL
  have C1 := Lib.hid (fun w => rCheckL_any r b v t w)
  have C2 := Lib.hid (fun w => instant_any now w)
  have hz := ckL_zero r b v t
  generalize ckL r b v t = k at C1 hz
  generalize chkL r b v t = x at hz ⊢
  generalize isL now 1099511627776 = y at C2 ⊢
  have HB := Lib.hid (below_new w (.cells #[.int .i64 r, .int .i64 b, .int .i64 v, .int .i64 t] 23))
  cases x
  · go_enter Try.func12, Try.ntmps12
    go_wp2_with fail
    refine (C1.out _).mono ?_
    rintro e w1 ⟨rfl, hb⟩
    have B1 := Lib.hid (stepB HB.out hb)
    clear hb
    go_wp2_with fail
    go_ret
    exact ⟨rfl, B1.out⟩
  · go_enter Try.func12, Try.ntmps12
    go_wp2_with fail
    refine (C1.out _).mono ?_
    rintro e w1 ⟨rfl, hb⟩
    have B1 := Lib.hid (stepB HB.out hb)
    clear hb
    go_wp2_with fail
    refine (C2.out _).mono ?_
    rintro e w' ⟨rfl, rfl⟩
    go_wp2_with fail
    go_ret
    exact ⟨rfl, B1.out⟩
end Go.Proofs.Ytmcocepjdhpecaa
