/-
  What the specification's Take, Give and Limit of credits answer. Conditions: the credit is valid.
-/
import Derived.Test.YtomlideijhejfabFlA
namespace Go.Proofs.Ytomlideijhejfab
open Go.RowKit

set_option maxRecDepth 20000 in
set_option maxHeartbeats 2000000 in
theorem rTakeC_any (m u : Int) (h : okC (m, u) = true) (w : World) : Calls Try.prog 12 #[cv m u] w (RetCB m (takeC m u) (decide (0 < lfC (m, u))) w) := by
  obtain ⟨g1, g2, g3, g4⟩ := okC_iff.1 h
  dsimp only at g1 g2 g3 g4
  have HL := Lib.hid (fun w => rLeftC_any m u (by omega) (by omega) (by omega) w)
  have hz := lf_nonneg (m, u)
  unfold takeC
  obtain ⟨w0, hw0⟩ : ∃ w0, w0 = (w.alloc (.cells #[.int .i64 m, .int .i64 u] 23)).alloc (.cells #[.int .i64 0, .int .i64 0] 23) := ⟨_, rfl⟩
  obtain ⟨t1, t2, _, tb⟩ := two_laid (v1 := [.int .i64 m, .int .i64 u]) (v2 := [.int .i64 0, .int .i64 0]) hw0
  have Mt_w0 := Lib.hid t1
  have Mr_w0 := Lib.hid t2
  have B_w0 := Lib.hid tb
  have Lt_r : Hid (w.heap.size < w.heap.size + 1) := Lib.hid (Nat.lt_succ_self _)
  have Zr : Hid (w.heap.size ≤ w.heap.size + 1) := Lib.hid (Nat.le_succ _)
  have HW0 := Lib.hid hw0
  clear hw0 t1 t2 tb
  by_cases hc : lfC (m, u) = 0
  · rw [if_pos hc, hc]
    rw [hc] at HL
    clear h g1 g2 g3 g4 hz hc
    go_enter Try.func12, Try.ntmps12
    go_upto_region 1 with fail
    rw [← HW0.out]
    clear HW0
    have dt0 := Mt_w0.out.cell 0 rfl
    have dt1 := Mt_w0.out.cell 1 rfl
    go_wp2_with fail
    refine (HL.out w0).mono ?_
    rintro e w1 ⟨rfl, hb⟩
    have B_w1 : Hid (Below w.heap.size w w1) := Lib.hid (stepB B_w0.out hb)
    have Mt_w1 : Hid (BK 23 w1 (w.heap.size) [.int .i64 m, .int .i64 u]) := Lib.hid (Mt_w0.out.step hb)
    have Mr_w1 : Hid (BK 23 w1 (w.heap.size + 1) [.int .i64 0, .int .i64 0]) := Lib.hid (Mr_w0.out.step hb)
    clear dt0 dt1
    clear B_w0 Mt_w0 Mr_w0
    clear hb
    have dt0 := Mt_w1.out.cell 0 rfl
    have dt1 := Mt_w1.out.cell 1 rfl
    go_wp2_with first | (refine wpList_store_all (by rfl) 23 (.tmp 2) (.tmp 7) rfl rfl (w.heap.size + 1) rfl [.int .i64 m, .int .i64 u] rfl 23 [.int .i64 0, .int .i64 0] Mr_w1.out infoC2 rfl (all_one rfl) ?_; intro w2 hM hP; have Mr_w2 : Hid (BK 23 w2 (w.heap.size + 1) [.int .i64 m, .int .i64 u]) := Lib.hid hM; have B_w2 : Hid (Below w.heap.size w w2) := Lib.hid (hP.below B_w1.out Zr.out); have Mt_w2 : Hid (BK 23 w2 (w.heap.size) [.int .i64 m, .int .i64 u]) := Lib.hid (hP.other Mt_w1.out (Nat.ne_of_lt Lt_r.out)); clear B_w1 Mt_w1 Mr_w1 hM hP dt0 dt1)
    exact bodyPost_ret (v := .tuple #[.agg #[.int .i64 m, .int .i64 u], .bool false]) (res_cell_tmp rfl _ _ (w.heap.size + 1) 23 _ _ _ rfl rfl Mr_w2.out Try.underlying23 rfl infoC2) rfl ⟨rfl, B_w2.out⟩
  · rw [if_neg hc, decide_eq_true (by omega)]
    have q : (lfC (m, u) == 0) = false := by simp [hc]
    have q2 : wrap64 (u + 1) = u + 1 := wrap64_id _ (by omega) (by omega)
    generalize lfC (m, u) = lf at HL q
    clear h hz hc
    go_enter Try.func12, Try.ntmps12
    go_upto_region 1 with fail
    rw [← HW0.out]
    clear HW0
    have dt0 := Mt_w0.out.cell 0 rfl
    have dt1 := Mt_w0.out.cell 1 rfl
    go_wp2_with fail
    refine (HL.out w0).mono ?_
    rintro e w1 ⟨rfl, hb⟩
    have B_w1 : Hid (Below w.heap.size w w1) := Lib.hid (stepB B_w0.out hb)
    have Mt_w1 : Hid (BK 23 w1 (w.heap.size) [.int .i64 m, .int .i64 u]) := Lib.hid (Mt_w0.out.step hb)
    have Mr_w1 : Hid (BK 23 w1 (w.heap.size + 1) [.int .i64 0, .int .i64 0]) := Lib.hid (Mr_w0.out.step hb)
    clear dt0 dt1
    clear B_w0 Mt_w0 Mr_w0
    clear hb
    have dt0 := Mt_w1.out.cell 0 rfl
    have dt1 := Mt_w1.out.cell 1 rfl
    go_wp2_with first | (refine wpList_store_all (by rfl) 23 (.tmp 2) (.tmp 13) rfl rfl (w.heap.size + 1) rfl [.int .i64 m, .int .i64 (u + 1)] rfl 23 [.int .i64 0, .int .i64 0] Mr_w1.out infoC2 rfl (all_one rfl) ?_; intro w2 hM hP; have Mr_w2 : Hid (BK 23 w2 (w.heap.size + 1) [.int .i64 m, .int .i64 (u + 1)]) := Lib.hid hM; have B_w2 : Hid (Below w.heap.size w w2) := Lib.hid (hP.below B_w1.out Zr.out); have Mt_w2 : Hid (BK 23 w2 (w.heap.size) [.int .i64 m, .int .i64 u]) := Lib.hid (hP.other Mt_w1.out (Nat.ne_of_lt Lt_r.out)); clear B_w1 Mt_w1 Mr_w1 hM hP dt0 dt1)
    exact bodyPost_ret (v := .tuple #[.agg #[.int .i64 m, .int .i64 (u + 1)], .bool true]) (res_cell_tmp rfl _ _ (w.heap.size + 1) 23 _ _ _ rfl rfl Mr_w2.out Try.underlying23 rfl infoC2) rfl ⟨rfl, B_w2.out⟩
set_option maxRecDepth 20000 in
set_option maxHeartbeats 2000000 in
theorem rGive_any (m u : Int) (h : okC (m, u) = true) (w : World) : Calls Try.prog 15 #[cv m u] w (RetC m (giveC u) w) := by
  obtain ⟨g1, g2, g3, g4⟩ := okC_iff.1 h
  dsimp only at g1 g2 g3 g4
  unfold giveC
  obtain ⟨w0, hw0⟩ : ∃ w0, w0 = (w.alloc (.cells #[.int .i64 m, .int .i64 u] 23)).alloc (.cells #[.int .i64 0, .int .i64 0] 23) := ⟨_, rfl⟩
  obtain ⟨t1, t2, _, tb⟩ := two_laid (v1 := [.int .i64 m, .int .i64 u]) (v2 := [.int .i64 0, .int .i64 0]) hw0
  have Mt_w0 := Lib.hid t1
  have Mr_w0 := Lib.hid t2
  have B_w0 := Lib.hid tb
  have Lt_r : Hid (w.heap.size < w.heap.size + 1) := Lib.hid (Nat.lt_succ_self _)
  have Zr : Hid (w.heap.size ≤ w.heap.size + 1) := Lib.hid (Nat.le_succ _)
  have HW0 := Lib.hid hw0
  clear hw0 t1 t2 tb
  by_cases hc : u = 0
  · rw [if_pos hc]
    have q : (u == 0) = true := by simp [hc]
    clear h g1 g2 g3 g4 hc
    go_enter Try.func15, Try.ntmps15
    go_upto_region 1 with fail
    rw [← HW0.out]
    clear HW0
    have dt0 := Mt_w0.out.cell 0 rfl
    have dt1 := Mt_w0.out.cell 1 rfl
    go_wp2_with first | (refine wpList_store_all (by rfl) 23 (.tmp 2) (.tmp 6) rfl rfl (w.heap.size + 1) rfl [.int .i64 m, .int .i64 u] rfl 23 [.int .i64 0, .int .i64 0] Mr_w0.out infoC2 rfl (all_one rfl) ?_; intro w1 hM hP; have Mr_w1 : Hid (BK 23 w1 (w.heap.size + 1) [.int .i64 m, .int .i64 u]) := Lib.hid hM; have B_w1 : Hid (Below w.heap.size w w1) := Lib.hid (hP.below B_w0.out Zr.out); have Mt_w1 : Hid (BK 23 w1 (w.heap.size) [.int .i64 m, .int .i64 u]) := Lib.hid (hP.other Mt_w0.out (Nat.ne_of_lt Lt_r.out)); clear B_w0 Mt_w0 Mr_w0 hM hP dt0 dt1)
    exact bodyPost_ret (v := .agg #[.int .i64 m, .int .i64 u]) (res_cell rfl _ _ (w.heap.size + 1) 23 _ _ rfl Mr_w1.out Try.underlying23 rfl infoC2) rfl ⟨rfl, B_w1.out⟩
  · rw [if_neg hc]
    have q : (u == 0) = false := by simp [hc]
    have q2 : wrap64 (u - 1) = u - 1 := wrap64_id _ (by omega) (by omega)
    have q3 : IntKind.i64.wrap (u - 1) = u - 1 := wrap_i64_id _ (by omega) (by omega)
    clear h hc
    go_enter Try.func15, Try.ntmps15
    go_upto_region 1 with fail
    rw [← HW0.out]
    clear HW0
    have dt0 := Mt_w0.out.cell 0 rfl
    have dt1 := Mt_w0.out.cell 1 rfl
    go_wp2_with first | (refine wpList_store_all (by rfl) 23 (.tmp 2) (.tmp 12) rfl rfl (w.heap.size + 1) rfl [.int .i64 m, .int .i64 (u - 1)] rfl 23 [.int .i64 0, .int .i64 0] Mr_w0.out infoC2 rfl (all_one rfl) ?_; intro w1 hM hP; have Mr_w1 : Hid (BK 23 w1 (w.heap.size + 1) [.int .i64 m, .int .i64 (u - 1)]) := Lib.hid hM; have B_w1 : Hid (Below w.heap.size w w1) := Lib.hid (hP.below B_w0.out Zr.out); have Mt_w1 : Hid (BK 23 w1 (w.heap.size) [.int .i64 m, .int .i64 u]) := Lib.hid (hP.other Mt_w0.out (Nat.ne_of_lt Lt_r.out)); clear B_w0 Mt_w0 Mr_w0 hM hP dt0 dt1)
    exact bodyPost_ret (v := .agg #[.int .i64 m, .int .i64 (u - 1)]) (res_cell rfl _ _ (w.heap.size + 1) 23 _ _ rfl Mr_w1.out Try.underlying23 rfl infoC2) rfl ⟨rfl, B_w1.out⟩
set_option maxRecDepth 20000 in
set_option maxHeartbeats 2000000 in
theorem rLimit_any (m u x : Int) (_h : okC (m, u) = true) (w : World) : Calls Try.prog 17 #[cv m u, .int .i64 x] w (RetC (limC x) u w) := by
  unfold limC
  obtain ⟨w0, hw0⟩ : ∃ w0, w0 = (w.alloc (.cells #[.int .i64 m, .int .i64 u] 23)).alloc (.cells #[.int .i64 0, .int .i64 0] 23) := ⟨_, rfl⟩
  obtain ⟨t1, t2, _, tb⟩ := two_laid (v1 := [.int .i64 m, .int .i64 u]) (v2 := [.int .i64 0, .int .i64 0]) hw0
  have Mt_w0 := Lib.hid t1
  have Mr_w0 := Lib.hid t2
  have B_w0 := Lib.hid tb
  have Lt_r : Hid (w.heap.size < w.heap.size + 1) := Lib.hid (Nat.lt_succ_self _)
  have Zr : Hid (w.heap.size ≤ w.heap.size + 1) := Lib.hid (Nat.le_succ _)
  have HW0 := Lib.hid hw0
  clear hw0 t1 t2 tb
  by_cases hc : x < 0
  · rw [if_pos hc]
    have q : decide (x < 0) = true := decide_eq_true hc
    clear hc
    go_enter Try.func17, Try.ntmps17
    go_upto_region 1 with fail
    rw [← HW0.out]
    clear HW0
    have dt0 := Mt_w0.out.cell 0 rfl
    have dt1 := Mt_w0.out.cell 1 rfl
    go_wp2_with first | (refine wpList_store_all (by rfl) 23 (.tmp 4) (.tmp 9) rfl rfl (w.heap.size + 1) rfl [.int .i64 0, .int .i64 u] rfl 23 [.int .i64 0, .int .i64 0] Mr_w0.out infoC2 rfl (all_one rfl) ?_; intro w1 hM hP; have Mr_w1 : Hid (BK 23 w1 (w.heap.size + 1) [.int .i64 0, .int .i64 u]) := Lib.hid hM; have B_w1 : Hid (Below w.heap.size w w1) := Lib.hid (hP.below B_w0.out Zr.out); have Mt_w1 : Hid (BK 23 w1 (w.heap.size) [.int .i64 m, .int .i64 u]) := Lib.hid (hP.other Mt_w0.out (Nat.ne_of_lt Lt_r.out)); clear B_w0 Mt_w0 Mr_w0 hM hP dt0 dt1)
    exact bodyPost_ret (v := .agg #[.int .i64 0, .int .i64 u]) (res_cell rfl _ _ (w.heap.size + 1) 23 _ _ rfl Mr_w1.out Try.underlying23 rfl infoC2) rfl ⟨rfl, B_w1.out⟩
  · rw [if_neg hc]
    have q : decide (x < 0) = false := decide_eq_false hc
    clear hc
    by_cases hd : 1099511627776 < x
    · rw [if_pos hd]
      have q2 : decide (1099511627776 < x) = true := decide_eq_true hd
      clear hd
      go_enter Try.func17, Try.ntmps17
      go_upto_region 1 with fail
      rw [← HW0.out]
      clear HW0
      have dt0 := Mt_w0.out.cell 0 rfl
      have dt1 := Mt_w0.out.cell 1 rfl
      go_wp2_with first | (refine wpList_store_all (by rfl) 23 (.tmp 4) (.tmp 14) rfl rfl (w.heap.size + 1) rfl [.int .i64 1099511627776, .int .i64 u] rfl 23 [.int .i64 0, .int .i64 0] Mr_w0.out infoC2 rfl (all_one rfl) ?_; intro w1 hM hP; have Mr_w1 : Hid (BK 23 w1 (w.heap.size + 1) [.int .i64 1099511627776, .int .i64 u]) := Lib.hid hM; have B_w1 : Hid (Below w.heap.size w w1) := Lib.hid (hP.below B_w0.out Zr.out); have Mt_w1 : Hid (BK 23 w1 (w.heap.size) [.int .i64 m, .int .i64 u]) := Lib.hid (hP.other Mt_w0.out (Nat.ne_of_lt Lt_r.out)); clear B_w0 Mt_w0 Mr_w0 hM hP dt0 dt1)
      exact bodyPost_ret (v := .agg #[.int .i64 1099511627776, .int .i64 u]) (res_cell rfl _ _ (w.heap.size + 1) 23 _ _ rfl Mr_w1.out Try.underlying23 rfl infoC2) rfl ⟨rfl, B_w1.out⟩
    · rw [if_neg hd]
      have q2 : decide (1099511627776 < x) = false := decide_eq_false hd
      clear hd
      go_enter Try.func17, Try.ntmps17
      go_upto_region 1 with fail
      rw [← HW0.out]
      clear HW0
      have dt0 := Mt_w0.out.cell 0 rfl
      have dt1 := Mt_w0.out.cell 1 rfl
      go_wp2_with first | (refine wpList_store_all (by rfl) 23 (.tmp 4) (.tmp 18) rfl rfl (w.heap.size + 1) rfl [.int .i64 x, .int .i64 u] rfl 23 [.int .i64 0, .int .i64 0] Mr_w0.out infoC2 rfl (all_one rfl) ?_; intro w1 hM hP; have Mr_w1 : Hid (BK 23 w1 (w.heap.size + 1) [.int .i64 x, .int .i64 u]) := Lib.hid hM; have B_w1 : Hid (Below w.heap.size w w1) := Lib.hid (hP.below B_w0.out Zr.out); have Mt_w1 : Hid (BK 23 w1 (w.heap.size) [.int .i64 m, .int .i64 u]) := Lib.hid (hP.other Mt_w0.out (Nat.ne_of_lt Lt_r.out)); clear B_w0 Mt_w0 Mr_w0 hM hP dt0 dt1)
      exact bodyPost_ret (v := .agg #[.int .i64 x, .int .i64 u]) (res_cell rfl _ _ (w.heap.size + 1) 23 _ _ rfl Mr_w1.out Try.underlying23 rfl infoC2) rfl ⟨rfl, B_w1.out⟩
end Go.Proofs.Ytomlideijhejfab
