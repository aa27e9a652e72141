/-
  What Refill and Take answer, of the specification. Conditions: the bucket is valid, the instants are instants.
-/
import Derived.Test.YtmcocepjdhpecaaLiA
import Derived.Test.YtmcocepjdhpecaaBlk
namespace Go.Proofs.Ytmcocepjdhpecaa
open Go.RowKit

/-- a bucket that a call answers -/
def RetL (r b v t : Int) (W : World) (e : Ending) (w' : World) : Prop := e = .returned (bk r b v t) ∧ Below W.heap.size W w'
def RetTL (r b v t : Int) (ok : Bool) (W : World) (e : Ending) (w' : World) : Prop := e = .returned (.tuple #[bk r b v t, .bool ok]) ∧ Below W.heap.size W w'
def takeL (r b v t now n : Int) : Int × Bool := if n < 0 ∨ tokL r b v t now < n then (tokL r b v t now, false) else (tokL r b v t now - n, true)

set_option maxRecDepth 20000 in
set_option maxHeartbeats 4000000 in
theorem rRefill_any (r b v t now : Int) (h : okL r b v t) (h0 : 0 ≤ now) (h1 : now ≤ 1099511627776) (w : World) :
    Calls Try.prog 17 #[bk r b v t, .int .i64 now] w (RetL r b (tokL r b v t now) (lastL t now) w) := by
  have HT := Lib.hid (fun w => rTokens_any r b v t now h h0 h1 w)
  generalize tokL r b v t now = k at HT ⊢
  obtain ⟨l, hl⟩ : ∃ l, lastL t now = l := ⟨_, rfl⟩
  rw [hl]
  obtain ⟨w0, hw0⟩ : ∃ w0, w0 = (w.alloc (.cells #[.int .i64 r, .int .i64 b, .int .i64 v, .int .i64 t] 23)).alloc (.cells #[.int .i64 0, .int .i64 0, .int .i64 0, .int .i64 0] 23) := ⟨_, rfl⟩
  obtain ⟨t1, t2, _, tb⟩ := two_laid (v1 := [.int .i64 r, .int .i64 b, .int .i64 v, .int .i64 t]) (v2 := [.int .i64 0, .int .i64 0, .int .i64 0, .int .i64 0]) hw0
  have Mt_w0 := Lib.hid t1
  have Mr_w0 := Lib.hid t2
  have B_w0 := Lib.hid tb
  have Lt_r : Hid (w.heap.size < w.heap.size + 1) := Lib.hid (Nat.lt_succ_self _)
  have Zr : Hid (w.heap.size ≤ w.heap.size + 1) := Lib.hid (Nat.le_succ _)
  have HW0 := Lib.hid hw0
  clear hw0 t1 t2 tb
  by_cases hc : t < now
  · have q : decide (t < now) = true := decide_eq_true hc
    have e : now = l := by rw [← hl]; unfold lastL; rw [if_pos hc]
    rw [← e]
    clear h h0 h1 hc e hl
    go_enter Try.func17, Try.ntmps17
    go_upto_region 1 with fail
    rw [← HW0.out]
    clear HW0
    have dt0 := Mt_w0.out.cell 0 rfl
    have dt1 := Mt_w0.out.cell 1 rfl
    have dt2 := Mt_w0.out.cell 2 rfl
    have dt3 := Mt_w0.out.cell 3 rfl
    go_upto_region 4 with fail
    clear dt0 dt1 dt2 dt3
    obtain ⟨x0v1, hx0v1⟩ : ∃ x0v1, x0v1 = World.drew w0 := ⟨_, rfl⟩
    have hbD : Below w0.heap.size w0 x0v1 := by rw [hx0v1]; exact (Below.refl _ _).drew
    have B_x0v1 : Hid (Below w.heap.size w x0v1) := Lib.hid (stepB B_w0.out hbD)
    have Mt_x0v1 : Hid (BK 23 x0v1 (w.heap.size) [.int .i64 r, .int .i64 b, .int .i64 v, .int .i64 t]) := Lib.hid (Mt_w0.out.step hbD)
    have Mr_x0v1 : Hid (BK 23 x0v1 (w.heap.size + 1) [.int .i64 0, .int .i64 0, .int .i64 0, .int .i64 0]) := Lib.hid (Mr_w0.out.step hbD)
    clear B_w0 Mt_w0 Mr_w0
    have hbd : (fun w' => BK 23 w' (w.heap.size) [.int .i64 r, .int .i64 b, .int .i64 v, .int .i64 t]) (World.drew w0) := by rw [← hx0v1]; exact Mt_x0v1.out
    have hSD : (fun w' => BK 23 w' (w.heap.size) [.int .i64 r, .int .i64 b, .int .i64 v, .int .i64 t]) x0v1 := Mt_x0v1.out
    have HWD := Lib.hid hx0v1
    clear hx0v1 hbD
    refine wp_region_held_drew (S := fun w' => BK 23 w' (w.heap.size) [.int .i64 r, .int .i64 b, .int .i64 v, .int .i64 t]) (by kernel_rfl) hbd (fun hHeld => ?_)
    rw [← HWD.out]
    clear hHeld
    have hHeld := hSD
    clear hSD hbd HWD
    refine wpAnyH_take (i := 0) (v := .pointer (some ⟨(w.heap.size), 0, none⟩)) (get_ops _ _ _ rfl) (by kernel_rfl) (by kernel_rfl) (by kernel_rfl) (fun _ _ _ h => h) (Or.inl ⟨by rfl, fun wS hSw => by (try dsimp only at hSw); go_simp⟩) hHeld ?_
    try simp only [Act.put, List.setIfInBounds_toArray, List.set_cons_zero, List.set_cons_succ]
    refine wpAnyH_take (i := 1) (v := .int .i64 r) (get_ops _ _ _ rfl) (by kernel_rfl) (by kernel_rfl) (by kernel_rfl) (fun _ _ _ h => h) (Or.inl ⟨by rfl, fun wS hSw => by (try dsimp only at hSw); have cS : wS.cell? ⟨(w.heap.size), 0, none⟩ = some (.int .i64 r) := hSw.cell 0 rfl; clear hSw; go_simp⟩) hHeld ?_
    try simp only [Act.put, List.setIfInBounds_toArray, List.set_cons_zero, List.set_cons_succ]
    refine wpAnyH_take (i := 2) (v := .pointer (some ⟨(w.heap.size), 1, none⟩)) (get_ops _ _ _ rfl) (by kernel_rfl) (by kernel_rfl) (by kernel_rfl) (fun _ _ _ h => h) (Or.inl ⟨by rfl, fun wS hSw => by (try dsimp only at hSw); go_simp⟩) hHeld ?_
    try simp only [Act.put, List.setIfInBounds_toArray, List.set_cons_zero, List.set_cons_succ]
    refine wpAnyH_take (i := 3) (v := .int .i64 b) (get_ops _ _ _ rfl) (by kernel_rfl) (by kernel_rfl) (by kernel_rfl) (fun _ _ _ h => h) (Or.inl ⟨by rfl, fun wS hSw => by (try dsimp only at hSw); have cS : wS.cell? ⟨(w.heap.size), 1, none⟩ = some (.int .i64 b) := hSw.cell 1 rfl; clear hSw; go_simp⟩) hHeld ?_
    try simp only [Act.put, List.setIfInBounds_toArray, List.set_cons_zero, List.set_cons_succ]
    refine wpAnyH_take (i := 4) (v := .agg [.int .i64 r, .int .i64 b, .int .i64 v, .int .i64 t].toArray) (get_ops _ _ _ rfl) (by kernel_rfl) (by kernel_rfl) (by kernel_rfl) (fun _ _ _ h => h) (Or.inl ⟨by rfl, fun wS hSw => by (try dsimp only at hSw); exact exec_load 23 _ rfl ⟨(w.heap.size), 0, none⟩ (by go_simp) _ (run_load_all hSw Try.underlying23 rfl infoB4)⟩) hHeld ?_
    try simp only [Act.put, List.setIfInBounds_toArray, List.set_cons_zero, List.set_cons_succ]
    refine wpAnyH_take (i := 5) (v := .int .i64 now) (get_ops _ _ _ rfl) (by kernel_rfl) (by kernel_rfl) (by kernel_rfl) (fun _ _ _ h => h) (Or.inl ⟨by rfl, fun wS hSw => by (try dsimp only at hSw); go_simp⟩) hHeld ?_
    try simp only [Act.put, List.setIfInBounds_toArray, List.set_cons_zero, List.set_cons_succ]
    refine wpAnyH_take (i := 7) (v := .int .i64 now) (get_ops _ _ _ rfl) (by kernel_rfl) (by kernel_rfl) (by kernel_rfl) (fun _ _ _ h => h) (Or.inl ⟨by rfl, fun wS hSw => by (try dsimp only at hSw); go_simp⟩) hHeld ?_
    try simp only [Act.put, List.setIfInBounds_toArray, List.set_cons_zero, List.set_cons_succ]
    refine wpAnyH_ready (rs := [6]) (by kernel_rfl) (by simp) ?_
    refine (AllReadyH.cons (get_ops _ _ _ rfl) (fun K hK => ?_) AllReadyH.nil)
    go_simp
    go_at_call 21
    refine (HT.out x0v1).mono ?_
    rintro e x0v2 ⟨rfl, hb⟩
    have B_x0v2 : Hid (Below w.heap.size w x0v2) := Lib.hid (stepB B_x0v1.out hb)
    have Mt_x0v2 : Hid (BK 23 x0v2 (w.heap.size) [.int .i64 r, .int .i64 b, .int .i64 v, .int .i64 t]) := Lib.hid (Mt_x0v1.out.step hb)
    have Mr_x0v2 : Hid (BK 23 x0v2 (w.heap.size + 1) [.int .i64 0, .int .i64 0, .int .i64 0, .int .i64 0]) := Lib.hid (Mr_x0v1.out.step hb)
    clear B_x0v1 Mt_x0v1 Mr_x0v1
    clear hHeld hb
    go_wp2_with fail
    refine hK.out _ _ Mt_x0v2.out (fun hHeld => ?_)
    clear hK K
    try simp only [Act.put, List.setIfInBounds_toArray, List.set_cons_zero, List.set_cons_succ]
    refine wpAnyH_take (i := 8) (v := .agg #[.int .i64 r, .int .i64 b, .int .i64 k, .int .i64 now]) (get_ops _ _ _ rfl) (by kernel_rfl) (by kernel_rfl) (by kernel_rfl) (fun _ _ _ h => h) (Or.inl ⟨by rfl, fun wS hSw => by (try dsimp only at hSw); go_simp⟩) hHeld ?_
    try simp only [Act.put, List.setIfInBounds_toArray, List.set_cons_zero, List.set_cons_succ]
    refine wpAnyH_ready (rs := [9]) (by kernel_rfl) (by simp) ?_
    refine (AllReadyH.cons (get_ops _ _ _ rfl) (fun K hK => ?_) AllReadyH.nil)
    refine wp_store_all 23 _ _ rfl rfl (w.heap.size + 1) (by go_simp) [.int .i64 r, .int .i64 b, .int .i64 k, .int .i64 now] (by go_simp) 23 [.int .i64 0, .int .i64 0, .int .i64 0, .int .i64 0] Mr_x0v2.out infoB4 rfl (all_one rfl) ?_
    intro x0v3 hM hP
    have Mr_x0v3 : Hid (BK 23 x0v3 (w.heap.size + 1) [.int .i64 r, .int .i64 b, .int .i64 k, .int .i64 now]) := Lib.hid hM
    have B_x0v3 : Hid (Below w.heap.size w x0v3) := Lib.hid (hP.below B_x0v2.out Zr.out)
    have Mt_x0v3 : Hid (BK 23 x0v3 (w.heap.size) [.int .i64 r, .int .i64 b, .int .i64 v, .int .i64 t]) := Lib.hid (hP.other Mt_x0v2.out (Nat.ne_of_lt Lt_r.out))
    clear B_x0v2 Mt_x0v2 Mr_x0v2 hM hP
    clear hHeld
    refine hK.out _ _ Mt_x0v3.out (fun hHeld => ?_)
    clear hK K
    try simp only [Act.put, List.setIfInBounds_toArray, List.set_cons_zero, List.set_cons_succ]
    refine wpAnyH_done (by kernel_rfl) ?_ _
    go_wp2_with fail
    exact bodyPost_ret (v := bk r b k now) (res_cell rfl _ _ (w.heap.size + 1) 23 _ _ rfl Mr_x0v3.out Try.underlying23 rfl infoB4) rfl ⟨rfl, B_x0v3.out⟩
  · have q : decide (t < now) = false := decide_eq_false hc
    have e : t = l := by rw [← hl]; unfold lastL; rw [if_neg hc]
    rw [← e]
    clear h h0 h1 hc e hl
    go_enter Try.func17, Try.ntmps17
    go_upto_region 1 with fail
    rw [← HW0.out]
    clear HW0
    have dt0 := Mt_w0.out.cell 0 rfl
    have dt1 := Mt_w0.out.cell 1 rfl
    have dt2 := Mt_w0.out.cell 2 rfl
    have dt3 := Mt_w0.out.cell 3 rfl
    go_upto_region 4 with fail
    clear dt0 dt1 dt2 dt3
    obtain ⟨x0v1, hx0v1⟩ : ∃ x0v1, x0v1 = World.drew w0 := ⟨_, rfl⟩
    have hbD : Below w0.heap.size w0 x0v1 := by rw [hx0v1]; exact (Below.refl _ _).drew
    have B_x0v1 : Hid (Below w.heap.size w x0v1) := Lib.hid (stepB B_w0.out hbD)
    have Mt_x0v1 : Hid (BK 23 x0v1 (w.heap.size) [.int .i64 r, .int .i64 b, .int .i64 v, .int .i64 t]) := Lib.hid (Mt_w0.out.step hbD)
    have Mr_x0v1 : Hid (BK 23 x0v1 (w.heap.size + 1) [.int .i64 0, .int .i64 0, .int .i64 0, .int .i64 0]) := Lib.hid (Mr_w0.out.step hbD)
    clear B_w0 Mt_w0 Mr_w0
    have hbd : (fun w' => BK 23 w' (w.heap.size) [.int .i64 r, .int .i64 b, .int .i64 v, .int .i64 t]) (World.drew w0) := by rw [← hx0v1]; exact Mt_x0v1.out
    have hSD : (fun w' => BK 23 w' (w.heap.size) [.int .i64 r, .int .i64 b, .int .i64 v, .int .i64 t]) x0v1 := Mt_x0v1.out
    have HWD := Lib.hid hx0v1
    clear hx0v1 hbD
    refine wp_region_held_drew (S := fun w' => BK 23 w' (w.heap.size) [.int .i64 r, .int .i64 b, .int .i64 v, .int .i64 t]) (by kernel_rfl) hbd (fun hHeld => ?_)
    rw [← HWD.out]
    clear hHeld
    have hHeld := hSD
    clear hSD hbd HWD
    refine wpAnyH_take (i := 0) (v := .pointer (some ⟨(w.heap.size), 0, none⟩)) (get_ops _ _ _ rfl) (by kernel_rfl) (by kernel_rfl) (by kernel_rfl) (fun _ _ _ h => h) (Or.inl ⟨by rfl, fun wS hSw => by (try dsimp only at hSw); go_simp⟩) hHeld ?_
    try simp only [Act.put, List.setIfInBounds_toArray, List.set_cons_zero, List.set_cons_succ]
    refine wpAnyH_take (i := 1) (v := .int .i64 r) (get_ops _ _ _ rfl) (by kernel_rfl) (by kernel_rfl) (by kernel_rfl) (fun _ _ _ h => h) (Or.inl ⟨by rfl, fun wS hSw => by (try dsimp only at hSw); have cS : wS.cell? ⟨(w.heap.size), 0, none⟩ = some (.int .i64 r) := hSw.cell 0 rfl; clear hSw; go_simp⟩) hHeld ?_
    try simp only [Act.put, List.setIfInBounds_toArray, List.set_cons_zero, List.set_cons_succ]
    refine wpAnyH_take (i := 2) (v := .pointer (some ⟨(w.heap.size), 1, none⟩)) (get_ops _ _ _ rfl) (by kernel_rfl) (by kernel_rfl) (by kernel_rfl) (fun _ _ _ h => h) (Or.inl ⟨by rfl, fun wS hSw => by (try dsimp only at hSw); go_simp⟩) hHeld ?_
    try simp only [Act.put, List.setIfInBounds_toArray, List.set_cons_zero, List.set_cons_succ]
    refine wpAnyH_take (i := 3) (v := .int .i64 b) (get_ops _ _ _ rfl) (by kernel_rfl) (by kernel_rfl) (by kernel_rfl) (fun _ _ _ h => h) (Or.inl ⟨by rfl, fun wS hSw => by (try dsimp only at hSw); have cS : wS.cell? ⟨(w.heap.size), 1, none⟩ = some (.int .i64 b) := hSw.cell 1 rfl; clear hSw; go_simp⟩) hHeld ?_
    try simp only [Act.put, List.setIfInBounds_toArray, List.set_cons_zero, List.set_cons_succ]
    refine wpAnyH_take (i := 4) (v := .agg [.int .i64 r, .int .i64 b, .int .i64 v, .int .i64 t].toArray) (get_ops _ _ _ rfl) (by kernel_rfl) (by kernel_rfl) (by kernel_rfl) (fun _ _ _ h => h) (Or.inl ⟨by rfl, fun wS hSw => by (try dsimp only at hSw); exact exec_load 23 _ rfl ⟨(w.heap.size), 0, none⟩ (by go_simp) _ (run_load_all hSw Try.underlying23 rfl infoB4)⟩) hHeld ?_
    try simp only [Act.put, List.setIfInBounds_toArray, List.set_cons_zero, List.set_cons_succ]
    refine wpAnyH_take (i := 5) (v := .int .i64 now) (get_ops _ _ _ rfl) (by kernel_rfl) (by kernel_rfl) (by kernel_rfl) (fun _ _ _ h => h) (Or.inl ⟨by rfl, fun wS hSw => by (try dsimp only at hSw); go_simp⟩) hHeld ?_
    try simp only [Act.put, List.setIfInBounds_toArray, List.set_cons_zero, List.set_cons_succ]
    refine wpAnyH_take (i := 7) (v := .int .i64 t) (get_ops _ _ _ rfl) (by kernel_rfl) (by kernel_rfl) (by kernel_rfl) (fun _ _ _ h => h) (Or.inl ⟨by rfl, fun wS hSw => by (try dsimp only at hSw); go_simp⟩) hHeld ?_
    try simp only [Act.put, List.setIfInBounds_toArray, List.set_cons_zero, List.set_cons_succ]
    refine wpAnyH_ready (rs := [6]) (by kernel_rfl) (by simp) ?_
    refine (AllReadyH.cons (get_ops _ _ _ rfl) (fun K hK => ?_) AllReadyH.nil)
    go_simp
    go_at_call 21
    refine (HT.out x0v1).mono ?_
    rintro e x0v2 ⟨rfl, hb⟩
    have B_x0v2 : Hid (Below w.heap.size w x0v2) := Lib.hid (stepB B_x0v1.out hb)
    have Mt_x0v2 : Hid (BK 23 x0v2 (w.heap.size) [.int .i64 r, .int .i64 b, .int .i64 v, .int .i64 t]) := Lib.hid (Mt_x0v1.out.step hb)
    have Mr_x0v2 : Hid (BK 23 x0v2 (w.heap.size + 1) [.int .i64 0, .int .i64 0, .int .i64 0, .int .i64 0]) := Lib.hid (Mr_x0v1.out.step hb)
    clear B_x0v1 Mt_x0v1 Mr_x0v1
    clear hHeld hb
    go_wp2_with fail
    refine hK.out _ _ Mt_x0v2.out (fun hHeld => ?_)
    clear hK K
    try simp only [Act.put, List.setIfInBounds_toArray, List.set_cons_zero, List.set_cons_succ]
    refine wpAnyH_take (i := 8) (v := .agg #[.int .i64 r, .int .i64 b, .int .i64 k, .int .i64 t]) (get_ops _ _ _ rfl) (by kernel_rfl) (by kernel_rfl) (by kernel_rfl) (fun _ _ _ h => h) (Or.inl ⟨by rfl, fun wS hSw => by (try dsimp only at hSw); go_simp⟩) hHeld ?_
    try simp only [Act.put, List.setIfInBounds_toArray, List.set_cons_zero, List.set_cons_succ]
    refine wpAnyH_ready (rs := [9]) (by kernel_rfl) (by simp) ?_
    refine (AllReadyH.cons (get_ops _ _ _ rfl) (fun K hK => ?_) AllReadyH.nil)
    refine wp_store_all 23 _ _ rfl rfl (w.heap.size + 1) (by go_simp) [.int .i64 r, .int .i64 b, .int .i64 k, .int .i64 t] (by go_simp) 23 [.int .i64 0, .int .i64 0, .int .i64 0, .int .i64 0] Mr_x0v2.out infoB4 rfl (all_one rfl) ?_
    intro x0v3 hM hP
    have Mr_x0v3 : Hid (BK 23 x0v3 (w.heap.size + 1) [.int .i64 r, .int .i64 b, .int .i64 k, .int .i64 t]) := Lib.hid hM
    have B_x0v3 : Hid (Below w.heap.size w x0v3) := Lib.hid (hP.below B_x0v2.out Zr.out)
    have Mt_x0v3 : Hid (BK 23 x0v3 (w.heap.size) [.int .i64 r, .int .i64 b, .int .i64 v, .int .i64 t]) := Lib.hid (hP.other Mt_x0v2.out (Nat.ne_of_lt Lt_r.out))
    clear B_x0v2 Mt_x0v2 Mr_x0v2 hM hP
    clear hHeld
    refine hK.out _ _ Mt_x0v3.out (fun hHeld => ?_)
    clear hK K
    try simp only [Act.put, List.setIfInBounds_toArray, List.set_cons_zero, List.set_cons_succ]
    refine wpAnyH_done (by kernel_rfl) ?_ _
    go_wp2_with fail
    exact bodyPost_ret (v := bk r b k t) (res_cell rfl _ _ (w.heap.size + 1) 23 _ _ rfl Mr_x0v3.out Try.underlying23 rfl infoB4) rfl ⟨rfl, B_x0v3.out⟩
set_option maxRecDepth 20000 in
set_option maxHeartbeats 4000000 in
theorem rTake_any (r b v t now n : Int) (h : okL r b v t) (h0 : 0 ≤ now) (h1 : now ≤ 1099511627776) (w : World) :
    Calls Try.prog 14 #[bk r b v t, .int .i64 now, .int .i64 n] w (RetTL r b (takeL r b v t now n).1 (lastL t now) (takeL r b v t now n).2 w) := by
  have HT := Lib.hid (fun w => rRefill_any r b v t now h h0 h1 w)
  have hk := tok_range (now := now) h
  have hbb := h.2.2.2.1
  have hvv := h.2.2.2.2.1
  unfold takeL
  generalize tokL r b v t now = k at HT hk ⊢
  generalize lastL t now = l at HT ⊢
  obtain ⟨w0, hw0⟩ : ∃ w0, w0 = (w.alloc (.cells #[.int .i64 r, .int .i64 b, .int .i64 v, .int .i64 t] 23)).alloc (.cells #[.int .i64 0, .int .i64 0, .int .i64 0, .int .i64 0] 23) := ⟨_, rfl⟩
  obtain ⟨t1, t2, _, tb⟩ := two_laid (v1 := [.int .i64 r, .int .i64 b, .int .i64 v, .int .i64 t]) (v2 := [.int .i64 0, .int .i64 0, .int .i64 0, .int .i64 0]) hw0
  have Mt_w0 := Lib.hid t1
  have Mr_w0 := Lib.hid t2
  have B_w0 := Lib.hid tb
  have Lt_r : Hid (w.heap.size < w.heap.size + 1) := Lib.hid (Nat.lt_succ_self _)
  have Zr : Hid (w.heap.size ≤ w.heap.size + 1) := Lib.hid (Nat.le_succ _)
  have HW0 := Lib.hid hw0
  clear hw0 t1 t2 tb
  by_cases hc : n < 0 ∨ k < n
  · rw [if_pos hc]
    by_cases hn : n < 0
    · have q1 : decide (n < 0) = true := decide_eq_true hn
      clear hc hn hk
      clear h h0 h1
      go_enter Try.func14, Try.ntmps14
      go_upto_region 1 with fail
      rw [← HW0.out]
      clear HW0
      have dt0 := Mt_w0.out.cell 0 rfl
      have dt1 := Mt_w0.out.cell 1 rfl
      have dt2 := Mt_w0.out.cell 2 rfl
      have dt3 := Mt_w0.out.cell 3 rfl
      go_wp2_with fail
      refine (HT.out w0).mono ?_
      rintro e w1 ⟨rfl, hb⟩
      have B_w1 : Hid (Below w.heap.size w w1) := Lib.hid (stepB B_w0.out hb)
      have Mt_w1 : Hid (BK 23 w1 (w.heap.size) [.int .i64 r, .int .i64 b, .int .i64 v, .int .i64 t]) := Lib.hid (Mt_w0.out.step hb)
      have Mr_w1 : Hid (BK 23 w1 (w.heap.size + 1) [.int .i64 0, .int .i64 0, .int .i64 0, .int .i64 0]) := Lib.hid (Mr_w0.out.step hb)
      clear dt0 dt1 dt2 dt3
      clear B_w0 Mt_w0 Mr_w0
      clear hb
      go_wp2_with first | (refine wpList_store_all (by rfl) 23 (.tmp 8) (.tmp 11) rfl rfl (w1.heap.size) rfl [.int .i64 r, .int .i64 b, .int .i64 k, .int .i64 l] rfl 23 [.int .i64 0, .int .i64 0, .int .i64 0, .int .i64 0] (BK.new w1 _ _) infoB4 rfl (all_one rfl) ?_; intro w2 hM hP; have Mx_w2 : Hid (BK 23 w2 (w1.heap.size) [.int .i64 r, .int .i64 b, .int .i64 k, .int .i64 l]) := Lib.hid hM; have Lt_x : Hid (w.heap.size < w1.heap.size) := Lib.hid Mt_w1.out.lt; have Lr_x : Hid (w.heap.size + 1 < w1.heap.size) := Lib.hid Mr_w1.out.lt; have Zx : Hid (w.heap.size ≤ w1.heap.size) := Lib.hid B_w1.out.size; have B_w2 : Hid (Below w.heap.size w w2) := Lib.hid (hP.below (stepB B_w1.out (below_new w1 _)) B_w1.out.size); have Mt_w2 : Hid (BK 23 w2 (w.heap.size) [.int .i64 r, .int .i64 b, .int .i64 v, .int .i64 t]) := Lib.hid (hP.other (BK.alloc Mt_w1.out _) (Nat.ne_of_lt Mt_w1.out.lt)); have Mr_w2 : Hid (BK 23 w2 (w.heap.size + 1) [.int .i64 0, .int .i64 0, .int .i64 0, .int .i64 0]) := Lib.hid (hP.other (BK.alloc Mr_w1.out _) (Nat.ne_of_lt Mr_w1.out.lt)); clear B_w1 Mt_w1 Mr_w1 hM hP; have dx0 := Mx_w2.out.cell 0 rfl; have dx1 := Mx_w2.out.cell 1 rfl; have dx2 := Mx_w2.out.cell 2 rfl; have dx3 := Mx_w2.out.cell 3 rfl) | (refine wpList_store_all (by rfl) 23 (.tmp 6) (.tmp 20) rfl rfl (w.heap.size + 1) rfl [.int .i64 r, .int .i64 b, .int .i64 k, .int .i64 l] rfl 23 [.int .i64 0, .int .i64 0, .int .i64 0, .int .i64 0] Mr_w2.out infoB4 rfl (all_one rfl) ?_; intro w3 hM hP; have Mr_w3 : Hid (BK 23 w3 (w.heap.size + 1) [.int .i64 r, .int .i64 b, .int .i64 k, .int .i64 l]) := Lib.hid hM; have B_w3 : Hid (Below w.heap.size w w3) := Lib.hid (hP.below B_w2.out Zr.out); have Mt_w3 : Hid (BK 23 w3 (w.heap.size) [.int .i64 r, .int .i64 b, .int .i64 v, .int .i64 t]) := Lib.hid (hP.other Mt_w2.out (Nat.ne_of_lt Lt_r.out)); have Mx_w3 : Hid (BK 23 w3 (w1.heap.size) [.int .i64 r, .int .i64 b, .int .i64 k, .int .i64 l]) := Lib.hid (hP.other Mx_w2.out (Nat.ne_of_gt Lr_x.out)); clear B_w2 Mt_w2 Mr_w2 Mx_w2 hM hP dx0 dx1 dx2 dx3)
      exact bodyPost_ret (v := .tuple #[bk r b k l, .bool false]) (res_cell_tmp rfl _ _ (w.heap.size + 1) 23 _ _ _ rfl rfl Mr_w3.out Try.underlying23 rfl infoB4) rfl ⟨rfl, B_w3.out⟩
    · have q1 : decide (n < 0) = false := decide_eq_false hn
      have q2 : decide (k < n) = true := decide_eq_true (by omega)
      clear hc hn hk
      clear h h0 h1
      go_enter Try.func14, Try.ntmps14
      go_upto_region 1 with fail
      rw [← HW0.out]
      clear HW0
      have dt0 := Mt_w0.out.cell 0 rfl
      have dt1 := Mt_w0.out.cell 1 rfl
      have dt2 := Mt_w0.out.cell 2 rfl
      have dt3 := Mt_w0.out.cell 3 rfl
      go_wp2_with fail
      refine (HT.out w0).mono ?_
      rintro e w1 ⟨rfl, hb⟩
      have B_w1 : Hid (Below w.heap.size w w1) := Lib.hid (stepB B_w0.out hb)
      have Mt_w1 : Hid (BK 23 w1 (w.heap.size) [.int .i64 r, .int .i64 b, .int .i64 v, .int .i64 t]) := Lib.hid (Mt_w0.out.step hb)
      have Mr_w1 : Hid (BK 23 w1 (w.heap.size + 1) [.int .i64 0, .int .i64 0, .int .i64 0, .int .i64 0]) := Lib.hid (Mr_w0.out.step hb)
      clear dt0 dt1 dt2 dt3
      clear B_w0 Mt_w0 Mr_w0
      clear hb
      go_wp2_with first | (refine wpList_store_all (by rfl) 23 (.tmp 8) (.tmp 11) rfl rfl (w1.heap.size) rfl [.int .i64 r, .int .i64 b, .int .i64 k, .int .i64 l] rfl 23 [.int .i64 0, .int .i64 0, .int .i64 0, .int .i64 0] (BK.new w1 _ _) infoB4 rfl (all_one rfl) ?_; intro w2 hM hP; have Mx_w2 : Hid (BK 23 w2 (w1.heap.size) [.int .i64 r, .int .i64 b, .int .i64 k, .int .i64 l]) := Lib.hid hM; have Lt_x : Hid (w.heap.size < w1.heap.size) := Lib.hid Mt_w1.out.lt; have Lr_x : Hid (w.heap.size + 1 < w1.heap.size) := Lib.hid Mr_w1.out.lt; have Zx : Hid (w.heap.size ≤ w1.heap.size) := Lib.hid B_w1.out.size; have B_w2 : Hid (Below w.heap.size w w2) := Lib.hid (hP.below (stepB B_w1.out (below_new w1 _)) B_w1.out.size); have Mt_w2 : Hid (BK 23 w2 (w.heap.size) [.int .i64 r, .int .i64 b, .int .i64 v, .int .i64 t]) := Lib.hid (hP.other (BK.alloc Mt_w1.out _) (Nat.ne_of_lt Mt_w1.out.lt)); have Mr_w2 : Hid (BK 23 w2 (w.heap.size + 1) [.int .i64 0, .int .i64 0, .int .i64 0, .int .i64 0]) := Lib.hid (hP.other (BK.alloc Mr_w1.out _) (Nat.ne_of_lt Mr_w1.out.lt)); clear B_w1 Mt_w1 Mr_w1 hM hP; have dx0 := Mx_w2.out.cell 0 rfl; have dx1 := Mx_w2.out.cell 1 rfl; have dx2 := Mx_w2.out.cell 2 rfl; have dx3 := Mx_w2.out.cell 3 rfl) | (refine wpList_store_all (by rfl) 23 (.tmp 6) (.tmp 20) rfl rfl (w.heap.size + 1) rfl [.int .i64 r, .int .i64 b, .int .i64 k, .int .i64 l] rfl 23 [.int .i64 0, .int .i64 0, .int .i64 0, .int .i64 0] Mr_w2.out infoB4 rfl (all_one rfl) ?_; intro w3 hM hP; have Mr_w3 : Hid (BK 23 w3 (w.heap.size + 1) [.int .i64 r, .int .i64 b, .int .i64 k, .int .i64 l]) := Lib.hid hM; have B_w3 : Hid (Below w.heap.size w w3) := Lib.hid (hP.below B_w2.out Zr.out); have Mt_w3 : Hid (BK 23 w3 (w.heap.size) [.int .i64 r, .int .i64 b, .int .i64 v, .int .i64 t]) := Lib.hid (hP.other Mt_w2.out (Nat.ne_of_lt Lt_r.out)); have Mx_w3 : Hid (BK 23 w3 (w1.heap.size) [.int .i64 r, .int .i64 b, .int .i64 k, .int .i64 l]) := Lib.hid (hP.other Mx_w2.out (Nat.ne_of_gt Lr_x.out)); clear B_w2 Mt_w2 Mr_w2 Mx_w2 hM hP dx0 dx1 dx2 dx3)
      exact bodyPost_ret (v := .tuple #[bk r b k l, .bool false]) (res_cell_tmp rfl _ _ (w.heap.size + 1) 23 _ _ _ rfl rfl Mr_w3.out Try.underlying23 rfl infoB4) rfl ⟨rfl, B_w3.out⟩
  · rw [if_neg hc]
    have q1 : decide (n < 0) = false := decide_eq_false (by omega)
    have q2 : decide (k < n) = false := decide_eq_false (by omega)
    have q3 : wrap64 (k - n) = k - n := wrap64_id _ (by omega) (by omega)
    have q4 : IntKind.i64.wrap (k - n) = k - n := wrap_i64_id _ (by omega) (by omega)
    clear hc hk
    clear h h0 h1
    go_enter Try.func14, Try.ntmps14
    go_upto_region 1 with fail
    rw [← HW0.out]
    clear HW0
    have dt0 := Mt_w0.out.cell 0 rfl
    have dt1 := Mt_w0.out.cell 1 rfl
    have dt2 := Mt_w0.out.cell 2 rfl
    have dt3 := Mt_w0.out.cell 3 rfl
    go_wp2_with fail
    refine (HT.out w0).mono ?_
    rintro e w1 ⟨rfl, hb⟩
    have B_w1 : Hid (Below w.heap.size w w1) := Lib.hid (stepB B_w0.out hb)
    have Mt_w1 : Hid (BK 23 w1 (w.heap.size) [.int .i64 r, .int .i64 b, .int .i64 v, .int .i64 t]) := Lib.hid (Mt_w0.out.step hb)
    have Mr_w1 : Hid (BK 23 w1 (w.heap.size + 1) [.int .i64 0, .int .i64 0, .int .i64 0, .int .i64 0]) := Lib.hid (Mr_w0.out.step hb)
    clear dt0 dt1 dt2 dt3
    clear B_w0 Mt_w0 Mr_w0
    clear hb
    go_upto_region 5 with first | (refine wpList_store_all (by rfl) 23 (.tmp 8) (.tmp 11) rfl rfl (w1.heap.size) rfl [.int .i64 r, .int .i64 b, .int .i64 k, .int .i64 l] rfl 23 [.int .i64 0, .int .i64 0, .int .i64 0, .int .i64 0] (BK.new w1 _ _) infoB4 rfl (all_one rfl) ?_; intro w2 hM hP; have Mx_w2 : Hid (BK 23 w2 (w1.heap.size) [.int .i64 r, .int .i64 b, .int .i64 k, .int .i64 l]) := Lib.hid hM; have Lt_x : Hid (w.heap.size < w1.heap.size) := Lib.hid Mt_w1.out.lt; have Lr_x : Hid (w.heap.size + 1 < w1.heap.size) := Lib.hid Mr_w1.out.lt; have Zx : Hid (w.heap.size ≤ w1.heap.size) := Lib.hid B_w1.out.size; have B_w2 : Hid (Below w.heap.size w w2) := Lib.hid (hP.below (stepB B_w1.out (below_new w1 _)) B_w1.out.size); have Mt_w2 : Hid (BK 23 w2 (w.heap.size) [.int .i64 r, .int .i64 b, .int .i64 v, .int .i64 t]) := Lib.hid (hP.other (BK.alloc Mt_w1.out _) (Nat.ne_of_lt Mt_w1.out.lt)); have Mr_w2 : Hid (BK 23 w2 (w.heap.size + 1) [.int .i64 0, .int .i64 0, .int .i64 0, .int .i64 0]) := Lib.hid (hP.other (BK.alloc Mr_w1.out _) (Nat.ne_of_lt Mr_w1.out.lt)); clear B_w1 Mt_w1 Mr_w1 hM hP; have dx0 := Mx_w2.out.cell 0 rfl; have dx1 := Mx_w2.out.cell 1 rfl; have dx2 := Mx_w2.out.cell 2 rfl; have dx3 := Mx_w2.out.cell 3 rfl; have fx2 := Mx_w2.out.free 2)
    obtain ⟨w3, hw3⟩ : ∃ w3, w3 = w2.setCell ⟨w1.heap.size, 2, none⟩ (.int .i64 (k - n)) := ⟨_, rfl⟩
    rw [← hw3]
    have M1 : BK 23 w3 (w1.heap.size) [.int .i64 r, .int .i64 b, .int .i64 (k - n), .int .i64 l] := by rw [hw3]; exact Mx_w2.out.set 2 _
    have M2 : BK 23 w3 (w.heap.size + 1) [.int .i64 0, .int .i64 0, .int .i64 0, .int .i64 0] := by rw [hw3]; exact Mr_w2.out.other (Nat.ne_of_lt Lr_x.out) _
    have M3 : Below w.heap.size w w3 := by rw [hw3]; exact B_w2.out.setCell (p := ⟨w1.heap.size, 2, none⟩) Zx.out _
    clear dx0 dx1 dx2 dx3 fx2
    clear Mx_w2 Mr_w2 B_w2 Mt_w2 hw3
    have Mx_w3 := Lib.hid M1
    have Mr_w3 := Lib.hid M2
    have B_w3 := Lib.hid M3
    clear M1 M2 M3
    have dx0 := Mx_w3.out.cell 0 rfl
    have dx1 := Mx_w3.out.cell 1 rfl
    have dx2 := Mx_w3.out.cell 2 rfl
    have dx3 := Mx_w3.out.cell 3 rfl
    go_wp2_with first | (refine wpList_store_all (by rfl) 23 (.tmp 6) (.tmp 26) rfl rfl (w.heap.size + 1) rfl [.int .i64 r, .int .i64 b, .int .i64 (k - n), .int .i64 l] rfl 23 [.int .i64 0, .int .i64 0, .int .i64 0, .int .i64 0] Mr_w3.out infoB4 rfl (all_one rfl) ?_; intro w4 hM hP; have Mr_w4 : Hid (BK 23 w4 (w.heap.size + 1) [.int .i64 r, .int .i64 b, .int .i64 (k - n), .int .i64 l]) := Lib.hid hM; have B_w4 : Hid (Below w.heap.size w w4) := Lib.hid (hP.below B_w3.out Zr.out); have Mx_w4 : Hid (BK 23 w4 (w1.heap.size) [.int .i64 r, .int .i64 b, .int .i64 (k - n), .int .i64 l]) := Lib.hid (hP.other Mx_w3.out (Nat.ne_of_gt Lr_x.out)); clear B_w3 Mr_w3 Mx_w3 hM hP dx0 dx1 dx2 dx3)
    exact bodyPost_ret (v := .tuple #[bk r b (k - n) l, .bool true]) (res_cell_tmp rfl _ _ (w.heap.size + 1) 23 _ _ _ rfl rfl Mr_w4.out Try.underlying23 rfl infoB4) rfl ⟨rfl, B_w4.out⟩
end Go.Proofs.Ytmcocepjdhpecaa
