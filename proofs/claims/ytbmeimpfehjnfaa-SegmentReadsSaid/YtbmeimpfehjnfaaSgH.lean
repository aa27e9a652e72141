/-
  SegmentChecks, SegmentAppends, SegmentReads and SegmentRecovers answer true, walked. Conditions: the bytes read as data; the numbers fit an int.
-/
import Derived.Test.YtbmeimpfehjnfaaSgF
import Derived.Test.YtbmeimpfehjnfaaSgG
namespace Go.Proofs.Ytbmeimpfehjnfaa
open Go.RowKit
open S2 (BK Put get_ops exec_load)

set_option maxRecDepth 20000 in
set_option maxHeartbeats 8000000 in
theorem segmentChecks_walk (b n : Int) (A : Option Addr) (c : Nat) (l : List UInt8) (w : World) (hsl : CL bv w w.heap.size A l) (hc : l.length ≤ c)  :
    Calls Try.prog 3 #[sgV b n A l.length c] w fun e w' => e = .returned (.bool true) ∧ Below w.heap.size w w' := by
  have HSL := Lib.hid hsl
  by_cases h4 : 4000 < l.length
  · have h4' : (4000 : Int) < (l.length : Int) := by omega
    clear hsl
    unfold sgV
    go_enter Try.func3, Try.ntmps3
    go_upto_region 1 with fail
    refine name_world (C := fun w1 => Code.wp _ _ _ _ w1) (w.alloc (.cells (sgC b n A l.length c).toArray 24)) ?_
    intro w1 hw1
    have hb1 : Below w.heap.size w w1 := by rw [hw1]; exact S2.below_new w _
    have E_w1 : Hid (BK 24 w1 w.heap.size (sgC b n A l.length c)) := Lib.hid (by rw [hw1]; exact BK.new w _ _)
    have B_w1 := Lib.hid hb1
    have S_w1 := Lib.hid (HSL.out.step hb1)
    clear hw1 hb1 HSL
    have k2 := E_w1.out.cell 2 rfl
    go_wp2_with fail
    refine (awake32_any w1).mono ?_
    rintro e y1 ⟨rfl, hb⟩
    clear k2
    have E_y1 : Hid (BK 24 y1 w.heap.size (sgC b n A l.length c)) := Lib.hid (E_w1.out.step hb)
    have B_y1 : Hid (Below w.heap.size w y1) := Lib.hid ((stepB B_w1.out hb))
    have S_y1 : Hid (CL bv y1 y1.heap.size A l) := Lib.hid (S_w1.out.step hb)
    clear E_w1 B_w1 S_w1
    clear hb
    go_wp2_with fail
    go_ret
    exact ⟨rfl, B_y1.out⟩
  have h4' : ¬ ((4000 : Int) < (l.length : Int)) := by omega
  have HC := Lib.hid (fun w h => sCheck_any b n A c l w h hc (by omega))
  have HR := Lib.hid (fun w h => rSgCheck_any b n A c l w h hc (by omega))
  generalize sgCk b n l = ck at *
  clear hsl
  unfold sgV
  go_enter Try.func3, Try.ntmps3
  go_upto_region 1 with fail
  refine name_world (C := fun w1 => Code.wp _ _ _ _ w1) (w.alloc (.cells (sgC b n A l.length c).toArray 24)) ?_
  intro w1 hw1
  have hb1 : Below w.heap.size w w1 := by rw [hw1]; exact S2.below_new w _
  have E_w1 : Hid (BK 24 w1 w.heap.size (sgC b n A l.length c)) := Lib.hid (by rw [hw1]; exact BK.new w _ _)
  have B_w1 := Lib.hid hb1
  have S_w1 := Lib.hid (HSL.out.step hb1)
  clear hw1 hb1 HSL
  have k2 := E_w1.out.cell 2 rfl
  go_upto_region 3 with fail
  clear k2
  obtain ⟨y1, hy1⟩ : ∃ y1, y1 = World.drew w1 := ⟨_, rfl⟩
  have hbD : Below w1.heap.size w1 y1 := by rw [hy1]; exact (Below.refl _ _).drew
  have E_y1 : Hid (BK 24 y1 w.heap.size (sgC b n A l.length c)) := Lib.hid (E_w1.out.step hbD)
  have B_y1 : Hid (Below w.heap.size w y1) := Lib.hid ((stepB B_w1.out hbD))
  have S_y1 : Hid (CL bv y1 y1.heap.size A l) := Lib.hid (S_w1.out.step hbD)
  clear E_w1 B_w1 S_w1
  have hbd : (fun w' => BK 24 w' w.heap.size (sgC b n A l.length c)) (World.drew w1) := by rw [← hy1]; exact E_y1.out
  have hSD : (fun w' => BK 24 w' w.heap.size (sgC b n A l.length c)) y1 := E_y1.out
  have HWD := Lib.hid hy1
  clear hy1 hbD
  refine wp_region_held_drew (S := fun w' => BK 24 w' w.heap.size (sgC b n A l.length c)) (by kernel_rfl) hbd (fun hHeld => ?_)
  rw [← HWD.out]
  clear hHeld
  have hHeld := hSD
  clear hSD hbd HWD
  refine wpAnyH_take (i := 0) (v := (sgV b n A l.length c)) (get_ops _ _ _ rfl) (by kernel_rfl) (by kernel_rfl) (by kernel_rfl) (fun _ _ _ h => h) (Or.inl ⟨by rfl, fun wS hSw => by (try dsimp only at hSw); have c0 := hSw.cell 0 rfl; have c1 := hSw.cell 1 rfl; have c2 := hSw.cell 2 rfl; clear hSw; go_simp; rfl⟩) hHeld ?_
  try simp only [Act.put, List.setIfInBounds_toArray, List.set_cons_zero, List.set_cons_succ]
  refine wpAnyH_take (i := 2) (v := (sgV b n A l.length c)) (get_ops _ _ _ rfl) (by kernel_rfl) (by kernel_rfl) (by kernel_rfl) (fun _ _ _ h => h) (Or.inl ⟨by rfl, fun wS hSw => by (try dsimp only at hSw); have c0 := hSw.cell 0 rfl; have c1 := hSw.cell 1 rfl; have c2 := hSw.cell 2 rfl; clear hSw; go_simp; rfl⟩) hHeld ?_
  try simp only [Act.put, List.setIfInBounds_toArray, List.set_cons_zero, List.set_cons_succ]
  refine wpAnyH_ready (rs := [1]) (by kernel_rfl) (by simp) ?_
  refine (AllReadyH.cons (get_ops _ _ _ rfl) (fun K hK => ?_) AllReadyH.nil)
  go_simp
  refine (HC.out y1 S_y1.out).mono ?_
  rintro e y2 ⟨rfl, hb⟩
  have E_y2 : Hid (BK 24 y2 w.heap.size (sgC b n A l.length c)) := Lib.hid (E_y1.out.step hb)
  have B_y2 : Hid (Below w.heap.size w y2) := Lib.hid ((stepB B_y1.out hb))
  have S_y2 : Hid (CL bv y2 y2.heap.size A l) := Lib.hid (S_y1.out.step hb)
  clear E_y1 B_y1 S_y1
  clear hHeld hb
  go_wp2_with fail
  refine hK.out _ _ E_y2.out (fun hHeld => ?_)
  clear hK K
  try simp only [Act.put, List.setIfInBounds_toArray, List.set_cons_zero, List.set_cons_succ]
  refine wpAnyH_ready (rs := [3]) (by kernel_rfl) (by simp) ?_
  refine (AllReadyH.cons (get_ops _ _ _ rfl) (fun K hK => ?_) AllReadyH.nil)
  go_simp
  refine (HR.out y2 S_y2.out).mono ?_
  rintro e y3 ⟨rfl, hb⟩
  have E_y3 : Hid (BK 24 y3 w.heap.size (sgC b n A l.length c)) := Lib.hid (E_y2.out.step hb)
  have B_y3 : Hid (Below w.heap.size w y3) := Lib.hid ((stepB B_y2.out hb))
  have S_y3 : Hid (CL bv y3 y3.heap.size A l) := Lib.hid (S_y2.out.step hb)
  clear E_y2 B_y2 S_y2
  clear hHeld hb
  go_wp2_with fail
  refine hK.out _ _ E_y3.out (fun hHeld => ?_)
  clear hK K
  try simp only [Act.put, List.setIfInBounds_toArray, List.set_cons_zero, List.set_cons_succ]
  refine wpAnyH_take (i := 4) (v := (.bool true)) (get_ops _ _ _ rfl) (by kernel_rfl) (by kernel_rfl) (by kernel_rfl) (fun _ _ _ h => h) (Or.inl ⟨by rfl, fun wS hSw => by (try dsimp only at hSw); go_simp⟩) hHeld ?_
  try simp only [Act.put, List.setIfInBounds_toArray, List.set_cons_zero, List.set_cons_succ]
  refine wpAnyH_take (i := 5) (v := (.bool true)) (get_ops _ _ _ rfl) (by kernel_rfl) (by kernel_rfl) (by kernel_rfl) (fun _ _ _ h => h) (Or.inl ⟨by rfl, fun wS hSw => by (try dsimp only at hSw); go_simp⟩) hHeld ?_
  try simp only [Act.put, List.setIfInBounds_toArray, List.set_cons_zero, List.set_cons_succ]
  refine wpAnyH_take (i := 6) (v := (.pointer (some ⟨w.heap.size, 0, none⟩))) (get_ops _ _ _ rfl) (by kernel_rfl) (by kernel_rfl) (by kernel_rfl) (fun _ _ _ h => h) (Or.inl ⟨by rfl, fun wS hSw => by (try dsimp only at hSw); go_simp⟩) hHeld ?_
  try simp only [Act.put, List.setIfInBounds_toArray, List.set_cons_zero, List.set_cons_succ]
  refine wpAnyH_take (i := 7) (v := (.int .i64 b)) (get_ops _ _ _ rfl) (by kernel_rfl) (by kernel_rfl) (by kernel_rfl) (fun _ _ _ h => h) (Or.inl ⟨by rfl, fun wS hSw => by (try dsimp only at hSw); have cS := hSw.cell 0 rfl; clear hSw; go_simp⟩) hHeld ?_
  try simp only [Act.put, List.setIfInBounds_toArray, List.set_cons_zero, List.set_cons_succ]
  refine wpAnyH_take (i := 9) (v := (.pointer (some ⟨w.heap.size, 0, none⟩))) (get_ops _ _ _ rfl) (by kernel_rfl) (by kernel_rfl) (by kernel_rfl) (fun _ _ _ h => h) (Or.inl ⟨by rfl, fun wS hSw => by (try dsimp only at hSw); go_simp⟩) hHeld ?_
  try simp only [Act.put, List.setIfInBounds_toArray, List.set_cons_zero, List.set_cons_succ]
  refine wpAnyH_take (i := 10) (v := (.int .i64 b)) (get_ops _ _ _ rfl) (by kernel_rfl) (by kernel_rfl) (by kernel_rfl) (fun _ _ _ h => h) (Or.inl ⟨by rfl, fun wS hSw => by (try dsimp only at hSw); have cS := hSw.cell 0 rfl; clear hSw; go_simp⟩) hHeld ?_
  try simp only [Act.put, List.setIfInBounds_toArray, List.set_cons_zero, List.set_cons_succ]
  refine wpAnyH_ready (rs := [8]) (by kernel_rfl) (by simp) ?_
  refine (AllReadyH.cons (get_ops _ _ _ rfl) (fun K hK => ?_) AllReadyH.nil)
  go_simp
  refine (sNew_any b y3).mono ?_
  rintro e y4 ⟨rfl, hb⟩
  have E_y4 : Hid (BK 24 y4 w.heap.size (sgC b n A l.length c)) := Lib.hid (E_y3.out.step hb)
  have B_y4 : Hid (Below w.heap.size w y4) := Lib.hid ((stepB B_y3.out hb))
  have S_y4 : Hid (CL bv y4 y4.heap.size A l) := Lib.hid (S_y3.out.step hb)
  clear E_y3 B_y3 S_y3
  clear hHeld hb
  go_wp2_with fail
  refine hK.out _ _ E_y4.out (fun hHeld => ?_)
  clear hK K
  try simp only [Act.put, List.setIfInBounds_toArray, List.set_cons_zero, List.set_cons_succ]
  refine wpAnyH_ready (rs := [11]) (by kernel_rfl) (by simp) ?_
  refine (AllReadyH.cons (get_ops _ _ _ rfl) (fun K hK => ?_) AllReadyH.nil)
  go_simp
  refine (rSgNew_any b y4).mono ?_
  rintro e y5 ⟨rfl, hb⟩
  have E_y5 : Hid (BK 24 y5 w.heap.size (sgC b n A l.length c)) := Lib.hid (E_y4.out.step hb)
  have B_y5 : Hid (Below w.heap.size w y5) := Lib.hid ((stepB B_y4.out hb))
  have S_y5 : Hid (CL bv y5 y5.heap.size A l) := Lib.hid (S_y4.out.step hb)
  clear E_y4 B_y4 S_y4
  clear hHeld hb
  go_wp2_with fail
  refine hK.out _ _ E_y5.out (fun hHeld => ?_)
  clear hK K
  try simp only [Act.put, List.setIfInBounds_toArray, List.set_cons_zero, List.set_cons_succ]
  refine wpAnyH_ready (rs := [12]) (by kernel_rfl) (by simp) ?_
  refine (AllReadyH.cons (get_ops _ _ _ rfl) (fun K hK => ?_) AllReadyH.nil)
  go_simp
  refine (sgSame_any b b none none 0 0 [] y5 (CL.nil _ _ _) (CL.nil _ _ _)).mono ?_
  rintro e y6 ⟨rfl, hb⟩
  have E_y6 : Hid (BK 24 y6 w.heap.size (sgC b n A l.length c)) := Lib.hid (E_y5.out.step hb)
  have B_y6 : Hid (Below w.heap.size w y6) := Lib.hid ((stepB B_y5.out hb))
  have S_y6 : Hid (CL bv y6 y6.heap.size A l) := Lib.hid (S_y5.out.step hb)
  clear E_y5 B_y5 S_y5
  clear hHeld hb
  go_wp2_with fail
  refine hK.out _ _ E_y6.out (fun hHeld => ?_)
  clear hK K
  try simp only [Act.put, List.setIfInBounds_toArray, List.set_cons_zero, List.set_cons_succ]
  refine wpAnyH_take (i := 13) (v := (.bool true)) (get_ops _ _ _ rfl) (by kernel_rfl) (by kernel_rfl) (by kernel_rfl) (fun _ _ _ h => h) (Or.inl ⟨by rfl, fun wS hSw => by (try dsimp only at hSw); go_simp⟩) hHeld ?_
  try simp only [Act.put, List.setIfInBounds_toArray, List.set_cons_zero, List.set_cons_succ]
  refine wpAnyH_take (i := 14) (v := (.bool true)) (get_ops _ _ _ rfl) (by kernel_rfl) (by kernel_rfl) (by kernel_rfl) (fun _ _ _ h => h) (Or.inl ⟨by rfl, fun wS hSw => by (try dsimp only at hSw); go_simp⟩) hHeld ?_
  try simp only [Act.put, List.setIfInBounds_toArray, List.set_cons_zero, List.set_cons_succ]
  refine wpAnyH_ready (rs := [15]) (by kernel_rfl) (by simp) ?_
  refine (AllReadyH.cons (get_ops _ _ _ rfl) (fun K hK => ?_) AllReadyH.nil)
  go_simp
  refine (awake32_any y6).mono ?_
  rintro e y7 ⟨rfl, hb⟩
  have E_y7 : Hid (BK 24 y7 w.heap.size (sgC b n A l.length c)) := Lib.hid (E_y6.out.step hb)
  have B_y7 : Hid (Below w.heap.size w y7) := Lib.hid ((stepB B_y6.out hb))
  have S_y7 : Hid (CL bv y7 y7.heap.size A l) := Lib.hid (S_y6.out.step hb)
  clear E_y6 B_y6 S_y6
  clear hHeld hb
  go_wp2_with fail
  refine hK.out _ _ E_y7.out (fun hHeld => ?_)
  clear hK K
  try simp only [Act.put, List.setIfInBounds_toArray, List.set_cons_zero, List.set_cons_succ]
  refine wpAnyH_take (i := 16) (v := (.bool true)) (get_ops _ _ _ rfl) (by kernel_rfl) (by kernel_rfl) (by kernel_rfl) (fun _ _ _ h => h) (Or.inl ⟨by rfl, fun wS hSw => by (try dsimp only at hSw); go_simp⟩) hHeld ?_
  try simp only [Act.put, List.setIfInBounds_toArray, List.set_cons_zero, List.set_cons_succ]
  refine wpAnyH_take (i := 17) (v := (.bool true)) (get_ops _ _ _ rfl) (by kernel_rfl) (by kernel_rfl) (by kernel_rfl) (fun _ _ _ h => h) (Or.inl ⟨by rfl, fun wS hSw => by (try dsimp only at hSw); go_simp⟩) hHeld ?_
  try simp only [Act.put, List.setIfInBounds_toArray, List.set_cons_zero, List.set_cons_succ]
  refine wpAnyH_done (by kernel_rfl) ?_ _
  go_wp2_with fail
  go_ret
  exact ⟨rfl, B_y7.out⟩

set_option maxRecDepth 20000 in
set_option maxHeartbeats 8000000 in
theorem segmentAppends_walk (b n : Int) (A : Option Addr) (c : Nat) (l : List UInt8) (r : Rc) (w : World) (hsl : CL bv w w.heap.size A l) (hc : l.length ≤ c)  (hz : r.key.size ≤ 9223372036854775807 ∧ r.val.size ≤ 9223372036854775807) :
    Calls Try.prog 4 #[sgV b n A l.length c, rcV r] w fun e w' => e = .returned (.bool true) ∧ Below w.heap.size w w' := by
  have HSL := Lib.hid hsl
  obtain ⟨zk, zv⟩ := hz
  by_cases h4 : 4000 < l.length
  · have h4' : (4000 : Int) < (l.length : Int) := by omega
    clear hsl
    unfold rcV
    unfold sgV
    go_enter Try.func4, Try.ntmps4
    go_upto_region 1 with fail
    refine name_world (C := fun w1 => Code.wp _ _ _ _ w1) ((w.alloc (.cells (sgC b n A l.length c).toArray 24)).alloc (.cells (rcC r).toArray 32)) ?_
    intro w1 hw1
    obtain ⟨e1, e2, _, hb1⟩ := S2.two_laid hw1
    have E_w1 := Lib.hid e1
    have X_w1 := Lib.hid e2
    have B_w1 := Lib.hid hb1
    have S_w1 := Lib.hid (HSL.out.step hb1)
    clear hw1 e1 e2 hb1 HSL
    have k2 := E_w1.out.cell 2 rfl
    go_wp2_with fail
    refine (awake32_any w1).mono ?_
    rintro e y1 ⟨rfl, hb⟩
    clear k2
    have E_y1 : Hid (BK 24 y1 w.heap.size (sgC b n A l.length c)) := Lib.hid (E_w1.out.step hb)
    have X_y1 : Hid (BK 32 y1 (w.heap.size + 1) (rcC r)) := Lib.hid (X_w1.out.step hb)
    have B_y1 : Hid (Below w.heap.size w y1) := Lib.hid ((stepB B_w1.out hb))
    have S_y1 : Hid (CL bv y1 y1.heap.size A l) := Lib.hid (S_w1.out.step hb)
    clear E_w1 X_w1 B_w1 S_w1
    clear hb
    go_wp2_with fail
    go_ret
    exact ⟨rfl, B_y1.out⟩
  have h4' : ¬ ((4000 : Int) < (l.length : Int)) := by omega
  by_cases h5 : 4000 < r.key.size
  · have h5' : (4000 : Int) < (r.key.size : Int) := by omega
    clear hsl
    unfold rcV
    unfold sgV
    go_enter Try.func4, Try.ntmps4
    go_upto_region 1 with fail
    refine name_world (C := fun w1 => Code.wp _ _ _ _ w1) ((w.alloc (.cells (sgC b n A l.length c).toArray 24)).alloc (.cells (rcC r).toArray 32)) ?_
    intro w1 hw1
    obtain ⟨e1, e2, _, hb1⟩ := S2.two_laid hw1
    have E_w1 := Lib.hid e1
    have X_w1 := Lib.hid e2
    have B_w1 := Lib.hid hb1
    have S_w1 := Lib.hid (HSL.out.step hb1)
    clear hw1 e1 e2 hb1 HSL
    have k2 := E_w1.out.cell 2 rfl
    have x2 := X_w1.out.cell 2 rfl
    go_wp2_with fail
    refine (awake32_any w1).mono ?_
    rintro e y1 ⟨rfl, hb⟩
    clear k2 x2
    have E_y1 : Hid (BK 24 y1 w.heap.size (sgC b n A l.length c)) := Lib.hid (E_w1.out.step hb)
    have X_y1 : Hid (BK 32 y1 (w.heap.size + 1) (rcC r)) := Lib.hid (X_w1.out.step hb)
    have B_y1 : Hid (Below w.heap.size w y1) := Lib.hid ((stepB B_w1.out hb))
    have S_y1 : Hid (CL bv y1 y1.heap.size A l) := Lib.hid (S_w1.out.step hb)
    clear E_w1 X_w1 B_w1 S_w1
    clear hb
    go_wp2_with fail
    go_ret
    exact ⟨rfl, B_y1.out⟩
  have h5' : ¬ ((4000 : Int) < (r.key.size : Int)) := by omega
  by_cases h6 : 4200 < r.val.size
  · have h6' : (4200 : Int) < (r.val.size : Int) := by omega
    clear hsl
    unfold rcV
    unfold sgV
    go_enter Try.func4, Try.ntmps4
    go_upto_region 1 with fail
    refine name_world (C := fun w1 => Code.wp _ _ _ _ w1) ((w.alloc (.cells (sgC b n A l.length c).toArray 24)).alloc (.cells (rcC r).toArray 32)) ?_
    intro w1 hw1
    obtain ⟨e1, e2, _, hb1⟩ := S2.two_laid hw1
    have E_w1 := Lib.hid e1
    have X_w1 := Lib.hid e2
    have B_w1 := Lib.hid hb1
    have S_w1 := Lib.hid (HSL.out.step hb1)
    clear hw1 e1 e2 hb1 HSL
    have k2 := E_w1.out.cell 2 rfl
    have x2 := X_w1.out.cell 2 rfl
    have x3 := X_w1.out.cell 3 rfl
    go_wp2_with fail
    refine (awake32_any w1).mono ?_
    rintro e y1 ⟨rfl, hb⟩
    clear k2 x2 x3
    have E_y1 : Hid (BK 24 y1 w.heap.size (sgC b n A l.length c)) := Lib.hid (E_w1.out.step hb)
    have X_y1 : Hid (BK 32 y1 (w.heap.size + 1) (rcC r)) := Lib.hid (X_w1.out.step hb)
    have B_y1 : Hid (Below w.heap.size w y1) := Lib.hid ((stepB B_w1.out hb))
    have S_y1 : Hid (CL bv y1 y1.heap.size A l) := Lib.hid (S_w1.out.step hb)
    clear E_w1 X_w1 B_w1 S_w1
    clear hb
    go_wp2_with fail
    go_ret
    exact ⟨rfl, B_y1.out⟩
  have h6' : ¬ ((4200 : Int) < (r.val.size : Int)) := by omega
  have HR := Lib.hid (fun w h => rSgCheck_any b n A c l w h hc (by omega))
  by_cases hck : sgCk b n l ≠ 0
  · have hq : (sgCk b n l != 0) = true := by simp [hck]
    generalize sgCk b n l = ck at *
    clear hsl hck
    unfold rcV
    unfold sgV
    go_enter Try.func4, Try.ntmps4
    go_upto_region 1 with fail
    refine name_world (C := fun w1 => Code.wp _ _ _ _ w1) ((w.alloc (.cells (sgC b n A l.length c).toArray 24)).alloc (.cells (rcC r).toArray 32)) ?_
    intro w1 hw1
    obtain ⟨e1, e2, _, hb1⟩ := S2.two_laid hw1
    have E_w1 := Lib.hid e1
    have X_w1 := Lib.hid e2
    have B_w1 := Lib.hid hb1
    have S_w1 := Lib.hid (HSL.out.step hb1)
    clear hw1 e1 e2 hb1 HSL
    have k0 := E_w1.out.cell 0 rfl
    have k1 := E_w1.out.cell 1 rfl
    have k2 := E_w1.out.cell 2 rfl
    have x2 := X_w1.out.cell 2 rfl
    have x3 := X_w1.out.cell 3 rfl
    go_wp2_with fail
    refine (HR.out w1 S_w1.out).mono ?_
    rintro e y1 ⟨rfl, hb⟩
    clear k0 k1 k2 x2 x3
    have E_y1 : Hid (BK 24 y1 w.heap.size (sgC b n A l.length c)) := Lib.hid (E_w1.out.step hb)
    have X_y1 : Hid (BK 32 y1 (w.heap.size + 1) (rcC r)) := Lib.hid (X_w1.out.step hb)
    have B_y1 : Hid (Below w.heap.size w y1) := Lib.hid ((stepB B_w1.out hb))
    have S_y1 : Hid (CL bv y1 y1.heap.size A l) := Lib.hid (S_w1.out.step hb)
    clear E_w1 X_w1 B_w1 S_w1
    clear hb
    go_wp2_with fail
    refine (awake32_any y1).mono ?_
    rintro e y2 ⟨rfl, hb⟩
    have E_y2 : Hid (BK 24 y2 w.heap.size (sgC b n A l.length c)) := Lib.hid (E_y1.out.step hb)
    have X_y2 : Hid (BK 32 y2 (w.heap.size + 1) (rcC r)) := Lib.hid (X_y1.out.step hb)
    have B_y2 : Hid (Below w.heap.size w y2) := Lib.hid ((stepB B_y1.out hb))
    have S_y2 : Hid (CL bv y2 y2.heap.size A l) := Lib.hid (S_y1.out.step hb)
    clear E_y1 X_y1 B_y1 S_y1
    clear hb
    go_wp2_with fail
    go_ret
    exact ⟨rfl, B_y2.out⟩
  have hck0 : sgCk b n l = 0 := by omega
  rw [hck0] at HR
  have HA := Lib.hid (fun A c w h => sAppend_any b n A c l r.kind r.key r.val w h (by omega) (by omega))
  have HB := Lib.hid (fun A c w h => rSgAppend_any b n A c l r.kind r.key r.val w h (by omega) (by omega))
  unfold RetSA at HA HB
  generalize sgApp b n l r.kind r.key r.val = q at *
  obtain ⟨⟨b1, n1, l1⟩, m1, e1⟩ := q
  dsimp only at HA HB
  clear hsl hck hck0 zk zv hc
  unfold rcV
  unfold sgV
  go_enter Try.func4, Try.ntmps4
  go_upto_region 1 with fail
  refine name_world (C := fun w1 => Code.wp _ _ _ _ w1) ((w.alloc (.cells (sgC b n A l.length c).toArray 24)).alloc (.cells (rcC r).toArray 32)) ?_
  intro w1 hw1
  obtain ⟨e1, e2, _, hb1⟩ := S2.two_laid hw1
  have E_w1 := Lib.hid e1
  have X_w1 := Lib.hid e2
  have B_w1 := Lib.hid hb1
  have S_w1 := Lib.hid (HSL.out.step hb1)
  clear hw1 e1 e2 hb1 HSL
  have k0 := E_w1.out.cell 0 rfl
  have k1 := E_w1.out.cell 1 rfl
  have k2 := E_w1.out.cell 2 rfl
  have x2 := X_w1.out.cell 2 rfl
  have x3 := X_w1.out.cell 3 rfl
  go_wp2_with fail
  refine (HR.out w1 S_w1.out).mono ?_
  rintro e y1 ⟨rfl, hb⟩
  clear k0 k1 k2 x2 x3
  have E_y1 : Hid (BK 24 y1 w.heap.size (sgC b n A l.length c)) := Lib.hid (E_w1.out.step hb)
  have X_y1 : Hid (BK 32 y1 (w.heap.size + 1) (rcC r)) := Lib.hid (X_w1.out.step hb)
  have B_y1 : Hid (Below w.heap.size w y1) := Lib.hid ((stepB B_w1.out hb))
  have S_y1 : Hid (CL bv y1 y1.heap.size A l) := Lib.hid (S_w1.out.step hb)
  clear E_w1 X_w1 B_w1 S_w1
  clear hb
  go_upto_region 3 with fail
  have k2 := (E_y1.out.alloc (.cells #[] 5)).cell 2 rfl
  go_upto_region 4 with first
    | (at_builtin; refine wpList_appB _ rfl (.tmp 34) (.tmp 36) rfl y1.heap.size _ [] l A c rfl (Own.made y1 0 #[] y1.heap.size (Nat.le_refl _) (by decide) rfl) rfl y1.heap.size (copied S_y1.out (Nat.le_refl _) _) y1 ((Below.refl _ _).alloc (Nat.le_refl _) _) (by simp) (by simp; omega) ?_; intro v9 wc own9 hb3 hB3; rw [List.nil_append] at own9; obtain ⟨A9, c9, rfl, hc9, sl9⟩ := own9.ret; have E_wc : Hid (BK 24 wc w.heap.size (sgC b n A l.length c)) := Lib.hid (E_y1.out.step hb3); have X_wc : Hid (BK 32 wc (w.heap.size + 1) (rcC r)) := Lib.hid (X_y1.out.step hb3); have B_wc : Hid (Below w.heap.size w wc) := Lib.hid ((stepB B_y1.out hb3)); have S_wc : Hid (CL bv wc wc.heap.size A l) := Lib.hid (S_y1.out.step hb3); have K_wc := Lib.hid sl9; clear own9 sl9 hb3 hB3 k2 E_y1 X_y1 B_y1 S_y1)
  have k0 := E_wc.out.cell 0 rfl
  have k1 := E_wc.out.cell 1 rfl
  have x1 := X_wc.out.cell 1 rfl
  have x2 := X_wc.out.cell 2 rfl
  have x3 := X_wc.out.cell 3 rfl
  go_wp2_with fail
  refine (HA.out A9 c9 wc K_wc.out).mono ?_
  rintro e y2 ⟨A1, c1, rfl, hc1, hn1, hb⟩
  clear k0 k1 x1 x2 x3
  have E_y2 : Hid (BK 24 y2 w.heap.size (sgC b n A l.length c)) := Lib.hid (E_wc.out.step hb)
  have X_y2 : Hid (BK 32 y2 (w.heap.size + 1) (rcC r)) := Lib.hid (X_wc.out.step hb)
  have B_y2 : Hid (Below w.heap.size w y2) := Lib.hid ((stepB B_wc.out hb))
  have S_y2 : Hid (CL bv y2 y2.heap.size A l) := Lib.hid (S_wc.out.step hb)
  have K_y2 : Hid (CL bv y2 y2.heap.size A9 l) := Lib.hid (K_wc.out.step hb)
  clear E_wc X_wc B_wc S_wc K_wc
  have P_y2 : Hid (CL bv y2 y2.heap.size A1 l1) := Lib.hid (hn1.1)
  clear hn1
  clear hb
  go_upto_region 5 with first
    | (refine S2.wpList_store_all (by rfl) 24 (.tmp 6) (.tmp 52) rfl rfl (y2.heap.size) rfl (sgC b1 n1 A1 l1.length c1) rfl 24 (sgC 0 0 none 0 0) (BK.new y2 _ _) sgSize rfl (S2.all_one rfl) ?_; intro y3 hM hP; have hb : Below y2.heap.size y2 y3 := hP.below (S2.below_new y2 _) (Nat.le_refl _); have E_y3 : Hid (BK 24 y3 w.heap.size (sgC b n A l.length c)) := Lib.hid (E_y2.out.step hb); have X_y3 : Hid (BK 32 y3 (w.heap.size + 1) (rcC r)) := Lib.hid (X_y2.out.step hb); have B_y3 : Hid (Below w.heap.size w y3) := Lib.hid ((stepB B_y2.out hb)); have S_y3 : Hid (CL bv y3 y3.heap.size A l) := Lib.hid (S_y2.out.step hb); have K_y3 : Hid (CL bv y3 y3.heap.size A9 l) := Lib.hid (K_y2.out.step hb); have P_y3 : Hid (CL bv y3 y3.heap.size A1 l1) := Lib.hid (P_y2.out.step hb); have T_y3 : Hid (BK 24 y3 (y2.heap.size) (sgC b1 n1 A1 l1.length c1)) := Lib.hid hM; clear hM hP hb E_y2 X_y2 B_y2 S_y2 K_y2 P_y2)
  have k0 := E_y3.out.cell 0 rfl
  have k1 := E_y3.out.cell 1 rfl
  have k2 := E_y3.out.cell 2 rfl
  have x1 := X_y3.out.cell 1 rfl
  have x2 := X_y3.out.cell 2 rfl
  have x3 := X_y3.out.cell 3 rfl
  go_wp2_with fail
  refine (HB.out A c y3 S_y3.out).mono ?_
  rintro e y4 ⟨A2, c2, rfl, hc2, hn2, hb⟩
  clear k0 k1 k2 x1 x2 x3
  have E_y4 : Hid (BK 24 y4 w.heap.size (sgC b n A l.length c)) := Lib.hid (E_y3.out.step hb)
  have X_y4 : Hid (BK 32 y4 (w.heap.size + 1) (rcC r)) := Lib.hid (X_y3.out.step hb)
  have B_y4 : Hid (Below w.heap.size w y4) := Lib.hid ((stepB B_y3.out hb))
  have S_y4 : Hid (CL bv y4 y4.heap.size A l) := Lib.hid (S_y3.out.step hb)
  have K_y4 : Hid (CL bv y4 y4.heap.size A9 l) := Lib.hid (K_y3.out.step hb)
  have P_y4 : Hid (CL bv y4 y4.heap.size A1 l1) := Lib.hid (P_y3.out.step hb)
  have T_y4 : Hid (BK 24 y4 (y2.heap.size) (sgC b1 n1 A1 l1.length c1)) := Lib.hid (T_y3.out.step hb)
  clear E_y3 X_y3 B_y3 S_y3 K_y3 P_y3 T_y3
  have Q_y4 : Hid (CL bv y4 y4.heap.size A2 l1) := Lib.hid (hn2.1)
  clear hn2
  clear hb
  go_upto_region 6 with first
    | (refine S2.wpList_store_all (by rfl) 24 (.tmp 9) (.tmp 64) rfl rfl (y4.heap.size) rfl (sgC b1 n1 A2 l1.length c2) rfl 24 (sgC 0 0 none 0 0) (BK.new y4 _ _) sgSize rfl (S2.all_one rfl) ?_; intro y5 hM hP; have hb : Below y4.heap.size y4 y5 := hP.below (S2.below_new y4 _) (Nat.le_refl _); have E_y5 : Hid (BK 24 y5 w.heap.size (sgC b n A l.length c)) := Lib.hid (E_y4.out.step hb); have X_y5 : Hid (BK 32 y5 (w.heap.size + 1) (rcC r)) := Lib.hid (X_y4.out.step hb); have B_y5 : Hid (Below w.heap.size w y5) := Lib.hid ((stepB B_y4.out hb)); have S_y5 : Hid (CL bv y5 y5.heap.size A l) := Lib.hid (S_y4.out.step hb); have K_y5 : Hid (CL bv y5 y5.heap.size A9 l) := Lib.hid (K_y4.out.step hb); have P_y5 : Hid (CL bv y5 y5.heap.size A1 l1) := Lib.hid (P_y4.out.step hb); have T_y5 : Hid (BK 24 y5 (y2.heap.size) (sgC b1 n1 A1 l1.length c1)) := Lib.hid (T_y4.out.step hb); have Q_y5 : Hid (CL bv y5 y5.heap.size A2 l1) := Lib.hid (Q_y4.out.step hb); have U_y5 : Hid (BK 24 y5 (y4.heap.size) (sgC b1 n1 A2 l1.length c2)) := Lib.hid hM; clear hM hP hb E_y4 X_y4 B_y4 S_y4 K_y4 P_y4 T_y4 Q_y4)
  have t0 := T_y5.out.cell 0 rfl
  have t1 := T_y5.out.cell 1 rfl
  have t2 := T_y5.out.cell 2 rfl
  have u0 := U_y5.out.cell 0 rfl
  have u1 := U_y5.out.cell 1 rfl
  have u2 := U_y5.out.cell 2 rfl
  go_wp2_with fail
  refine (sgSame_any b1 n1 A1 A2 c1 c2 l1 y5 P_y5.out Q_y5.out).mono ?_
  rintro e y6 ⟨rfl, hb⟩
  clear t0 t1 t2 u0 u1 u2
  have E_y6 : Hid (BK 24 y6 w.heap.size (sgC b n A l.length c)) := Lib.hid (E_y5.out.step hb)
  have X_y6 : Hid (BK 32 y6 (w.heap.size + 1) (rcC r)) := Lib.hid (X_y5.out.step hb)
  have B_y6 : Hid (Below w.heap.size w y6) := Lib.hid ((stepB B_y5.out hb))
  have S_y6 : Hid (CL bv y6 y6.heap.size A l) := Lib.hid (S_y5.out.step hb)
  have K_y6 : Hid (CL bv y6 y6.heap.size A9 l) := Lib.hid (K_y5.out.step hb)
  have P_y6 : Hid (CL bv y6 y6.heap.size A1 l1) := Lib.hid (P_y5.out.step hb)
  have T_y6 : Hid (BK 24 y6 (y2.heap.size) (sgC b1 n1 A1 l1.length c1)) := Lib.hid (T_y5.out.step hb)
  have Q_y6 : Hid (CL bv y6 y6.heap.size A2 l1) := Lib.hid (Q_y5.out.step hb)
  have U_y6 : Hid (BK 24 y6 (y4.heap.size) (sgC b1 n1 A2 l1.length c2)) := Lib.hid (U_y5.out.step hb)
  clear E_y5 X_y5 B_y5 S_y5 K_y5 P_y5 T_y5 Q_y5 U_y5
  clear hb
  have k2 := E_y6.out.cell 2 rfl
  have cv1 := conv_str K_y6.out c9
  have cv2 := conv_str S_y6.out c
  go_wp2_with fail
  refine (awake32_any y6).mono ?_
  rintro e y7 ⟨rfl, hb⟩
  clear k2 cv1 cv2
  have E_y7 : Hid (BK 24 y7 w.heap.size (sgC b n A l.length c)) := Lib.hid (E_y6.out.step hb)
  have X_y7 : Hid (BK 32 y7 (w.heap.size + 1) (rcC r)) := Lib.hid (X_y6.out.step hb)
  have B_y7 : Hid (Below w.heap.size w y7) := Lib.hid ((stepB B_y6.out hb))
  have S_y7 : Hid (CL bv y7 y7.heap.size A l) := Lib.hid (S_y6.out.step hb)
  have K_y7 : Hid (CL bv y7 y7.heap.size A9 l) := Lib.hid (K_y6.out.step hb)
  have P_y7 : Hid (CL bv y7 y7.heap.size A1 l1) := Lib.hid (P_y6.out.step hb)
  have T_y7 : Hid (BK 24 y7 (y2.heap.size) (sgC b1 n1 A1 l1.length c1)) := Lib.hid (T_y6.out.step hb)
  have Q_y7 : Hid (CL bv y7 y7.heap.size A2 l1) := Lib.hid (Q_y6.out.step hb)
  have U_y7 : Hid (BK 24 y7 (y4.heap.size) (sgC b1 n1 A2 l1.length c2)) := Lib.hid (U_y6.out.step hb)
  clear E_y6 X_y6 B_y6 S_y6 K_y6 P_y6 T_y6 Q_y6 U_y6
  clear hb
  go_wp2_with fail
  go_ret
  exact ⟨rfl, B_y7.out⟩

set_option maxRecDepth 20000 in
set_option maxHeartbeats 8000000 in
theorem segmentReads_walk (b n : Int) (A : Option Addr) (c : Nat) (l : List UInt8) (f : Int) (w : World) (hsl : CL bv w w.heap.size A l) (hc : l.length ≤ c)  :
    Calls Try.prog 5 #[sgV b n A l.length c, .int .i64 f] w fun e w' => e = .returned (.bool true) ∧ Below w.heap.size w w' := by
  have HSL := Lib.hid hsl
  by_cases h4 : 4000 < l.length
  · have h4' : (4000 : Int) < (l.length : Int) := by omega
    clear hsl
    unfold sgV
    go_enter Try.func5, Try.ntmps5
    go_upto_region 1 with fail
    refine name_world (C := fun w1 => Code.wp _ _ _ _ w1) (w.alloc (.cells (sgC b n A l.length c).toArray 24)) ?_
    intro w1 hw1
    have hb1 : Below w.heap.size w w1 := by rw [hw1]; exact S2.below_new w _
    have E_w1 : Hid (BK 24 w1 w.heap.size (sgC b n A l.length c)) := Lib.hid (by rw [hw1]; exact BK.new w _ _)
    have B_w1 := Lib.hid hb1
    have S_w1 := Lib.hid (HSL.out.step hb1)
    clear hw1 hb1 HSL
    have k2 := E_w1.out.cell 2 rfl
    go_wp2_with fail
    refine (awake32_any w1).mono ?_
    rintro e y1 ⟨rfl, hb⟩
    clear k2
    have E_y1 : Hid (BK 24 y1 w.heap.size (sgC b n A l.length c)) := Lib.hid (E_w1.out.step hb)
    have B_y1 : Hid (Below w.heap.size w y1) := Lib.hid ((stepB B_w1.out hb))
    have S_y1 : Hid (CL bv y1 y1.heap.size A l) := Lib.hid (S_w1.out.step hb)
    clear E_w1 B_w1 S_w1
    clear hb
    go_wp2_with fail
    go_ret
    exact ⟨rfl, B_y1.out⟩
  have h4' : ¬ ((4000 : Int) < (l.length : Int)) := by omega
  have HR := Lib.hid (fun w h => rSgCheck_any b n A c l w h hc (by omega))
  by_cases hck : sgCk b n l ≠ 0
  · have hq : (sgCk b n l != 0) = true := by simp [hck]
    generalize sgCk b n l = ck at *
    clear hsl hck
    unfold sgV
    go_enter Try.func5, Try.ntmps5
    go_upto_region 1 with fail
    refine name_world (C := fun w1 => Code.wp _ _ _ _ w1) (w.alloc (.cells (sgC b n A l.length c).toArray 24)) ?_
    intro w1 hw1
    have hb1 : Below w.heap.size w w1 := by rw [hw1]; exact S2.below_new w _
    have E_w1 : Hid (BK 24 w1 w.heap.size (sgC b n A l.length c)) := Lib.hid (by rw [hw1]; exact BK.new w _ _)
    have B_w1 := Lib.hid hb1
    have S_w1 := Lib.hid (HSL.out.step hb1)
    clear hw1 hb1 HSL
    have k0 := E_w1.out.cell 0 rfl
    have k1 := E_w1.out.cell 1 rfl
    have k2 := E_w1.out.cell 2 rfl
    go_wp2_with fail
    refine (HR.out w1 S_w1.out).mono ?_
    rintro e y1 ⟨rfl, hb⟩
    clear k0 k1 k2
    have E_y1 : Hid (BK 24 y1 w.heap.size (sgC b n A l.length c)) := Lib.hid (E_w1.out.step hb)
    have B_y1 : Hid (Below w.heap.size w y1) := Lib.hid ((stepB B_w1.out hb))
    have S_y1 : Hid (CL bv y1 y1.heap.size A l) := Lib.hid (S_w1.out.step hb)
    clear E_w1 B_w1 S_w1
    clear hb
    go_wp2_with fail
    refine (awake32_any y1).mono ?_
    rintro e y2 ⟨rfl, hb⟩
    have E_y2 : Hid (BK 24 y2 w.heap.size (sgC b n A l.length c)) := Lib.hid (E_y1.out.step hb)
    have B_y2 : Hid (Below w.heap.size w y2) := Lib.hid ((stepB B_y1.out hb))
    have S_y2 : Hid (CL bv y2 y2.heap.size A l) := Lib.hid (S_y1.out.step hb)
    clear E_y1 B_y1 S_y1
    clear hb
    go_wp2_with fail
    go_ret
    exact ⟨rfl, B_y2.out⟩
  have hck0 : sgCk b n l = 0 := by omega
  rw [hck0] at HR
  obtain ⟨hb0, hb2, hl6, rs, hq1, hq2, hq3, hsc⟩ := sgCk_ok hck0
  clear hq1 hq2 hq3
  have hrl := flatR_len (scR_valid hsc).1
  have hrn : rs.length ≤ 65536 := by have := congrArg List.length (scR_valid hsc).2; omega
  have HA := Lib.hid (fun w h => sRecords_any b n A c l w h hc hl6 (by omega) (by omega))
  rw [hsc] at HA
  dsimp only at HA
  have HB := Lib.hid (fun w h => rSgRecords_any b n A c l rs w h hc hl6 hsc)
  have HT := Lib.hid (fun w h => sTruncate_any b n A c l rs f w h hc hl6 hsc hb0 hb2)
  have HU := Lib.hid (fun w h => rTruncate_any b n A c l rs f w h hc hl6 hsc)
  unfold RetTr at HT HU
  have HRN := Lib.hid hrn
  clear hsl hck hck0 hc hb0 hb2 hl6 hsc hrl hrn
  unfold sgV
  go_enter Try.func5, Try.ntmps5
  go_upto_region 1 with fail
  refine name_world (C := fun w1 => Code.wp _ _ _ _ w1) (w.alloc (.cells (sgC b n A l.length c).toArray 24)) ?_
  intro w1 hw1
  have hb1 : Below w.heap.size w w1 := by rw [hw1]; exact S2.below_new w _
  have E_w1 : Hid (BK 24 w1 w.heap.size (sgC b n A l.length c)) := Lib.hid (by rw [hw1]; exact BK.new w _ _)
  have B_w1 := Lib.hid hb1
  have S_w1 := Lib.hid (HSL.out.step hb1)
  clear hw1 hb1 HSL
  have k0 := E_w1.out.cell 0 rfl
  have k1 := E_w1.out.cell 1 rfl
  have k2 := E_w1.out.cell 2 rfl
  go_wp2_with fail
  refine (HR.out w1 S_w1.out).mono ?_
  rintro e y1 ⟨rfl, hb⟩
  clear k0 k1 k2
  have E_y1 : Hid (BK 24 y1 w.heap.size (sgC b n A l.length c)) := Lib.hid (E_w1.out.step hb)
  have B_y1 : Hid (Below w.heap.size w y1) := Lib.hid ((stepB B_w1.out hb))
  have S_y1 : Hid (CL bv y1 y1.heap.size A l) := Lib.hid (S_w1.out.step hb)
  clear E_w1 B_w1 S_w1
  clear hb
  go_upto_region 3 with fail
  obtain ⟨y2, hy2⟩ : ∃ y2, y2 = World.drew y1 := ⟨_, rfl⟩
  have hbD : Below y1.heap.size y1 y2 := by rw [hy2]; exact (Below.refl _ _).drew
  have E_y2 : Hid (BK 24 y2 w.heap.size (sgC b n A l.length c)) := Lib.hid (E_y1.out.step hbD)
  have B_y2 : Hid (Below w.heap.size w y2) := Lib.hid ((stepB B_y1.out hbD))
  have S_y2 : Hid (CL bv y2 y2.heap.size A l) := Lib.hid (S_y1.out.step hbD)
  clear E_y1 B_y1 S_y1
  have hbd : (fun w' => BK 24 w' w.heap.size (sgC b n A l.length c)) (World.drew y1) := by rw [← hy2]; exact E_y2.out
  have hSD : (fun w' => BK 24 w' w.heap.size (sgC b n A l.length c)) y2 := E_y2.out
  have HWD := Lib.hid hy2
  clear hy2 hbD
  refine wp_region_held_drew (S := fun w' => BK 24 w' w.heap.size (sgC b n A l.length c)) (by kernel_rfl) hbd (fun hHeld => ?_)
  rw [← HWD.out]
  clear hHeld
  have hHeld := hSD
  clear hSD hbd HWD
  refine wpAnyH_take (i := 0) (v := (sgV b n A l.length c)) (get_ops _ _ _ rfl) (by kernel_rfl) (by kernel_rfl) (by kernel_rfl) (fun _ _ _ h => h) (Or.inl ⟨by rfl, fun wS hSw => by (try dsimp only at hSw); have c0 := hSw.cell 0 rfl; have c1 := hSw.cell 1 rfl; have c2 := hSw.cell 2 rfl; clear hSw; go_simp; rfl⟩) hHeld ?_
  try simp only [Act.put, List.setIfInBounds_toArray, List.set_cons_zero, List.set_cons_succ]
  refine wpAnyH_take (i := 2) (v := (sgV b n A l.length c)) (get_ops _ _ _ rfl) (by kernel_rfl) (by kernel_rfl) (by kernel_rfl) (fun _ _ _ h => h) (Or.inl ⟨by rfl, fun wS hSw => by (try dsimp only at hSw); have c0 := hSw.cell 0 rfl; have c1 := hSw.cell 1 rfl; have c2 := hSw.cell 2 rfl; clear hSw; go_simp; rfl⟩) hHeld ?_
  try simp only [Act.put, List.setIfInBounds_toArray, List.set_cons_zero, List.set_cons_succ]
  refine wpAnyH_ready (rs := [1]) (by kernel_rfl) (by simp) ?_
  refine (AllReadyH.cons (get_ops _ _ _ rfl) (fun K hK => ?_) AllReadyH.nil)
  go_simp
  refine (HA.out y2 S_y2.out).mono ?_
  rintro e y3 ⟨v, rfl, own, hb⟩
  have E_y3 : Hid (BK 24 y3 w.heap.size (sgC b n A l.length c)) := Lib.hid (E_y2.out.step hb)
  have B_y3 : Hid (Below w.heap.size w y3) := Lib.hid ((stepB B_y2.out hb))
  have S_y3 : Hid (CL bv y3 y3.heap.size A l) := Lib.hid (S_y2.out.step hb)
  clear E_y2 B_y2 S_y2
  obtain ⟨Ya, Yc, rfl, _, Yg⟩ := own.ret rcC_len
  have Y_y3 : Hid (RcL y3 y3.heap.size Ya rs) := Lib.hid (Yg)
  clear own Yg
  clear hHeld hb
  go_wp2_with fail
  refine hK.out _ _ E_y3.out (fun hHeld => ?_)
  clear hK K
  try simp only [Act.put, List.setIfInBounds_toArray, List.set_cons_zero, List.set_cons_succ]
  refine wpAnyH_ready (rs := [3]) (by kernel_rfl) (by simp) ?_
  refine (AllReadyH.cons (get_ops _ _ _ rfl) (fun K hK => ?_) AllReadyH.nil)
  go_simp
  refine (HB.out y3 S_y3.out).mono ?_
  rintro e y4 ⟨v, rfl, own, hb⟩
  have E_y4 : Hid (BK 24 y4 w.heap.size (sgC b n A l.length c)) := Lib.hid (E_y3.out.step hb)
  have B_y4 : Hid (Below w.heap.size w y4) := Lib.hid ((stepB B_y3.out hb))
  have S_y4 : Hid (CL bv y4 y4.heap.size A l) := Lib.hid (S_y3.out.step hb)
  have Y_y4 : Hid (RcL y4 y4.heap.size Ya rs) := Lib.hid (Y_y3.out.step hb)
  clear E_y3 B_y3 S_y3 Y_y3
  obtain ⟨Wa, Wc, rfl, _, Wg⟩ := own.ret rcC_len
  have W_y4 : Hid (RcL y4 y4.heap.size Wa rs) := Lib.hid (Wg)
  clear own Wg
  clear hHeld hb
  go_wp2_with fail
  refine hK.out _ _ E_y4.out (fun hHeld => ?_)
  clear hK K
  try simp only [Act.put, List.setIfInBounds_toArray, List.set_cons_zero, List.set_cons_succ]
  refine wpAnyH_ready (rs := [4]) (by kernel_rfl) (by simp) ?_
  refine (AllReadyH.cons (get_ops _ _ _ rfl) (fun K hK => ?_) AllReadyH.nil)
  go_simp
  refine (sameRs_any Ya Wa Yc Wc rs y4 Y_y4.out W_y4.out (by have := HRN.out; omega)).mono ?_
  rintro e y5 ⟨rfl, hb⟩
  have E_y5 : Hid (BK 24 y5 w.heap.size (sgC b n A l.length c)) := Lib.hid (E_y4.out.step hb)
  have B_y5 : Hid (Below w.heap.size w y5) := Lib.hid ((stepB B_y4.out hb))
  have S_y5 : Hid (CL bv y5 y5.heap.size A l) := Lib.hid (S_y4.out.step hb)
  have Y_y5 : Hid (RcL y5 y5.heap.size Ya rs) := Lib.hid (Y_y4.out.step hb)
  have W_y5 : Hid (RcL y5 y5.heap.size Wa rs) := Lib.hid (W_y4.out.step hb)
  clear E_y4 B_y4 S_y4 Y_y4 W_y4
  clear hHeld hb
  go_wp2_with fail
  refine hK.out _ _ E_y5.out (fun hHeld => ?_)
  clear hK K
  try simp only [Act.put, List.setIfInBounds_toArray, List.set_cons_zero, List.set_cons_succ]
  refine wpAnyH_take (i := 5) (v := (.bool true)) (get_ops _ _ _ rfl) (by kernel_rfl) (by kernel_rfl) (by kernel_rfl) (fun _ _ _ h => h) (Or.inl ⟨by rfl, fun wS hSw => by (try dsimp only at hSw); go_simp⟩) hHeld ?_
  try simp only [Act.put, List.setIfInBounds_toArray, List.set_cons_zero, List.set_cons_succ]
  refine wpAnyH_take (i := 6) (v := (sgV b n A l.length c)) (get_ops _ _ _ rfl) (by kernel_rfl) (by kernel_rfl) (by kernel_rfl) (fun _ _ _ h => h) (Or.inl ⟨by rfl, fun wS hSw => by (try dsimp only at hSw); have c0 := hSw.cell 0 rfl; have c1 := hSw.cell 1 rfl; have c2 := hSw.cell 2 rfl; clear hSw; go_simp; rfl⟩) hHeld ?_
  try simp only [Act.put, List.setIfInBounds_toArray, List.set_cons_zero, List.set_cons_succ]
  refine wpAnyH_take (i := 7) (v := (.int .i64 f)) (get_ops _ _ _ rfl) (by kernel_rfl) (by kernel_rfl) (by kernel_rfl) (fun _ _ _ h => h) (Or.inl ⟨by rfl, fun wS hSw => by (try dsimp only at hSw); go_simp⟩) hHeld ?_
  try simp only [Act.put, List.setIfInBounds_toArray, List.set_cons_zero, List.set_cons_succ]
  refine wpAnyH_take (i := 9) (v := (sgV b n A l.length c)) (get_ops _ _ _ rfl) (by kernel_rfl) (by kernel_rfl) (by kernel_rfl) (fun _ _ _ h => h) (Or.inl ⟨by rfl, fun wS hSw => by (try dsimp only at hSw); have c0 := hSw.cell 0 rfl; have c1 := hSw.cell 1 rfl; have c2 := hSw.cell 2 rfl; clear hSw; go_simp; rfl⟩) hHeld ?_
  try simp only [Act.put, List.setIfInBounds_toArray, List.set_cons_zero, List.set_cons_succ]
  refine wpAnyH_take (i := 10) (v := (.int .i64 f)) (get_ops _ _ _ rfl) (by kernel_rfl) (by kernel_rfl) (by kernel_rfl) (fun _ _ _ h => h) (Or.inl ⟨by rfl, fun wS hSw => by (try dsimp only at hSw); go_simp⟩) hHeld ?_
  try simp only [Act.put, List.setIfInBounds_toArray, List.set_cons_zero, List.set_cons_succ]
  refine wpAnyH_ready (rs := [8]) (by kernel_rfl) (by simp) ?_
  refine (AllReadyH.cons (get_ops _ _ _ rfl) (fun K hK => ?_) AllReadyH.nil)
  go_simp
  refine (HT.out y5 S_y5.out).mono ?_
  rintro e y6 ⟨k5, A5, c5, hk, rfl, _, hl, hb⟩
  have E_y6 : Hid (BK 24 y6 w.heap.size (sgC b n A l.length c)) := Lib.hid (E_y5.out.step hb)
  have B_y6 : Hid (Below w.heap.size w y6) := Lib.hid ((stepB B_y5.out hb))
  have S_y6 : Hid (CL bv y6 y6.heap.size A l) := Lib.hid (S_y5.out.step hb)
  have Y_y6 : Hid (RcL y6 y6.heap.size Ya rs) := Lib.hid (Y_y5.out.step hb)
  have W_y6 : Hid (RcL y6 y6.heap.size Wa rs) := Lib.hid (W_y5.out.step hb)
  clear E_y5 B_y5 S_y5 Y_y5 W_y5
  have HK1 := Lib.hid hk
  have P_y6 : Hid (CL bv y6 y6.heap.size A5 (flatR (rs.take k5))) := Lib.hid (hl)
  clear hk hl
  clear hHeld hb
  go_wp2_with fail
  refine hK.out _ _ E_y6.out (fun hHeld => ?_)
  clear hK K
  try simp only [Act.put, List.setIfInBounds_toArray, List.set_cons_zero, List.set_cons_succ]
  refine wpAnyH_ready (rs := [11]) (by kernel_rfl) (by simp) ?_
  refine (AllReadyH.cons (get_ops _ _ _ rfl) (fun K hK => ?_) AllReadyH.nil)
  go_simp
  refine (HU.out y6 S_y6.out).mono ?_
  rintro e y7 ⟨k6, A6, c6, hk, rfl, _, hl, hb⟩
  have E_y7 : Hid (BK 24 y7 w.heap.size (sgC b n A l.length c)) := Lib.hid (E_y6.out.step hb)
  have B_y7 : Hid (Below w.heap.size w y7) := Lib.hid ((stepB B_y6.out hb))
  have S_y7 : Hid (CL bv y7 y7.heap.size A l) := Lib.hid (S_y6.out.step hb)
  have Y_y7 : Hid (RcL y7 y7.heap.size Ya rs) := Lib.hid (Y_y6.out.step hb)
  have W_y7 : Hid (RcL y7 y7.heap.size Wa rs) := Lib.hid (W_y6.out.step hb)
  have P_y7 : Hid (CL bv y7 y7.heap.size A5 (flatR (rs.take k5))) := Lib.hid (P_y6.out.step hb)
  clear E_y6 B_y6 S_y6 Y_y6 W_y6 P_y6
  obtain rfl := HK1.out.same hk
  have Q_y7 : Hid (CL bv y7 y7.heap.size A6 (flatR (rs.take k5))) := Lib.hid (hl)
  clear hk hl
  clear hHeld hb
  go_wp2_with fail
  refine hK.out _ _ E_y7.out (fun hHeld => ?_)
  clear hK K
  try simp only [Act.put, List.setIfInBounds_toArray, List.set_cons_zero, List.set_cons_succ]
  refine wpAnyH_ready (rs := [12]) (by kernel_rfl) (by simp) ?_
  refine (AllReadyH.cons (get_ops _ _ _ rfl) (fun K hK => ?_) AllReadyH.nil)
  go_simp
  refine (sgSame_any b _ A5 A6 c5 c6 (flatR (rs.take k5)) y7 P_y7.out Q_y7.out).mono ?_
  rintro e y8 ⟨rfl, hb⟩
  have E_y8 : Hid (BK 24 y8 w.heap.size (sgC b n A l.length c)) := Lib.hid (E_y7.out.step hb)
  have B_y8 : Hid (Below w.heap.size w y8) := Lib.hid ((stepB B_y7.out hb))
  have S_y8 : Hid (CL bv y8 y8.heap.size A l) := Lib.hid (S_y7.out.step hb)
  have Y_y8 : Hid (RcL y8 y8.heap.size Ya rs) := Lib.hid (Y_y7.out.step hb)
  have W_y8 : Hid (RcL y8 y8.heap.size Wa rs) := Lib.hid (W_y7.out.step hb)
  have P_y8 : Hid (CL bv y8 y8.heap.size A5 (flatR (rs.take k5))) := Lib.hid (P_y7.out.step hb)
  have Q_y8 : Hid (CL bv y8 y8.heap.size A6 (flatR (rs.take k5))) := Lib.hid (Q_y7.out.step hb)
  clear E_y7 B_y7 S_y7 Y_y7 W_y7 P_y7 Q_y7
  clear hHeld hb
  go_wp2_with fail
  refine hK.out _ _ E_y8.out (fun hHeld => ?_)
  clear hK K
  try simp only [Act.put, List.setIfInBounds_toArray, List.set_cons_zero, List.set_cons_succ]
  refine wpAnyH_take (i := 13) (v := (.bool true)) (get_ops _ _ _ rfl) (by kernel_rfl) (by kernel_rfl) (by kernel_rfl) (fun _ _ _ h => h) (Or.inl ⟨by rfl, fun wS hSw => by (try dsimp only at hSw); go_simp⟩) hHeld ?_
  try simp only [Act.put, List.setIfInBounds_toArray, List.set_cons_zero, List.set_cons_succ]
  refine wpAnyH_take (i := 14) (v := (.bool true)) (get_ops _ _ _ rfl) (by kernel_rfl) (by kernel_rfl) (by kernel_rfl) (fun _ _ _ h => h) (Or.inl ⟨by rfl, fun wS hSw => by (try dsimp only at hSw); go_simp⟩) hHeld ?_
  try simp only [Act.put, List.setIfInBounds_toArray, List.set_cons_zero, List.set_cons_succ]
  refine wpAnyH_ready (rs := [15]) (by kernel_rfl) (by simp) ?_
  refine (AllReadyH.cons (get_ops _ _ _ rfl) (fun K hK => ?_) AllReadyH.nil)
  go_simp
  refine (awake32_any y8).mono ?_
  rintro e y9 ⟨rfl, hb⟩
  have E_y9 : Hid (BK 24 y9 w.heap.size (sgC b n A l.length c)) := Lib.hid (E_y8.out.step hb)
  have B_y9 : Hid (Below w.heap.size w y9) := Lib.hid ((stepB B_y8.out hb))
  have S_y9 : Hid (CL bv y9 y9.heap.size A l) := Lib.hid (S_y8.out.step hb)
  have Y_y9 : Hid (RcL y9 y9.heap.size Ya rs) := Lib.hid (Y_y8.out.step hb)
  have W_y9 : Hid (RcL y9 y9.heap.size Wa rs) := Lib.hid (W_y8.out.step hb)
  have P_y9 : Hid (CL bv y9 y9.heap.size A5 (flatR (rs.take k5))) := Lib.hid (P_y8.out.step hb)
  have Q_y9 : Hid (CL bv y9 y9.heap.size A6 (flatR (rs.take k5))) := Lib.hid (Q_y8.out.step hb)
  clear E_y8 B_y8 S_y8 Y_y8 W_y8 P_y8 Q_y8
  clear hHeld hb
  go_wp2_with fail
  refine hK.out _ _ E_y9.out (fun hHeld => ?_)
  clear hK K
  try simp only [Act.put, List.setIfInBounds_toArray, List.set_cons_zero, List.set_cons_succ]
  refine wpAnyH_take (i := 16) (v := (.bool true)) (get_ops _ _ _ rfl) (by kernel_rfl) (by kernel_rfl) (by kernel_rfl) (fun _ _ _ h => h) (Or.inl ⟨by rfl, fun wS hSw => by (try dsimp only at hSw); go_simp⟩) hHeld ?_
  try simp only [Act.put, List.setIfInBounds_toArray, List.set_cons_zero, List.set_cons_succ]
  refine wpAnyH_take (i := 17) (v := (.bool true)) (get_ops _ _ _ rfl) (by kernel_rfl) (by kernel_rfl) (by kernel_rfl) (fun _ _ _ h => h) (Or.inl ⟨by rfl, fun wS hSw => by (try dsimp only at hSw); go_simp⟩) hHeld ?_
  try simp only [Act.put, List.setIfInBounds_toArray, List.set_cons_zero, List.set_cons_succ]
  refine wpAnyH_done (by kernel_rfl) ?_ _
  go_wp2_with fail
  go_ret
  exact ⟨rfl, B_y9.out⟩

set_option maxRecDepth 20000 in
set_option maxHeartbeats 8000000 in
theorem segmentRecovers_walk (A : Option Addr) (c : Nat) (l : List UInt8) (base : Int) (w : World) (hsl : CL bv w w.heap.size A l) (hc : l.length ≤ c) (hn : l.length ≤ 140737488355328) (hb1 : -9223372036854775808 ≤ base) (hb2 : base ≤ 9223372036854775807) :
    Calls Try.prog 6 #[.slice A l.length c, .int .i64 base] w fun e w' => e = .returned (.bool true) ∧ Below w.heap.size w w' := by
  by_cases h4 : 4000 < l.length
  · have h4' : (4000 : Int) < (l.length : Int) := by omega
    clear hsl
    go_enter Try.func6, Try.ntmps6
    go_wp2_with fail
    refine (awake32_any w).mono ?_
    rintro e w2 ⟨rfl, hb⟩
    go_wp2_with fail
    go_ret
    exact ⟨rfl, hb⟩
  have h4' : ¬ ((4000 : Int) < (l.length : Int)) := by omega
  have HA := Lib.hid (fun w h => sRecover_any A c l base w h hc (by omega) hb1 hb2)
  have HB := Lib.hid (fun w h => rRecover_any A c l base w h hc (by omega) hb1 hb2)
  unfold RetSV at HA HB
  generalize l.take (scR l base).2.1 = T at *
  generalize base + ((scR l base).1.length : Int) = nx at *
  have S_w := Lib.hid hsl
  have B_w := Lib.hid (Below.refl w.heap.size w)
  clear hsl hc hn hb1 hb2
  go_enter Try.func6, Try.ntmps6
  go_wp2_with fail
  refine (HA.out w S_w.out).mono ?_
  rintro e y1 ⟨A1, c1, rfl, _, h1, hb⟩
  have B_y1 : Hid (Below w.heap.size w y1) := Lib.hid ((stepB B_w.out hb))
  have S_y1 : Hid (CL bv y1 y1.heap.size A l) := Lib.hid (S_w.out.step hb)
  clear B_w S_w
  have P_y1 : Hid (CL bv y1 y1.heap.size A1 T) := Lib.hid (h1)
  clear h1
  clear hb
  go_upto_region 4 with first
    | (refine S2.wpList_store_all (by rfl) 24 (.tmp 5) (.tmp 17) rfl rfl (y1.heap.size) rfl (sgC base nx A1 T.length c1) rfl 24 (sgC 0 0 none 0 0) (BK.new y1 _ _) sgSize rfl (S2.all_one rfl) ?_; intro y2 hM hP; have hb : Below y1.heap.size y1 y2 := hP.below (S2.below_new y1 _) (Nat.le_refl _); have B_y2 : Hid (Below w.heap.size w y2) := Lib.hid ((stepB B_y1.out hb)); have S_y2 : Hid (CL bv y2 y2.heap.size A l) := Lib.hid (S_y1.out.step hb); have P_y2 : Hid (CL bv y2 y2.heap.size A1 T) := Lib.hid (P_y1.out.step hb); have T_y2 : Hid (BK 24 y2 (y1.heap.size) (sgC base nx A1 T.length c1)) := Lib.hid hM; clear hM hP hb B_y1 S_y1 P_y1)
  go_wp2_with fail
  refine (HB.out y2 S_y2.out).mono ?_
  rintro e y3 ⟨A2, c2, rfl, _, h1, hb⟩
  have B_y3 : Hid (Below w.heap.size w y3) := Lib.hid ((stepB B_y2.out hb))
  have S_y3 : Hid (CL bv y3 y3.heap.size A l) := Lib.hid (S_y2.out.step hb)
  have P_y3 : Hid (CL bv y3 y3.heap.size A1 T) := Lib.hid (P_y2.out.step hb)
  have T_y3 : Hid (BK 24 y3 (y1.heap.size) (sgC base nx A1 T.length c1)) := Lib.hid (T_y2.out.step hb)
  clear B_y2 S_y2 P_y2 T_y2
  have Q_y3 : Hid (CL bv y3 y3.heap.size A2 T) := Lib.hid (h1)
  clear h1
  clear hb
  go_upto_region 5 with first
    | (refine S2.wpList_store_all (by rfl) 24 (.tmp 7) (.tmp 23) rfl rfl (y3.heap.size) rfl (sgC base nx A2 T.length c2) rfl 24 (sgC 0 0 none 0 0) (BK.new y3 _ _) sgSize rfl (S2.all_one rfl) ?_; intro y4 hM hP; have hb : Below y3.heap.size y3 y4 := hP.below (S2.below_new y3 _) (Nat.le_refl _); have B_y4 : Hid (Below w.heap.size w y4) := Lib.hid ((stepB B_y3.out hb)); have S_y4 : Hid (CL bv y4 y4.heap.size A l) := Lib.hid (S_y3.out.step hb); have P_y4 : Hid (CL bv y4 y4.heap.size A1 T) := Lib.hid (P_y3.out.step hb); have T_y4 : Hid (BK 24 y4 (y1.heap.size) (sgC base nx A1 T.length c1)) := Lib.hid (T_y3.out.step hb); have Q_y4 : Hid (CL bv y4 y4.heap.size A2 T) := Lib.hid (Q_y3.out.step hb); have U_y4 : Hid (BK 24 y4 (y3.heap.size) (sgC base nx A2 T.length c2)) := Lib.hid hM; clear hM hP hb B_y3 S_y3 P_y3 T_y3 Q_y3)
  have t0 := T_y4.out.cell 0 rfl
  have t1 := T_y4.out.cell 1 rfl
  have t2 := T_y4.out.cell 2 rfl
  have u0 := U_y4.out.cell 0 rfl
  have u1 := U_y4.out.cell 1 rfl
  have u2 := U_y4.out.cell 2 rfl
  go_wp2_with fail
  refine (sgSame_any base nx A1 A2 c1 c2 T y4 P_y4.out Q_y4.out).mono ?_
  rintro e y5 ⟨rfl, hb⟩
  clear t0 t1 t2 u0 u1 u2
  have B_y5 : Hid (Below w.heap.size w y5) := Lib.hid ((stepB B_y4.out hb))
  have S_y5 : Hid (CL bv y5 y5.heap.size A l) := Lib.hid (S_y4.out.step hb)
  have P_y5 : Hid (CL bv y5 y5.heap.size A1 T) := Lib.hid (P_y4.out.step hb)
  have T_y5 : Hid (BK 24 y5 (y1.heap.size) (sgC base nx A1 T.length c1)) := Lib.hid (T_y4.out.step hb)
  have Q_y5 : Hid (CL bv y5 y5.heap.size A2 T) := Lib.hid (Q_y4.out.step hb)
  have U_y5 : Hid (BK 24 y5 (y3.heap.size) (sgC base nx A2 T.length c2)) := Lib.hid (U_y4.out.step hb)
  clear B_y4 S_y4 P_y4 T_y4 Q_y4 U_y4
  clear hb
  go_wp2_with fail
  refine (awake32_any y5).mono ?_
  rintro e y6 ⟨rfl, hb⟩
  have B_y6 : Hid (Below w.heap.size w y6) := Lib.hid ((stepB B_y5.out hb))
  have S_y6 : Hid (CL bv y6 y6.heap.size A l) := Lib.hid (S_y5.out.step hb)
  have P_y6 : Hid (CL bv y6 y6.heap.size A1 T) := Lib.hid (P_y5.out.step hb)
  have T_y6 : Hid (BK 24 y6 (y1.heap.size) (sgC base nx A1 T.length c1)) := Lib.hid (T_y5.out.step hb)
  have Q_y6 : Hid (CL bv y6 y6.heap.size A2 T) := Lib.hid (Q_y5.out.step hb)
  have U_y6 : Hid (BK 24 y6 (y3.heap.size) (sgC base nx A2 T.length c2)) := Lib.hid (U_y5.out.step hb)
  clear B_y5 S_y5 P_y5 T_y5 Q_y5 U_y5
  clear hb
  go_wp2_with fail
  go_ret
  exact ⟨rfl, B_y6.out⟩
end Go.Proofs.Ytbmeimpfehjnfaa
