/-
  RecordChecks, RecordEncodes and RecordDecodes answer true, walked. Conditions: texts fit an int; the bytes read as data.
-/
import Derived.Test.YtbmeimpfehjnfabRcE
import Derived.Test.YtbmeimpfehjnfabRcT
import Derived.Test.YtbmeimpfehjnfabLdv
import Derived.Deep.RegionHeld3
namespace Go.Proofs.Ytbmeimpfehjnfab
open Go.RowKit
open S2 (BK Put get_ops exec_load)

set_option maxRecDepth 20000 in
set_option maxHeartbeats 8000000 in
theorem recordChecks_walk (r : Rc) (w : World) (hz : r.key.size ≤ 9223372036854775807 ∧ r.val.size ≤ 9223372036854775807) :
    Calls Try.prog 3 #[rcV r] w fun e w' => e = .returned (.bool true) ∧ Below w.heap.size w w' := by
  have HSM := Lib.hid (fun w => rSmall_any r w hz)
  have HC := Lib.hid (fun w => rcCheck_any r w hz)
  have HR := Lib.hid (fun w => rrCheck_any r w hz)
  obtain ⟨sb, hsb⟩ : ∃ b, (decide (r.key.size ≤ 5000) && decide (r.val.size ≤ 5000)) = b := ⟨_, rfl⟩
  rw [hsb] at HSM
  generalize rcCk r = ck at *
  clear hsb hz
  unfold rcV
  cases sb
  · go_enter Try.func3, Try.ntmps3
    go_upto_region 1 with fail
    refine name_world (C := fun w1 => Code.wp _ _ _ _ w1) (w.alloc (.cells (rcC r).toArray 23)) ?_
    intro w1 hw1
    have hb1 : Below w.heap.size w w1 := by rw [hw1]; exact S2.below_new w _
    have E_w1 : Hid (BK 23 w1 w.heap.size (rcC r)) := Lib.hid (by rw [hw1]; exact BK.new w _ _)
    have B_w1 := Lib.hid hb1
    clear hw1 hb1
    obtain ⟨y1, hy1⟩ : ∃ y1, y1 = World.drew w1 := ⟨_, rfl⟩
    have hbD : Below w1.heap.size w1 y1 := by rw [hy1]; exact (Below.refl _ _).drew
    have E_y1 : Hid (BK 23 y1 w.heap.size (rcC r)) := Lib.hid (E_w1.out.step hbD)
    have B_y1 : Hid (Below w.heap.size w y1) := Lib.hid ((stepB B_w1.out hbD))
    clear E_w1 B_w1
    have hbd : (fun w' => BK 23 w' w.heap.size (rcC r) ∧ Below w.heap.size w w') (World.drew w1) := by rw [← hy1]; exact ⟨E_y1.out, B_y1.out⟩
    have hSD : (fun w' => BK 23 w' w.heap.size (rcC r) ∧ Below w.heap.size w w') y1 := ⟨E_y1.out, B_y1.out⟩
    have HWD := Lib.hid hy1
    clear hy1 hbD
    refine wp_region_held_drew (S := fun w' => BK 23 w' w.heap.size (rcC r) ∧ Below w.heap.size w w') (by kernel_rfl) hbd (fun hHeld => ?_)
    rw [← HWD.out]
    clear hHeld
    have hHeld := hSD
    clear hSD hbd HWD
    refine wpAnyH_take (i := 0) (v := (rcV r)) (get_ops _ _ _ rfl) (by kernel_rfl) (by kernel_rfl) (by kernel_rfl) (fun _ _ _ h => h) (Or.inl ⟨by rfl, fun wS hSw => by (try dsimp only at hSw); have c0 := hSw.1.cell 0 rfl; have c1 := hSw.1.cell 1 rfl; have c2 := hSw.1.cell 2 rfl; have c3 := hSw.1.cell 3 rfl; clear hSw; go_simp; rfl⟩) hHeld ?_
    try simp only [Act.put, List.setIfInBounds_toArray, List.set_cons_zero, List.set_cons_succ]
    refine wpAnyH_ready (rs := [1]) (by kernel_rfl) (by simp) ?_
    refine (AllReadyH.cons (get_ops _ _ _ rfl) (fun K hK => ?_) AllReadyH.nil)
    go_simp
    refine (HSM.out y1).mono ?_
    rintro e y2 ⟨rfl, hb⟩
    have E_y2 : Hid (BK 23 y2 w.heap.size (rcC r)) := Lib.hid (E_y1.out.step hb)
    have B_y2 : Hid (Below w.heap.size w y2) := Lib.hid ((stepB B_y1.out hb))
    clear E_y1 B_y1
    clear hHeld hb
    go_wp2_with fail
    refine hK.out _ _ ⟨E_y2.out, B_y2.out⟩ (fun hHeld => ?_)
    clear hK K
    try simp only [Act.put, List.setIfInBounds_toArray, List.set_cons_zero, List.set_cons_succ]
    refine wpAnyH_take (i := 2) (v := (.bool true)) (get_ops _ _ _ rfl) (by kernel_rfl) (by kernel_rfl) (by kernel_rfl) (fun _ _ _ h => h) (Or.inl ⟨by rfl, fun wS hSw => by (try dsimp only at hSw); go_simp⟩) hHeld ?_
    try simp only [Act.put, List.setIfInBounds_toArray, List.set_cons_zero, List.set_cons_succ]
    refine wpAnyH_take (i := 3) (v := (.bool true)) (get_ops _ _ _ rfl) (by kernel_rfl) (by kernel_rfl) (by kernel_rfl) (fun _ _ _ h => h) (Or.inl ⟨by rfl, fun wS hSw => by (try dsimp only at hSw); go_simp⟩) hHeld ?_
    try simp only [Act.put, List.setIfInBounds_toArray, List.set_cons_zero, List.set_cons_succ]
    refine wpAnyH_take (i := 4) (v := undef) (get_ops _ _ _ rfl) (by kernel_rfl) (by kernel_rfl) (by kernel_rfl) (fun _ _ _ h => h) (Or.inr ⟨by rfl, rfl⟩) hHeld ?_
    try simp only [Act.put, List.setIfInBounds_toArray, List.set_cons_zero, List.set_cons_succ]
    refine wpAnyH_take (i := 5) (v := undef) (get_ops _ _ _ rfl) (by kernel_rfl) (by kernel_rfl) (by kernel_rfl) (fun _ _ _ h => h) (Or.inr ⟨by rfl, rfl⟩) hHeld ?_
    try simp only [Act.put, List.setIfInBounds_toArray, List.set_cons_zero, List.set_cons_succ]
    refine wpAnyH_take (i := 6) (v := undef) (get_ops _ _ _ rfl) (by kernel_rfl) (by kernel_rfl) (by kernel_rfl) (fun _ _ _ h => h) (Or.inr ⟨by rfl, rfl⟩) hHeld ?_
    try simp only [Act.put, List.setIfInBounds_toArray, List.set_cons_zero, List.set_cons_succ]
    refine wpAnyH_take (i := 7) (v := undef) (get_ops _ _ _ rfl) (by kernel_rfl) (by kernel_rfl) (by kernel_rfl) (fun _ _ _ h => h) (Or.inr ⟨by rfl, rfl⟩) hHeld ?_
    try simp only [Act.put, List.setIfInBounds_toArray, List.set_cons_zero, List.set_cons_succ]
    refine wpAnyH_take (i := 8) (v := undef) (get_ops _ _ _ rfl) (by kernel_rfl) (by kernel_rfl) (by kernel_rfl) (fun _ _ _ h => h) (Or.inr ⟨by rfl, rfl⟩) hHeld ?_
    try simp only [Act.put, List.setIfInBounds_toArray, List.set_cons_zero, List.set_cons_succ]
    refine wpAnyH_take (i := 9) (v := (.bool true)) (get_ops _ _ _ rfl) (by kernel_rfl) (by kernel_rfl) (by kernel_rfl) (fun _ _ _ h => h) (Or.inl ⟨by rfl, fun wS hSw => by (try dsimp only at hSw); go_simp⟩) hHeld ?_
    try simp only [Act.put, List.setIfInBounds_toArray, List.set_cons_zero, List.set_cons_succ]
    refine wpAnyH_take (i := 10) (v := (.bool true)) (get_ops _ _ _ rfl) (by kernel_rfl) (by kernel_rfl) (by kernel_rfl) (fun _ _ _ h => h) (Or.inl ⟨by rfl, fun wS hSw => by (try dsimp only at hSw); go_simp⟩) hHeld ?_
    try simp only [Act.put, List.setIfInBounds_toArray, List.set_cons_zero, List.set_cons_succ]
    refine wpAnyH_ready (rs := [11]) (by kernel_rfl) (by simp) ?_
    refine (AllReadyH.cons (get_ops _ _ _ rfl) (fun K hK => ?_) AllReadyH.nil)
    go_simp
    refine (awake31_any y2).mono ?_
    rintro e y3 ⟨rfl, hb⟩
    have E_y3 : Hid (BK 23 y3 w.heap.size (rcC r)) := Lib.hid (E_y2.out.step hb)
    have B_y3 : Hid (Below w.heap.size w y3) := Lib.hid ((stepB B_y2.out hb))
    clear E_y2 B_y2
    clear hHeld hb
    go_wp2_with fail
    refine hK.out _ _ ⟨E_y3.out, B_y3.out⟩ (fun hHeld => ?_)
    clear hK K
    try simp only [Act.put, List.setIfInBounds_toArray, List.set_cons_zero, List.set_cons_succ]
    refine wpAnyH_take (i := 12) (v := (.bool true)) (get_ops _ _ _ rfl) (by kernel_rfl) (by kernel_rfl) (by kernel_rfl) (fun _ _ _ h => h) (Or.inl ⟨by rfl, fun wS hSw => by (try dsimp only at hSw); go_simp⟩) hHeld ?_
    try simp only [Act.put, List.setIfInBounds_toArray, List.set_cons_zero, List.set_cons_succ]
    refine wpAnyH_take (i := 13) (v := (.bool true)) (get_ops _ _ _ rfl) (by kernel_rfl) (by kernel_rfl) (by kernel_rfl) (fun _ _ _ h => h) (Or.inl ⟨by rfl, fun wS hSw => by (try dsimp only at hSw); go_simp⟩) hHeld ?_
    try simp only [Act.put, List.setIfInBounds_toArray, List.set_cons_zero, List.set_cons_succ]
    refine wpAnyH_done (by kernel_rfl) ?_ _
    go_wp2_with fail
    go_ret
    exact ⟨rfl, B_y3.out⟩
  · go_enter Try.func3, Try.ntmps3
    go_upto_region 1 with fail
    refine name_world (C := fun w1 => Code.wp _ _ _ _ w1) (w.alloc (.cells (rcC r).toArray 23)) ?_
    intro w1 hw1
    have hb1 : Below w.heap.size w w1 := by rw [hw1]; exact S2.below_new w _
    have E_w1 : Hid (BK 23 w1 w.heap.size (rcC r)) := Lib.hid (by rw [hw1]; exact BK.new w _ _)
    have B_w1 := Lib.hid hb1
    clear hw1 hb1
    obtain ⟨y1, hy1⟩ : ∃ y1, y1 = World.drew w1 := ⟨_, rfl⟩
    have hbD : Below w1.heap.size w1 y1 := by rw [hy1]; exact (Below.refl _ _).drew
    have E_y1 : Hid (BK 23 y1 w.heap.size (rcC r)) := Lib.hid (E_w1.out.step hbD)
    have B_y1 : Hid (Below w.heap.size w y1) := Lib.hid ((stepB B_w1.out hbD))
    clear E_w1 B_w1
    have hbd : (fun w' => BK 23 w' w.heap.size (rcC r) ∧ Below w.heap.size w w') (World.drew w1) := by rw [← hy1]; exact ⟨E_y1.out, B_y1.out⟩
    have hSD : (fun w' => BK 23 w' w.heap.size (rcC r) ∧ Below w.heap.size w w') y1 := ⟨E_y1.out, B_y1.out⟩
    have HWD := Lib.hid hy1
    clear hy1 hbD
    refine wp_region_held_drew (S := fun w' => BK 23 w' w.heap.size (rcC r) ∧ Below w.heap.size w w') (by kernel_rfl) hbd (fun hHeld => ?_)
    rw [← HWD.out]
    clear hHeld
    have hHeld := hSD
    clear hSD hbd HWD
    refine wpAnyH_take (i := 0) (v := (rcV r)) (get_ops _ _ _ rfl) (by kernel_rfl) (by kernel_rfl) (by kernel_rfl) (fun _ _ _ h => h) (Or.inl ⟨by rfl, fun wS hSw => by (try dsimp only at hSw); have c0 := hSw.1.cell 0 rfl; have c1 := hSw.1.cell 1 rfl; have c2 := hSw.1.cell 2 rfl; have c3 := hSw.1.cell 3 rfl; clear hSw; go_simp; rfl⟩) hHeld ?_
    try simp only [Act.put, List.setIfInBounds_toArray, List.set_cons_zero, List.set_cons_succ]
    refine wpAnyH_ready (rs := [1]) (by kernel_rfl) (by simp) ?_
    refine (AllReadyH.cons (get_ops _ _ _ rfl) (fun K hK => ?_) AllReadyH.nil)
    go_simp
    refine (HSM.out y1).mono ?_
    rintro e y2 ⟨rfl, hb⟩
    have E_y2 : Hid (BK 23 y2 w.heap.size (rcC r)) := Lib.hid (E_y1.out.step hb)
    have B_y2 : Hid (Below w.heap.size w y2) := Lib.hid ((stepB B_y1.out hb))
    clear E_y1 B_y1
    clear hHeld hb
    go_wp2_with fail
    refine hK.out _ _ ⟨E_y2.out, B_y2.out⟩ (fun hHeld => ?_)
    clear hK K
    try simp only [Act.put, List.setIfInBounds_toArray, List.set_cons_zero, List.set_cons_succ]
    refine wpAnyH_take (i := 2) (v := (.bool false)) (get_ops _ _ _ rfl) (by kernel_rfl) (by kernel_rfl) (by kernel_rfl) (fun _ _ _ h => h) (Or.inl ⟨by rfl, fun wS hSw => by (try dsimp only at hSw); go_simp⟩) hHeld ?_
    try simp only [Act.put, List.setIfInBounds_toArray, List.set_cons_zero, List.set_cons_succ]
    refine wpAnyH_take (i := 3) (v := (.bool false)) (get_ops _ _ _ rfl) (by kernel_rfl) (by kernel_rfl) (by kernel_rfl) (fun _ _ _ h => h) (Or.inl ⟨by rfl, fun wS hSw => by (try dsimp only at hSw); go_simp⟩) hHeld ?_
    try simp only [Act.put, List.setIfInBounds_toArray, List.set_cons_zero, List.set_cons_succ]
    refine wpAnyH_take (i := 4) (v := (rcV r)) (get_ops _ _ _ rfl) (by kernel_rfl) (by kernel_rfl) (by kernel_rfl) (fun _ _ _ h => h) (Or.inl ⟨by rfl, fun wS hSw => by (try dsimp only at hSw); have c0 := hSw.1.cell 0 rfl; have c1 := hSw.1.cell 1 rfl; have c2 := hSw.1.cell 2 rfl; have c3 := hSw.1.cell 3 rfl; clear hSw; go_simp; rfl⟩) hHeld ?_
    try simp only [Act.put, List.setIfInBounds_toArray, List.set_cons_zero, List.set_cons_succ]
    refine wpAnyH_take (i := 6) (v := (rcV r)) (get_ops _ _ _ rfl) (by kernel_rfl) (by kernel_rfl) (by kernel_rfl) (fun _ _ _ h => h) (Or.inl ⟨by rfl, fun wS hSw => by (try dsimp only at hSw); have c0 := hSw.1.cell 0 rfl; have c1 := hSw.1.cell 1 rfl; have c2 := hSw.1.cell 2 rfl; have c3 := hSw.1.cell 3 rfl; clear hSw; go_simp; rfl⟩) hHeld ?_
    try simp only [Act.put, List.setIfInBounds_toArray, List.set_cons_zero, List.set_cons_succ]
    refine wpAnyH_ready (rs := [5]) (by kernel_rfl) (by simp) ?_
    refine (AllReadyH.cons (get_ops _ _ _ rfl) (fun K hK => ?_) AllReadyH.nil)
    go_simp
    refine (HC.out y2).mono ?_
    rintro e y3 ⟨rfl, hb⟩
    have E_y3 : Hid (BK 23 y3 w.heap.size (rcC r)) := Lib.hid (E_y2.out.step hb)
    have B_y3 : Hid (Below w.heap.size w y3) := Lib.hid ((stepB B_y2.out hb))
    clear E_y2 B_y2
    clear hHeld hb
    go_wp2_with fail
    refine hK.out _ _ ⟨E_y3.out, B_y3.out⟩ (fun hHeld => ?_)
    clear hK K
    try simp only [Act.put, List.setIfInBounds_toArray, List.set_cons_zero, List.set_cons_succ]
    refine wpAnyH_ready (rs := [7]) (by kernel_rfl) (by simp) ?_
    refine (AllReadyH.cons (get_ops _ _ _ rfl) (fun K hK => ?_) AllReadyH.nil)
    go_simp
    refine (HR.out y3).mono ?_
    rintro e y4 ⟨rfl, hb⟩
    have E_y4 : Hid (BK 23 y4 w.heap.size (rcC r)) := Lib.hid (E_y3.out.step hb)
    have B_y4 : Hid (Below w.heap.size w y4) := Lib.hid ((stepB B_y3.out hb))
    clear E_y3 B_y3
    clear hHeld hb
    go_wp2_with fail
    refine hK.out _ _ ⟨E_y4.out, B_y4.out⟩ (fun hHeld => ?_)
    clear hK K
    try simp only [Act.put, List.setIfInBounds_toArray, List.set_cons_zero, List.set_cons_succ]
    refine wpAnyH_take (i := 8) (v := (.bool true)) (get_ops _ _ _ rfl) (by kernel_rfl) (by kernel_rfl) (by kernel_rfl) (fun _ _ _ h => h) (Or.inl ⟨by rfl, fun wS hSw => by (try dsimp only at hSw); go_simp⟩) hHeld ?_
    try simp only [Act.put, List.setIfInBounds_toArray, List.set_cons_zero, List.set_cons_succ]
    refine wpAnyH_take (i := 9) (v := (.bool true)) (get_ops _ _ _ rfl) (by kernel_rfl) (by kernel_rfl) (by kernel_rfl) (fun _ _ _ h => h) (Or.inl ⟨by rfl, fun wS hSw => by (try dsimp only at hSw); go_simp⟩) hHeld ?_
    try simp only [Act.put, List.setIfInBounds_toArray, List.set_cons_zero, List.set_cons_succ]
    refine wpAnyH_take (i := 10) (v := (.bool true)) (get_ops _ _ _ rfl) (by kernel_rfl) (by kernel_rfl) (by kernel_rfl) (fun _ _ _ h => h) (Or.inl ⟨by rfl, fun wS hSw => by (try dsimp only at hSw); go_simp⟩) hHeld ?_
    try simp only [Act.put, List.setIfInBounds_toArray, List.set_cons_zero, List.set_cons_succ]
    refine wpAnyH_ready (rs := [11]) (by kernel_rfl) (by simp) ?_
    refine (AllReadyH.cons (get_ops _ _ _ rfl) (fun K hK => ?_) AllReadyH.nil)
    go_simp
    refine (awake31_any y4).mono ?_
    rintro e y5 ⟨rfl, hb⟩
    have E_y5 : Hid (BK 23 y5 w.heap.size (rcC r)) := Lib.hid (E_y4.out.step hb)
    have B_y5 : Hid (Below w.heap.size w y5) := Lib.hid ((stepB B_y4.out hb))
    clear E_y4 B_y4
    clear hHeld hb
    go_wp2_with fail
    refine hK.out _ _ ⟨E_y5.out, B_y5.out⟩ (fun hHeld => ?_)
    clear hK K
    try simp only [Act.put, List.setIfInBounds_toArray, List.set_cons_zero, List.set_cons_succ]
    refine wpAnyH_take (i := 12) (v := (.bool true)) (get_ops _ _ _ rfl) (by kernel_rfl) (by kernel_rfl) (by kernel_rfl) (fun _ _ _ h => h) (Or.inl ⟨by rfl, fun wS hSw => by (try dsimp only at hSw); go_simp⟩) hHeld ?_
    try simp only [Act.put, List.setIfInBounds_toArray, List.set_cons_zero, List.set_cons_succ]
    refine wpAnyH_take (i := 13) (v := (.bool true)) (get_ops _ _ _ rfl) (by kernel_rfl) (by kernel_rfl) (by kernel_rfl) (fun _ _ _ h => h) (Or.inl ⟨by rfl, fun wS hSw => by (try dsimp only at hSw); go_simp⟩) hHeld ?_
    try simp only [Act.put, List.setIfInBounds_toArray, List.set_cons_zero, List.set_cons_succ]
    refine wpAnyH_done (by kernel_rfl) ?_ _
    go_wp2_with fail
    go_ret
    exact ⟨rfl, B_y5.out⟩

set_option maxRecDepth 20000 in
set_option maxHeartbeats 8000000 in
theorem recordEncodes_walk (r : Rc) (w : World) (hz : r.key.size ≤ 9223372036854775807 ∧ r.val.size ≤ 9223372036854775807) :
    Calls Try.prog 4 #[rcV r] w fun e w' => e = .returned (.bool true) ∧ Below w.heap.size w w' := by
  have HSM := Lib.hid (fun w => rSmall_any r w hz)
  by_cases hs : r.key.size ≤ 5000 ∧ r.val.size ≤ 5000
  · have HE := Lib.hid (fun w => rcEncode_any r w hz)
    have HR := Lib.hid (fun w => rrEncode_any r w hs)
    have HZ := Lib.hid (fun w => rcSize_any r w hz)
    rw [show (decide (r.key.size ≤ 5000) && decide (r.val.size ≤ 5000)) = true by simp [hs]] at HSM
    have HL : Hid ((rcEnc r).length ≤ 5000) := Lib.hid (by by_cases h : rcCk r = 0; have := rcEnc_len h; omega; rw [rcEnc_bad h]; simp)
    unfold RetRE at HE HR
    generalize rcEnc r = T at *
    generalize rcCk r = ck at *
    clear hs hz
    unfold rcV
    go_enter Try.func4, Try.ntmps4
    go_upto_region 1 with fail
    refine name_world (C := fun w1 => Code.wp _ _ _ _ w1) (w.alloc (.cells (rcC r).toArray 23)) ?_
    intro w1 hw1
    have hb1 : Below w.heap.size w w1 := by rw [hw1]; exact S2.below_new w _
    have E_w1 : Hid (BK 23 w1 w.heap.size (rcC r)) := Lib.hid (by rw [hw1]; exact BK.new w _ _)
    have B_w1 := Lib.hid hb1
    clear hw1 hb1
    have k0 := E_w1.out.cell 0 rfl
    have k1 := E_w1.out.cell 1 rfl
    have k2 := E_w1.out.cell 2 rfl
    have k3 := E_w1.out.cell 3 rfl
    go_wp2_with fail
    refine (HSM.out w1).mono ?_
    rintro e y1 ⟨rfl, hb⟩
    clear k0 k1 k2 k3
    have E_y1 : Hid (BK 23 y1 w.heap.size (rcC r)) := Lib.hid (E_w1.out.step hb)
    have B_y1 : Hid (Below w.heap.size w y1) := Lib.hid ((stepB B_w1.out hb))
    clear E_w1 B_w1
    clear hb
    have k0 := E_y1.out.cell 0 rfl
    have k1 := E_y1.out.cell 1 rfl
    have k2 := E_y1.out.cell 2 rfl
    have k3 := E_y1.out.cell 3 rfl
    go_wp2_with fail
    refine (HE.out y1).mono ?_
    rintro e y2 ⟨v3, rfl, own3, hb⟩
    clear k0 k1 k2 k3
    have E_y2 : Hid (BK 23 y2 w.heap.size (rcC r)) := Lib.hid (E_y1.out.step hb)
    have B_y2 : Hid (Below w.heap.size w y2) := Lib.hid ((stepB B_y1.out hb))
    clear E_y1 B_y1
    obtain ⟨A3, c3, rfl, _, sl3⟩ := own3.ret
    have L_y2 : Hid (CL bv y2 y2.heap.size A3 T) := Lib.hid (sl3)
    clear own3 sl3
    clear hb
    have k0 := E_y2.out.cell 0 rfl
    have k1 := E_y2.out.cell 1 rfl
    have k2 := E_y2.out.cell 2 rfl
    have k3 := E_y2.out.cell 3 rfl
    go_wp2_with fail
    refine (HR.out y2).mono ?_
    rintro e y3 ⟨v4, rfl, own4, hb⟩
    clear k0 k1 k2 k3
    have E_y3 : Hid (BK 23 y3 w.heap.size (rcC r)) := Lib.hid (E_y2.out.step hb)
    have B_y3 : Hid (Below w.heap.size w y3) := Lib.hid ((stepB B_y2.out hb))
    have L_y3 : Hid (CL bv y3 y3.heap.size A3 T) := Lib.hid (L_y2.out.step hb)
    clear E_y2 B_y2 L_y2
    obtain ⟨A4, c4, rfl, _, sl4⟩ := own4.ret
    have M_y3 : Hid (CL bv y3 y3.heap.size A4 T) := Lib.hid (sl4)
    clear own4 sl4
    clear hb
    go_wp2_with fail
    refine (same_self31 (c := c3) (c' := c4) L_y3.out M_y3.out).mono ?_
    rintro e y0 ⟨rfl, rfl⟩
    have k0 := E_y3.out.cell 0 rfl
    have k1 := E_y3.out.cell 1 rfl
    have k2 := E_y3.out.cell 2 rfl
    have k3 := E_y3.out.cell 3 rfl
    go_wp2_with fail
    refine (HZ.out y3).mono ?_
    rintro e y4 ⟨rfl, hb⟩
    clear k0 k1 k2 k3
    have E_y4 : Hid (BK 23 y4 w.heap.size (rcC r)) := Lib.hid (E_y3.out.step hb)
    have B_y4 : Hid (Below w.heap.size w y4) := Lib.hid ((stepB B_y3.out hb))
    have L_y4 : Hid (CL bv y4 y4.heap.size A3 T) := Lib.hid (L_y3.out.step hb)
    have M_y4 : Hid (CL bv y4 y4.heap.size A4 T) := Lib.hid (M_y3.out.step hb)
    clear E_y3 B_y3 L_y3 M_y3
    clear hb
    go_wp2_with fail
    refine (awake31_any y4).mono ?_
    rintro e y5 ⟨rfl, hb⟩
    have E_y5 : Hid (BK 23 y5 w.heap.size (rcC r)) := Lib.hid (E_y4.out.step hb)
    have B_y5 : Hid (Below w.heap.size w y5) := Lib.hid ((stepB B_y4.out hb))
    have L_y5 : Hid (CL bv y5 y5.heap.size A3 T) := Lib.hid (L_y4.out.step hb)
    have M_y5 : Hid (CL bv y5 y5.heap.size A4 T) := Lib.hid (M_y4.out.step hb)
    clear E_y4 B_y4 L_y4 M_y4
    clear hb
    go_wp2_with fail
    go_ret
    exact ⟨rfl, B_y5.out⟩
  · rw [show (decide (r.key.size ≤ 5000) && decide (r.val.size ≤ 5000)) = false by simp; omega] at HSM
    clear hs hz
    unfold rcV
    go_enter Try.func4, Try.ntmps4
    go_upto_region 1 with fail
    refine name_world (C := fun w1 => Code.wp _ _ _ _ w1) (w.alloc (.cells (rcC r).toArray 23)) ?_
    intro w1 hw1
    have hb1 : Below w.heap.size w w1 := by rw [hw1]; exact S2.below_new w _
    have E_w1 : Hid (BK 23 w1 w.heap.size (rcC r)) := Lib.hid (by rw [hw1]; exact BK.new w _ _)
    have B_w1 := Lib.hid hb1
    clear hw1 hb1
    have k0 := E_w1.out.cell 0 rfl
    have k1 := E_w1.out.cell 1 rfl
    have k2 := E_w1.out.cell 2 rfl
    have k3 := E_w1.out.cell 3 rfl
    go_wp2_with fail
    refine (HSM.out w1).mono ?_
    rintro e y1 ⟨rfl, hb⟩
    clear k0 k1 k2 k3
    have E_y1 : Hid (BK 23 y1 w.heap.size (rcC r)) := Lib.hid (E_w1.out.step hb)
    have B_y1 : Hid (Below w.heap.size w y1) := Lib.hid ((stepB B_w1.out hb))
    clear E_w1 B_w1
    clear hb
    go_wp2_with fail
    refine (awake31_any y1).mono ?_
    rintro e y2 ⟨rfl, hb⟩
    have E_y2 : Hid (BK 23 y2 w.heap.size (rcC r)) := Lib.hid (E_y1.out.step hb)
    have B_y2 : Hid (Below w.heap.size w y2) := Lib.hid ((stepB B_y1.out hb))
    clear E_y1 B_y1
    clear hb
    go_wp2_with fail
    go_ret
    exact ⟨rfl, B_y2.out⟩

set_option maxRecDepth 20000 in
set_option maxHeartbeats 8000000 in
theorem recordDecodes_walk (A : Option Addr) (c : Nat) (l : List UInt8) (p : Int) (w : World) (hsl : CL bv w w.heap.size A l) (hc : l.length ≤ c) (hn : l.length ≤ 140737488355328) (hp1 : -9223372036854775808 ≤ p) (hp2 : p ≤ 9223372036854775807) :
    Calls Try.prog 5 #[.slice A l.length c, .int .i64 p] w fun e w' => e = .returned (.bool true) ∧ Below w.heap.size w w' := by
  by_cases h5 : 5000 < l.length
  · clear hsl
    go_enter Try.func5, Try.ntmps5
    go_wp2_with fail
    refine (awake31_any w).mono ?_
    rintro e w2 ⟨rfl, hb⟩
    go_wp2_with fail
    go_ret
    exact ⟨rfl, hb⟩
  have HD := Lib.hid (fun w h => rcDecode_any A c l p hp1 hp2 w h hc hn)
  have HR := Lib.hid (fun w h => rrDecode_any A c l p hp1 hp2 w h hc hn)
  have S_w := Lib.hid hsl
  have B_w := Lib.hid (Below.refl w.heap.size w)
  unfold RetRD at HD HR
  generalize rcDec l p = q at *
  obtain ⟨R, nx, er⟩ := q
  dsimp only at HD HR
  clear hsl hc hn hp1 hp2
  go_enter Try.func5, Try.ntmps5
  go_wp2_with fail
  refine (HD.out w S_w.out).mono ?_
  rintro e y1 ⟨rfl, hb⟩
  have S_y1 : Hid (CL bv y1 y1.heap.size A l) := Lib.hid (S_w.out.step hb)
  have B_y1 : Hid (Below w.heap.size w y1) := Lib.hid ((stepB B_w.out hb))
  clear S_w B_w
  clear hb
  go_wp2_with first
    | (refine S2.wpList_store_all (by rfl) 23 (.tmp 5) (.tmp 19) rfl rfl (y1.heap.size) rfl (rcC R) rfl 23 (rcC rcZ) (BK.new y1 _ _) rcSize rfl (rcC_one _) ?_; intro y2 hM hP; have hb : Below y1.heap.size y1 y2 := hP.below (S2.below_new y1 _) (Nat.le_refl _); have S_y2 : Hid (CL bv y2 y2.heap.size A l) := Lib.hid (S_y1.out.step hb); have B_y2 : Hid (Below w.heap.size w y2) := Lib.hid ((stepB B_y1.out hb)); have E_y2 : Hid (BK 23 y2 (y1.heap.size) (rcC R)) := Lib.hid hM; clear hM hP hb S_y1 B_y1)
  refine (HR.out y2 S_y2.out).mono ?_
  rintro e y3 ⟨rfl, hb⟩
  have S_y3 : Hid (CL bv y3 y3.heap.size A l) := Lib.hid (S_y2.out.step hb)
  have B_y3 : Hid (Below w.heap.size w y3) := Lib.hid ((stepB B_y2.out hb))
  have E_y3 : Hid (BK 23 y3 (y1.heap.size) (rcC R)) := Lib.hid (E_y2.out.step hb)
  clear S_y2 B_y2 E_y2
  clear hb
  go_upto_region 5 with first
    | (refine S2.wpList_store_all (by rfl) 23 (.tmp 8) (.tmp 26) rfl rfl (y3.heap.size) rfl (rcC R) rfl 23 (rcC rcZ) (BK.new y3 _ _) rcSize rfl (rcC_one _) ?_; intro y4 hM hP; have hb : Below y3.heap.size y3 y4 := hP.below (S2.below_new y3 _) (Nat.le_refl _); have S_y4 : Hid (CL bv y4 y4.heap.size A l) := Lib.hid (S_y3.out.step hb); have B_y4 : Hid (Below w.heap.size w y4) := Lib.hid ((stepB B_y3.out hb)); have E_y4 : Hid (BK 23 y4 (y1.heap.size) (rcC R)) := Lib.hid (E_y3.out.step hb); have M_y4 : Hid (BK 23 y4 (y3.heap.size) (rcC R)) := Lib.hid hM; clear hM hP hb S_y3 B_y3 E_y3)
  have k0 := E_y4.out.cell 0 rfl
  have k1 := E_y4.out.cell 1 rfl
  have k2 := E_y4.out.cell 2 rfl
  have k3 := E_y4.out.cell 3 rfl
  have m0 := M_y4.out.cell 0 rfl
  have m1 := M_y4.out.cell 1 rfl
  have m2 := M_y4.out.cell 2 rfl
  have m3 := M_y4.out.cell 3 rfl
  have heq := eqRc_self R.off R.kind R.key R.val
  have hgd := guardRc
  go_wp2_with fail
  refine (awake31_any y4).mono ?_
  rintro e y5 ⟨rfl, hb⟩
  clear k0 k1 k2 k3 m0 m1 m2 m3
  have S_y5 : Hid (CL bv y5 y5.heap.size A l) := Lib.hid (S_y4.out.step hb)
  have B_y5 : Hid (Below w.heap.size w y5) := Lib.hid ((stepB B_y4.out hb))
  have E_y5 : Hid (BK 23 y5 (y1.heap.size) (rcC R)) := Lib.hid (E_y4.out.step hb)
  have M_y5 : Hid (BK 23 y5 (y3.heap.size) (rcC R)) := Lib.hid (M_y4.out.step hb)
  clear S_y4 B_y4 E_y4 M_y4
  clear hb
  go_wp2_with fail
  go_ret
  exact ⟨rfl, B_y5.out⟩
end Go.Proofs.Ytbmeimpfehjnfab
