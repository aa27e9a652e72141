/-
  What Encode of the specification of records answers. Conditions: texts of at most 5000 bytes.
-/
import Derived.Test.YtbmeimpfehjnfaaRcB
import Derived.Deep.RegionHeld3
namespace Go.Proofs.Ytbmeimpfehjnfaa
open Go.RowKit
open S2 (BK get_ops exec_load)

set_option maxRecDepth 20000 in
set_option maxHeartbeats 4000000 in
theorem rrEncode_any (r : Rc) (w : World) (hz : r.key.size ≤ 5000 ∧ r.val.size ≤ 5000) :
    Calls Try.prog 32 #[rcV r] w (RetRE (rcEnc r) (rcCk r) w) := by
  have HC := Lib.hid (fun w => rrCheck_any r w (by omega))
  by_cases h : rcCk r = 0
  · have h0 := rcCk_ok h
    have l1 := (enc_len r.off).2
    have l2 := (enc_len r.kind).2
    have l3 := encT_len r.key
    have l4 := encT_len r.val
    rw [rcEnc_ok h]
    rw [h] at HC ⊢
    have HP1 := Lib.hid (fun w => rPutNum_any none 0 [] r.off (by omega) (by omega) w (CL.nil _ _ _) (by simp))
    simp only [List.nil_append, List.length_nil] at HP1
    have HP2 := Lib.hid (fun A c w hsl => rPutNum_any A c (enc r.off) r.kind (by omega) (by omega) w hsl (by omega))
    have HP3 := Lib.hid (fun A c w hsl => rPutText_any A c (enc r.off ++ enc r.kind) r.key w hsl (by simp only [List.length_append]; omega) (by omega))
    have HP4 := Lib.hid (fun A c w hsl => rPutText_any A c (enc r.off ++ enc r.kind ++ encT r.key) r.val w hsl (by simp only [List.length_append]; omega) (by omega))
    have HW := Lib.hid (fun A c w hsl => rWrap_any A c (enc r.off ++ enc r.kind ++ encT r.key ++ encT r.val) w hsl (by simp only [List.length_append]; omega))
    clear h0 l1 l2 l3 l4 h hz
    generalize enc r.off ++ enc r.kind ++ encT r.key ++ encT r.val = T4 at *
    generalize enc r.off ++ enc r.kind ++ encT r.key = T3 at *
    generalize enc r.off ++ enc r.kind = T2 at *
    generalize enc r.off = T1 at *
    unfold rcV
    go_enter Try.func32, Try.ntmps32
    go_upto_region 1 with fail
    refine name_world (C := fun w1 => Code.wp _ _ _ _ w1) (w.alloc (.cells (rcC r).toArray 32)) ?_
    intro w1 hw1
    have B1 := Lib.hid (show Below w.heap.size w w1 by rw [hw1]; exact S2.below_new w _)
    have E1 : Hid (BK 32 w1 w.heap.size (rcC r)) := Lib.hid (by rw [hw1]; exact BK.new w _ _)
    have k0 := E1.out.cell 0 rfl
    have k1 := E1.out.cell 1 rfl
    have k2 := E1.out.cell 2 rfl
    have k3 := E1.out.cell 3 rfl
    clear hw1
    go_wp2_with fail
    refine (HC.out w1).mono ?_
    rintro e w2 ⟨rfl, hb⟩
    have B2 := Lib.hid (stepB B1.out hb)
    have E2 := Lib.hid (E1.out.step hb)
    have E_w2 := E2
    have B_w2 := B2
    clear hb k0 k1 k2 k3 E2 B2
    go_upto_region 4 with fail
    obtain ⟨y1, hy1⟩ : ∃ y1, y1 = World.drew w2 := ⟨_, rfl⟩
    have hbD : Below w2.heap.size w2 y1 := by rw [hy1]; exact (Below.refl _ _).drew
    have E_y1 : Hid (BK 32 y1 w.heap.size (rcC r)) := Lib.hid (E_w2.out.step hbD)
    have B_y1 : Hid (Below w.heap.size w y1) := Lib.hid ((stepB B_w2.out hbD))
    clear E_w2 B_w2
    have hbd : (fun w' => BK 32 w' w.heap.size (rcC r) ∧ Below w.heap.size w w') (World.drew w2) := by rw [← hy1]; exact ⟨E_y1.out, B_y1.out⟩
    have hSD : (fun w' => BK 32 w' w.heap.size (rcC r) ∧ Below w.heap.size w w') y1 := ⟨E_y1.out, B_y1.out⟩
    have HWD := Lib.hid hy1
    clear hy1 hbD
    refine wp_region_held_drew (S := fun w' => BK 32 w' w.heap.size (rcC r) ∧ Below w.heap.size w w') (by kernel_rfl) hbd (fun hHeld => ?_)
    rw [← HWD.out]
    clear hHeld
    have hHeld := hSD
    clear hSD hbd HWD
    refine wpAnyH_take (i := 0) (v := (.pointer (some ⟨w.heap.size, 0, none⟩))) (get_ops _ _ _ rfl) (by kernel_rfl) (by kernel_rfl) (by kernel_rfl) (fun _ _ _ h => h) (Or.inl ⟨by rfl, fun wS hSw => by (try dsimp only at hSw); go_simp⟩) hHeld ?_
    try simp only [Act.put, List.setIfInBounds_toArray, List.set_cons_zero, List.set_cons_succ]
    refine wpAnyH_take (i := 1) (v := (.int .i64 r.off)) (get_ops _ _ _ rfl) (by kernel_rfl) (by kernel_rfl) (by kernel_rfl) (fun _ _ _ h => h) (Or.inl ⟨by rfl, fun wS hSw => by (try dsimp only at hSw); have cS := hSw.1.cell 0 rfl; clear hSw; go_simp⟩) hHeld ?_
    try simp only [Act.put, List.setIfInBounds_toArray, List.set_cons_zero, List.set_cons_succ]
    refine wpAnyH_take (i := 3) (v := (.pointer (some ⟨w.heap.size, 1, none⟩))) (get_ops _ _ _ rfl) (by kernel_rfl) (by kernel_rfl) (by kernel_rfl) (fun _ _ _ h => h) (Or.inl ⟨by rfl, fun wS hSw => by (try dsimp only at hSw); go_simp⟩) hHeld ?_
    try simp only [Act.put, List.setIfInBounds_toArray, List.set_cons_zero, List.set_cons_succ]
    refine wpAnyH_take (i := 4) (v := (.int .i64 r.kind)) (get_ops _ _ _ rfl) (by kernel_rfl) (by kernel_rfl) (by kernel_rfl) (fun _ _ _ h => h) (Or.inl ⟨by rfl, fun wS hSw => by (try dsimp only at hSw); have cS := hSw.1.cell 1 rfl; clear hSw; go_simp⟩) hHeld ?_
    try simp only [Act.put, List.setIfInBounds_toArray, List.set_cons_zero, List.set_cons_succ]
    refine wpAnyH_ready (rs := [2]) (by kernel_rfl) (by simp) ?_
    refine (AllReadyH.cons (get_ops _ _ _ rfl) (fun K hK => ?_) AllReadyH.nil)
    go_simp
    refine (HP1.out y1).mono ?_
    rintro e y2 ⟨v3, rfl, own3, hb⟩
    have E_y2 : Hid (BK 32 y2 w.heap.size (rcC r)) := Lib.hid (E_y1.out.step hb)
    have B_y2 : Hid (Below w.heap.size w y2) := Lib.hid ((stepB B_y1.out hb))
    clear E_y1 B_y1
    obtain ⟨A3, c3, rfl, _, sl3⟩ := own3.ret
    have L3_y2 : Hid (CL bv y2 y2.heap.size A3 T1) := Lib.hid sl3
    clear sl3 own3
    clear hHeld hb
    go_wp2_with fail
    refine hK.out _ _ ⟨E_y2.out, B_y2.out⟩ (fun hHeld => ?_)
    clear hK K
    try simp only [Act.put, List.setIfInBounds_toArray, List.set_cons_zero, List.set_cons_succ]
    refine wpAnyH_ready (rs := [5]) (by kernel_rfl) (by simp) ?_
    refine (AllReadyH.cons (get_ops _ _ _ rfl) (fun K hK => ?_) AllReadyH.nil)
    go_simp
    refine (HP2.out _ _ y2 L3_y2.out).mono ?_
    rintro e y3 ⟨v4, rfl, own4, hb⟩
    have E_y3 : Hid (BK 32 y3 w.heap.size (rcC r)) := Lib.hid (E_y2.out.step hb)
    have B_y3 : Hid (Below w.heap.size w y3) := Lib.hid ((stepB B_y2.out hb))
    have L3_y3 : Hid (CL bv y3 y3.heap.size A3 T1) := Lib.hid (L3_y2.out.step hb)
    clear E_y2 B_y2 L3_y2
    obtain ⟨A4, c4, rfl, _, sl4⟩ := own4.ret
    have L4_y3 : Hid (CL bv y3 y3.heap.size A4 T2) := Lib.hid sl4
    clear sl4 own4
    clear hHeld hb
    go_wp2_with fail
    refine hK.out _ _ ⟨E_y3.out, B_y3.out⟩ (fun hHeld => ?_)
    clear hK K
    try simp only [Act.put, List.setIfInBounds_toArray, List.set_cons_zero, List.set_cons_succ]
    refine wpAnyH_take (i := 6) (v := (.slice A4 T2.length c4)) (get_ops _ _ _ rfl) (by kernel_rfl) (by kernel_rfl) (by kernel_rfl) (fun _ _ _ h => h) (Or.inl ⟨by rfl, fun wS hSw => by (try dsimp only at hSw); go_simp⟩) hHeld ?_
    try simp only [Act.put, List.setIfInBounds_toArray, List.set_cons_zero, List.set_cons_succ]
    refine wpAnyH_done (by kernel_rfl) ?_ _
    go_upto_region 5 with fail
    obtain ⟨y4, hy4⟩ : ∃ y4, y4 = World.drew y3 := ⟨_, rfl⟩
    have hbD : Below y3.heap.size y3 y4 := by rw [hy4]; exact (Below.refl _ _).drew
    have E_y4 : Hid (BK 32 y4 w.heap.size (rcC r)) := Lib.hid (E_y3.out.step hbD)
    have B_y4 : Hid (Below w.heap.size w y4) := Lib.hid ((stepB B_y3.out hbD))
    have L3_y4 : Hid (CL bv y4 y4.heap.size A3 T1) := Lib.hid (L3_y3.out.step hbD)
    have L4_y4 : Hid (CL bv y4 y4.heap.size A4 T2) := Lib.hid (L4_y3.out.step hbD)
    clear E_y3 B_y3 L3_y3 L4_y3
    have hbd : (fun w' => BK 32 w' w.heap.size (rcC r) ∧ Below w.heap.size w w' ∧ CL bv w' w'.heap.size A4 T2) (World.drew y3) := by rw [← hy4]; exact ⟨E_y4.out, B_y4.out, L4_y4.out⟩
    have hSD : (fun w' => BK 32 w' w.heap.size (rcC r) ∧ Below w.heap.size w w' ∧ CL bv w' w'.heap.size A4 T2) y4 := ⟨E_y4.out, B_y4.out, L4_y4.out⟩
    have HWD := Lib.hid hy4
    clear hy4 hbD
    refine wp_region_held_drew (S := fun w' => BK 32 w' w.heap.size (rcC r) ∧ Below w.heap.size w w' ∧ CL bv w' w'.heap.size A4 T2) (by kernel_rfl) hbd (fun hHeld => ?_)
    rw [← HWD.out]
    clear hHeld
    have hHeld := hSD
    clear hSD hbd HWD
    refine wpAnyH_take (i := 0) (v := (.slice A4 T2.length c4)) (get_ops _ _ _ rfl) (by kernel_rfl) (by kernel_rfl) (by kernel_rfl) (fun _ _ _ h => h) (Or.inl ⟨by rfl, fun wS hSw => by (try dsimp only at hSw); go_simp⟩) hHeld ?_
    try simp only [Act.put, List.setIfInBounds_toArray, List.set_cons_zero, List.set_cons_succ]
    refine wpAnyH_take (i := 1) (v := (.pointer (some ⟨w.heap.size, 2, none⟩))) (get_ops _ _ _ rfl) (by kernel_rfl) (by kernel_rfl) (by kernel_rfl) (fun _ _ _ h => h) (Or.inl ⟨by rfl, fun wS hSw => by (try dsimp only at hSw); go_simp⟩) hHeld ?_
    try simp only [Act.put, List.setIfInBounds_toArray, List.set_cons_zero, List.set_cons_succ]
    refine wpAnyH_take (i := 2) (v := (.string r.key)) (get_ops _ _ _ rfl) (by kernel_rfl) (by kernel_rfl) (by kernel_rfl) (fun _ _ _ h => h) (Or.inl ⟨by rfl, fun wS hSw => by (try dsimp only at hSw); have cS := hSw.1.cell 2 rfl; clear hSw; go_simp⟩) hHeld ?_
    try simp only [Act.put, List.setIfInBounds_toArray, List.set_cons_zero, List.set_cons_succ]
    refine wpAnyH_take (i := 4) (v := (.pointer (some ⟨w.heap.size, 3, none⟩))) (get_ops _ _ _ rfl) (by kernel_rfl) (by kernel_rfl) (by kernel_rfl) (fun _ _ _ h => h) (Or.inl ⟨by rfl, fun wS hSw => by (try dsimp only at hSw); go_simp⟩) hHeld ?_
    try simp only [Act.put, List.setIfInBounds_toArray, List.set_cons_zero, List.set_cons_succ]
    refine wpAnyH_take (i := 5) (v := (.string r.val)) (get_ops _ _ _ rfl) (by kernel_rfl) (by kernel_rfl) (by kernel_rfl) (fun _ _ _ h => h) (Or.inl ⟨by rfl, fun wS hSw => by (try dsimp only at hSw); have cS := hSw.1.cell 3 rfl; clear hSw; go_simp⟩) hHeld ?_
    try simp only [Act.put, List.setIfInBounds_toArray, List.set_cons_zero, List.set_cons_succ]
    refine wpAnyH_ready (rs := [3]) (by kernel_rfl) (by simp) ?_
    refine (AllReadyH.cons (get_ops _ _ _ rfl) (fun K hK => ?_) AllReadyH.nil)
    go_simp
    refine (HP3.out _ _ y4 L4_y4.out).mono ?_
    rintro e y5 ⟨v5, rfl, own5, hb⟩
    have E_y5 : Hid (BK 32 y5 w.heap.size (rcC r)) := Lib.hid (E_y4.out.step hb)
    have B_y5 : Hid (Below w.heap.size w y5) := Lib.hid ((stepB B_y4.out hb))
    have L3_y5 : Hid (CL bv y5 y5.heap.size A3 T1) := Lib.hid (L3_y4.out.step hb)
    have L4_y5 : Hid (CL bv y5 y5.heap.size A4 T2) := Lib.hid (L4_y4.out.step hb)
    clear E_y4 B_y4 L3_y4 L4_y4
    obtain ⟨A5, c5, rfl, _, sl5⟩ := own5.ret
    have L5_y5 : Hid (CL bv y5 y5.heap.size A5 T3) := Lib.hid sl5
    clear sl5 own5
    clear hHeld hb
    go_wp2_with fail
    refine hK.out _ _ ⟨E_y5.out, B_y5.out, L4_y5.out⟩ (fun hHeld => ?_)
    clear hK K
    try simp only [Act.put, List.setIfInBounds_toArray, List.set_cons_zero, List.set_cons_succ]
    refine wpAnyH_ready (rs := [6]) (by kernel_rfl) (by simp) ?_
    refine (AllReadyH.cons (get_ops _ _ _ rfl) (fun K hK => ?_) AllReadyH.nil)
    go_simp
    refine (HP4.out _ _ y5 L5_y5.out).mono ?_
    rintro e y6 ⟨v6, rfl, own6, hb⟩
    have E_y6 : Hid (BK 32 y6 w.heap.size (rcC r)) := Lib.hid (E_y5.out.step hb)
    have B_y6 : Hid (Below w.heap.size w y6) := Lib.hid ((stepB B_y5.out hb))
    have L3_y6 : Hid (CL bv y6 y6.heap.size A3 T1) := Lib.hid (L3_y5.out.step hb)
    have L4_y6 : Hid (CL bv y6 y6.heap.size A4 T2) := Lib.hid (L4_y5.out.step hb)
    have L5_y6 : Hid (CL bv y6 y6.heap.size A5 T3) := Lib.hid (L5_y5.out.step hb)
    clear E_y5 B_y5 L3_y5 L4_y5 L5_y5
    obtain ⟨A6, c6, rfl, _, sl6⟩ := own6.ret
    have L6_y6 : Hid (CL bv y6 y6.heap.size A6 T4) := Lib.hid sl6
    clear sl6 own6
    clear hHeld hb
    go_wp2_with fail
    refine hK.out _ _ ⟨E_y6.out, B_y6.out, L4_y6.out⟩ (fun hHeld => ?_)
    clear hK K
    try simp only [Act.put, List.setIfInBounds_toArray, List.set_cons_zero, List.set_cons_succ]
    refine wpAnyH_take (i := 7) (v := (.slice A6 T4.length c6)) (get_ops _ _ _ rfl) (by kernel_rfl) (by kernel_rfl) (by kernel_rfl) (fun _ _ _ h => h) (Or.inl ⟨by rfl, fun wS hSw => by (try dsimp only at hSw); go_simp⟩) hHeld ?_
    try simp only [Act.put, List.setIfInBounds_toArray, List.set_cons_zero, List.set_cons_succ]
    refine wpAnyH_done (by kernel_rfl) ?_ _
    go_wp2_with fail
    refine (HW.out _ _ y6 L6_y6.out).mono ?_
    rintro e w7 ⟨v7, rfl, own7, hb⟩
    have O7 := Lib.hid (own7.weak B_y6.out.size)
    have B7 := Lib.hid (stepB B_y6.out hb)
    clear own7 hb
    go_wp2_with fail
    go_ret2
    exact ⟨_, rfl, O7.out, B7.out⟩
  · rw [rcEnc_bad h]
    generalize rcCk r = x at *
    unfold rcV
    go_enter Try.func32, Try.ntmps32
    go_upto_region 1 with fail
    refine name_world (C := fun w1 => Code.wp _ _ _ _ w1) (w.alloc (.cells (rcC r).toArray 32)) ?_
    intro w1 hw1
    have B1 := Lib.hid (show Below w.heap.size w w1 by rw [hw1]; exact S2.below_new w _)
    have E1 : Hid (BK 32 w1 w.heap.size (rcC r)) := Lib.hid (by rw [hw1]; exact BK.new w _ _)
    have k0 := E1.out.cell 0 rfl
    have k1 := E1.out.cell 1 rfl
    have k2 := E1.out.cell 2 rfl
    have k3 := E1.out.cell 3 rfl
    clear hw1
    go_wp2_with fail
    refine (HC.out w1).mono ?_
    rintro e w2 ⟨rfl, hb⟩
    have B2 := Lib.hid (stepB B1.out hb)
    clear hb k0 k1 k2 k3
    go_wp2_with fail
    go_ret2
    exact ⟨_, rfl, Own.nil _ _, B2.out⟩

end Go.Proofs.Ytbmeimpfehjnfaa
