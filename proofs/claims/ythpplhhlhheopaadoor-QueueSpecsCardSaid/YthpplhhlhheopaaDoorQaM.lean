/-
  QueueSpecs answers true, walked. Conditions: the texts fit; the library's bound on short texts holds a number.
-/
import Derived.Test.YthpplhhlhheopaaDoorQaL
namespace Go.Proofs.YthpplhhlhheopaaDoor
open Go.RowKit
open S2 (BK Put get_ops)

set_option maxRecDepth 20000 in
set_option maxHeartbeats 16000000 in
theorem queueSpecs_walk (S0 : Sp) (w : World) (hw : S1.Okw w) (hz : S0.name.size ≤ 9223372036854775807 ∧ S0.dead.size ≤ 9223372036854775807) : Calls Tryd.prog 3 #[spV S0] w fun e w' => e = .returned (.bool true) ∧ Below w.heap.size w w' := by
  have HO := Lib.hid hw
  have HN1 := Lib.hid (fun w1 => qNew_any S0 w1 hz)
  have HN2 := Lib.hid (fun w1 => rqNew_any S0 w1 hz)
  have HC1 := Lib.hid (fun w1 => qCheck_any S0 w1 hz)
  have HC2 := Lib.hid (fun w1 => rqCheck_any S0 w1 hz)
  have HEX := Lib.hid (fun w1 h1 => exHoldsQ_any w1 h1)
  generalize specR S0 = ck at HN1 HN2 HC1 HC2
  generalize hs1 : (if ck = 0 then S0 else Sp.zero) = s1 at HN1 HN2
  generalize hn1 : (if ck = 0 then (1 : Int) else 0) = n1 at HN1 HN2
  have HSM := Lib.hid (fun A c A' c' w1 => rSameQ_any s1 s1 n1 n1 A c ([] : List EE) A' c' ([] : List EE) w1 (LI.nil _ _ _) (LI.nil _ _ _) (by decide) (fun x hx => by cases hx))
  have hd : decide (s1 = s1 ∧ n1 = n1 ∧ ([] : List EE).map EE.x = ([] : List EE).map EE.x) = true := decide_eq_true ⟨rfl, rfl, rfl⟩
  rw [hd] at HSM
  clear hd hs1 hn1 hz hw
  have HSV : Hid (spV S0 = .agg (spC S0).toArray) := Lib.hid rfl
  rw [HSV.out] at HN1 HN2 HC1 HC2 ⊢
  go_enter Tryd.func3, Tryd.ntmps3
  go_upto_region 1 with fail
  refine name_world (C := fun w1 => Code.wp _ _ _ _ w1) (w.alloc (.cells (spC S0).toArray 23)) ?_
  intro w1 hw1
  have hb1 : Below w.heap.size w w1 := by rw [hw1]; exact S2.below_new w _
  have S_w1 : Hid (BK 23 w1 w.heap.size (spC S0)) := Lib.hid (by rw [hw1]; exact BK.new w _ _)
  have B_w1 := Lib.hid hb1
  clear hw1 hb1
  go_wp2_with first
    | (refine wpList_load_v (by rfl) 23 (.tmp 1) rfl ⟨w.heap.size, 0, none⟩ rfl (.agg (spC S0).toArray) (load_sp S_w1.out) ?_)
  refine (HN1.out w1).mono ?_
  rintro e y1 ⟨v1, ys1, rfl, hys, hL, hb⟩
  have B_y1 : Hid (Below w.heap.size w y1) := Lib.hid (stepB B_w1.out hb)
  have S_y1 : Hid (BK 23 y1 w.heap.size (spC S0)) := Lib.hid (S_w1.out.step hb)
  clear B_w1 S_w1
  obtain ⟨A1, c1, rfl, _⟩ := hL.ret gE_len
  obtain rfl := List.map_eq_nil_iff.1 hys
  clear hL hys
  clear hb
  go_upto_region 2 with first
    | (refine S2.wpList_store_all (by rfl) 26 (.tmp 3) (.tmp 10) rfl rfl (y1.heap.size) rfl (quC s1 n1 (.slice A1 ([] : List EE).length c1)) rfl 26 _ (BK.new y1 _ _) quSize rfl (ones rfl) ?_; intro y2 hM hP; have hb : Below y1.heap.size y1 y2 := hP.below (S2.below_new y1 _) (Nat.le_refl _); have B_y2 : Hid (Below w.heap.size w y2) := Lib.hid (stepB B_y1.out hb); have S_y2 : Hid (BK 23 y2 w.heap.size (spC S0)) := Lib.hid (S_y1.out.step hb); have A_y2 : Hid (BK 26 y2 (y1.heap.size) (quC s1 n1 (.slice A1 ([] : List EE).length c1))) := Lib.hid hM; clear hM hP hb B_y1 S_y1)
  obtain ⟨gA, hgA⟩ : ∃ gA, gA = y1.heap.size := ⟨_, rfl⟩
  rw [← hgA] at A_y2
  try rw [← hgA]
  clear hgA
  go_wp2_with first
    | (refine wpList_load_v (by rfl) 23 (.tmp 1) rfl ⟨w.heap.size, 0, none⟩ rfl (.agg (spC S0).toArray) (load_sp S_y2.out) ?_)
  refine (HN2.out y2).mono ?_
  rintro e y3 ⟨v2, ys2, rfl, hys, hL, hb⟩
  have B_y3 : Hid (Below w.heap.size w y3) := Lib.hid (stepB B_y2.out hb)
  have S_y3 : Hid (BK 23 y3 w.heap.size (spC S0)) := Lib.hid (S_y2.out.step hb)
  have A_y3 : Hid (BK 26 y3 gA (quC s1 n1 (.slice A1 ([] : List EE).length c1))) := Lib.hid (A_y2.out.step hb)
  clear B_y2 S_y2 A_y2
  obtain ⟨A2, c2, rfl, _⟩ := hL.ret gE_len
  obtain rfl := List.map_eq_nil_iff.1 hys
  clear hL hys
  clear hb
  go_upto_region 3 with first
    | (refine S2.wpList_store_all (by rfl) 26 (.tmp 5) (.tmp 15) rfl rfl (y3.heap.size) rfl (quC s1 n1 (.slice A2 ([] : List EE).length c2)) rfl 26 _ (BK.new y3 _ _) quSize rfl (ones rfl) ?_; intro y4 hM hP; have hb : Below y3.heap.size y3 y4 := hP.below (S2.below_new y3 _) (Nat.le_refl _); have B_y4 : Hid (Below w.heap.size w y4) := Lib.hid (stepB B_y3.out hb); have S_y4 : Hid (BK 23 y4 w.heap.size (spC S0)) := Lib.hid (S_y3.out.step hb); have A_y4 : Hid (BK 26 y4 gA (quC s1 n1 (.slice A1 ([] : List EE).length c1))) := Lib.hid (A_y3.out.step hb); have D_y4 : Hid (BK 26 y4 (y3.heap.size) (quC s1 n1 (.slice A2 ([] : List EE).length c2))) := Lib.hid hM; clear hM hP hb B_y3 S_y3 A_y3)
  obtain ⟨gD, hgD⟩ : ∃ gD, gD = y3.heap.size := ⟨_, rfl⟩
  rw [← hgD] at D_y4
  try rw [← hgD]
  clear hgD
  obtain ⟨y5, hy5⟩ : ∃ y5, y5 = World.drew y4 := ⟨_, rfl⟩
  have hbD : Below y4.heap.size y4 y5 := by rw [hy5]; exact (Below.refl _ _).drew
  have B_y5 : Hid (Below w.heap.size w y5) := Lib.hid (stepB B_y4.out hbD)
  have S_y5 : Hid (BK 23 y5 w.heap.size (spC S0)) := Lib.hid (S_y4.out.step hbD)
  have A_y5 : Hid (BK 26 y5 gA (quC s1 n1 (.slice A1 ([] : List EE).length c1))) := Lib.hid (A_y4.out.step hbD)
  have D_y5 : Hid (BK 26 y5 gD (quC s1 n1 (.slice A2 ([] : List EE).length c2))) := Lib.hid (D_y4.out.step hbD)
  clear B_y4 S_y4 A_y4 D_y4
  have hbd : (fun w' => BK 23 w' w.heap.size (spC S0) ∧ BK 26 w' gA (quC s1 n1 (.slice A1 ([] : List EE).length c1)) ∧ BK 26 w' gD (quC s1 n1 (.slice A2 ([] : List EE).length c2))) (World.drew y4) := by rw [← hy5]; exact ⟨S_y5.out, A_y5.out, D_y5.out⟩
  have hSD : (fun w' => BK 23 w' w.heap.size (spC S0) ∧ BK 26 w' gA (quC s1 n1 (.slice A1 ([] : List EE).length c1)) ∧ BK 26 w' gD (quC s1 n1 (.slice A2 ([] : List EE).length c2))) y5 := ⟨S_y5.out, A_y5.out, D_y5.out⟩
  have HWD := Lib.hid hy5
  clear hy5 hbD
  refine wp_region_held_drew (S := fun w' => BK 23 w' w.heap.size (spC S0) ∧ BK 26 w' gA (quC s1 n1 (.slice A1 ([] : List EE).length c1)) ∧ BK 26 w' gD (quC s1 n1 (.slice A2 ([] : List EE).length c2))) (by kernel_rfl) hbd (fun hHeld => ?_)
  rw [← HWD.out]
  clear hHeld
  have hHeld := hSD
  clear hSD hbd HWD
  refine wpAnyH_take (i := 0) (v := (.agg (spC S0).toArray)) (get_ops _ _ _ rfl) (by kernel_rfl) (by kernel_rfl) (by kernel_rfl) (fun _ _ _ h => h) (Or.inl ⟨by rfl, fun wS hSw => by (try dsimp only at hSw); exact exec_load 23 _ rfl ⟨w.heap.size, 0, none⟩ (by go_simp) _ (load_sp hSw.1)⟩) hHeld ?_
  try simp only [Act.put, List.setIfInBounds_toArray, List.set_cons_zero, List.set_cons_succ]
  refine wpAnyH_take (i := 2) (v := (.agg (spC S0).toArray)) (get_ops _ _ _ rfl) (by kernel_rfl) (by kernel_rfl) (by kernel_rfl) (fun _ _ _ h => h) (Or.inl ⟨by rfl, fun wS hSw => by (try dsimp only at hSw); exact exec_load 23 _ rfl ⟨w.heap.size, 0, none⟩ (by go_simp) _ (load_sp hSw.1)⟩) hHeld ?_
  try simp only [Act.put, List.setIfInBounds_toArray, List.set_cons_zero, List.set_cons_succ]
  refine wpAnyH_ready (rs := [1]) (by kernel_rfl) (by simp) ?_
  refine (AllReadyH.cons (get_ops _ _ _ rfl) (fun K hK => ?_) AllReadyH.nil)
  go_simp
  refine (HC1.out y5).mono ?_
  rintro e y6 ⟨rfl, hb⟩
  have B_y6 : Hid (Below w.heap.size w y6) := Lib.hid (stepB B_y5.out hb)
  have S_y6 : Hid (BK 23 y6 w.heap.size (spC S0)) := Lib.hid (S_y5.out.step hb)
  have A_y6 : Hid (BK 26 y6 gA (quC s1 n1 (.slice A1 ([] : List EE).length c1))) := Lib.hid (A_y5.out.step hb)
  have D_y6 : Hid (BK 26 y6 gD (quC s1 n1 (.slice A2 ([] : List EE).length c2))) := Lib.hid (D_y5.out.step hb)
  clear B_y5 S_y5 A_y5 D_y5
  clear hHeld hb
  go_wp2_with fail
  refine hK.out _ _ ⟨S_y6.out, A_y6.out, D_y6.out⟩ (fun hHeld => ?_)
  clear hK K
  try simp only [Act.put, List.setIfInBounds_toArray, List.set_cons_zero, List.set_cons_succ]
  refine wpAnyH_ready (rs := [3]) (by kernel_rfl) (by simp) ?_
  refine (AllReadyH.cons (get_ops _ _ _ rfl) (fun K hK => ?_) AllReadyH.nil)
  go_simp
  refine (HC2.out y6).mono ?_
  rintro e y7 ⟨rfl, hb⟩
  have B_y7 : Hid (Below w.heap.size w y7) := Lib.hid (stepB B_y6.out hb)
  have S_y7 : Hid (BK 23 y7 w.heap.size (spC S0)) := Lib.hid (S_y6.out.step hb)
  have A_y7 : Hid (BK 26 y7 gA (quC s1 n1 (.slice A1 ([] : List EE).length c1))) := Lib.hid (A_y6.out.step hb)
  have D_y7 : Hid (BK 26 y7 gD (quC s1 n1 (.slice A2 ([] : List EE).length c2))) := Lib.hid (D_y6.out.step hb)
  clear B_y6 S_y6 A_y6 D_y6
  clear hHeld hb
  go_wp2_with fail
  refine hK.out _ _ ⟨S_y7.out, A_y7.out, D_y7.out⟩ (fun hHeld => ?_)
  clear hK K
  try simp only [Act.put, List.setIfInBounds_toArray, List.set_cons_zero, List.set_cons_succ]
  refine wpAnyH_take (i := 4) (v := .bool true) (get_ops _ _ _ rfl) (by kernel_rfl) (by kernel_rfl) (by kernel_rfl) (fun _ _ _ h => h) (Or.inl ⟨by rfl, fun wS hSw => by (try dsimp only at hSw); go_simp⟩) hHeld ?_
  try simp only [Act.put, List.setIfInBounds_toArray, List.set_cons_zero, List.set_cons_succ]
  refine wpAnyH_take (i := 5) (v := .bool true) (get_ops _ _ _ rfl) (by kernel_rfl) (by kernel_rfl) (by kernel_rfl) (fun _ _ _ h => h) (Or.inl ⟨by rfl, fun wS hSw => by (try dsimp only at hSw); go_simp⟩) hHeld ?_
  try simp only [Act.put, List.setIfInBounds_toArray, List.set_cons_zero, List.set_cons_succ]
  refine wpAnyH_take (i := 6) (v := .int .i64 (ck : Nat)) (get_ops _ _ _ rfl) (by kernel_rfl) (by kernel_rfl) (by kernel_rfl) (fun _ _ _ h => h) (Or.inl ⟨by rfl, fun wS hSw => by (try dsimp only at hSw); go_simp⟩) hHeld ?_
  try simp only [Act.put, List.setIfInBounds_toArray, List.set_cons_zero, List.set_cons_succ]
  refine wpAnyH_take (i := 7) (v := .int .i64 (ck : Nat)) (get_ops _ _ _ rfl) (by kernel_rfl) (by kernel_rfl) (by kernel_rfl) (fun _ _ _ h => h) (Or.inl ⟨by rfl, fun wS hSw => by (try dsimp only at hSw); go_simp⟩) hHeld ?_
  try simp only [Act.put, List.setIfInBounds_toArray, List.set_cons_zero, List.set_cons_succ]
  refine wpAnyH_take (i := 8) (v := .bool true) (get_ops _ _ _ rfl) (by kernel_rfl) (by kernel_rfl) (by kernel_rfl) (fun _ _ _ h => h) (Or.inl ⟨by rfl, fun wS hSw => by (try dsimp only at hSw); go_simp⟩) hHeld ?_
  try simp only [Act.put, List.setIfInBounds_toArray, List.set_cons_zero, List.set_cons_succ]
  refine wpAnyH_take (i := 9) (v := .bool true) (get_ops _ _ _ rfl) (by kernel_rfl) (by kernel_rfl) (by kernel_rfl) (fun _ _ _ h => h) (Or.inl ⟨by rfl, fun wS hSw => by (try dsimp only at hSw); go_simp⟩) hHeld ?_
  try simp only [Act.put, List.setIfInBounds_toArray, List.set_cons_zero, List.set_cons_succ]
  refine wpAnyH_take (i := 10) (v := .bool true) (get_ops _ _ _ rfl) (by kernel_rfl) (by kernel_rfl) (by kernel_rfl) (fun _ _ _ h => h) (Or.inl ⟨by rfl, fun wS hSw => by (try dsimp only at hSw); go_simp⟩) hHeld ?_
  try simp only [Act.put, List.setIfInBounds_toArray, List.set_cons_zero, List.set_cons_succ]
  refine wpAnyH_take (i := 11) (v := (.agg (quC s1 n1 (.slice A1 ([] : List EE).length c1)).toArray)) (get_ops _ _ _ rfl) (by kernel_rfl) (by kernel_rfl) (by kernel_rfl) (fun _ _ _ h => h) (Or.inl ⟨by rfl, fun wS hSw => by (try dsimp only at hSw); exact exec_load 26 _ rfl ⟨gA, 0, none⟩ (by go_simp) _ (load_qu hSw.2.1)⟩) hHeld ?_
  try simp only [Act.put, List.setIfInBounds_toArray, List.set_cons_zero, List.set_cons_succ]
  refine wpAnyH_take (i := 12) (v := (.agg (quC s1 n1 (.slice A2 ([] : List EE).length c2)).toArray)) (get_ops _ _ _ rfl) (by kernel_rfl) (by kernel_rfl) (by kernel_rfl) (fun _ _ _ h => h) (Or.inl ⟨by rfl, fun wS hSw => by (try dsimp only at hSw); exact exec_load 26 _ rfl ⟨gD, 0, none⟩ (by go_simp) _ (load_qu hSw.2.2)⟩) hHeld ?_
  try simp only [Act.put, List.setIfInBounds_toArray, List.set_cons_zero, List.set_cons_succ]
  refine wpAnyH_ready (rs := [13]) (by kernel_rfl) (by simp) ?_
  refine (AllReadyH.cons (get_ops _ _ _ rfl) (fun K hK => ?_) AllReadyH.nil)
  go_simp
  refine (HSM.out A1 c1 A2 c2 y7).mono ?_
  rintro e y8 ⟨rfl, hb⟩
  have B_y8 : Hid (Below w.heap.size w y8) := Lib.hid (stepB B_y7.out hb)
  have S_y8 : Hid (BK 23 y8 w.heap.size (spC S0)) := Lib.hid (S_y7.out.step hb)
  have A_y8 : Hid (BK 26 y8 gA (quC s1 n1 (.slice A1 ([] : List EE).length c1))) := Lib.hid (A_y7.out.step hb)
  have D_y8 : Hid (BK 26 y8 gD (quC s1 n1 (.slice A2 ([] : List EE).length c2))) := Lib.hid (D_y7.out.step hb)
  clear B_y7 S_y7 A_y7 D_y7
  clear hHeld hb
  go_wp2_with fail
  refine hK.out _ _ ⟨S_y8.out, A_y8.out, D_y8.out⟩ (fun hHeld => ?_)
  clear hK K
  try simp only [Act.put, List.setIfInBounds_toArray, List.set_cons_zero, List.set_cons_succ]
  refine wpAnyH_take (i := 14) (v := .bool true) (get_ops _ _ _ rfl) (by kernel_rfl) (by kernel_rfl) (by kernel_rfl) (fun _ _ _ h => h) (Or.inl ⟨by rfl, fun wS hSw => by (try dsimp only at hSw); go_simp⟩) hHeld ?_
  try simp only [Act.put, List.setIfInBounds_toArray, List.set_cons_zero, List.set_cons_succ]
  refine wpAnyH_take (i := 15) (v := .bool true) (get_ops _ _ _ rfl) (by kernel_rfl) (by kernel_rfl) (by kernel_rfl) (fun _ _ _ h => h) (Or.inl ⟨by rfl, fun wS hSw => by (try dsimp only at hSw); go_simp⟩) hHeld ?_
  try simp only [Act.put, List.setIfInBounds_toArray, List.set_cons_zero, List.set_cons_succ]
  refine wpAnyH_ready (rs := [16]) (by kernel_rfl) (by simp) ?_
  refine (AllReadyH.cons (get_ops _ _ _ rfl) (fun K hK => ?_) AllReadyH.nil)
  go_simp
  refine (HEX.out y8 (HO.out.step B_y8.out)).mono ?_
  rintro e y9 ⟨rfl, hb⟩
  have B_y9 : Hid (Below w.heap.size w y9) := Lib.hid (stepB B_y8.out hb)
  have S_y9 : Hid (BK 23 y9 w.heap.size (spC S0)) := Lib.hid (S_y8.out.step hb)
  have A_y9 : Hid (BK 26 y9 gA (quC s1 n1 (.slice A1 ([] : List EE).length c1))) := Lib.hid (A_y8.out.step hb)
  have D_y9 : Hid (BK 26 y9 gD (quC s1 n1 (.slice A2 ([] : List EE).length c2))) := Lib.hid (D_y8.out.step hb)
  clear B_y8 S_y8 A_y8 D_y8
  clear hHeld hb
  go_wp2_with fail
  refine hK.out _ _ ⟨S_y9.out, A_y9.out, D_y9.out⟩ (fun hHeld => ?_)
  clear hK K
  try simp only [Act.put, List.setIfInBounds_toArray, List.set_cons_zero, List.set_cons_succ]
  refine wpAnyH_take (i := 17) (v := .bool true) (get_ops _ _ _ rfl) (by kernel_rfl) (by kernel_rfl) (by kernel_rfl) (fun _ _ _ h => h) (Or.inl ⟨by rfl, fun wS hSw => by (try dsimp only at hSw); go_simp⟩) hHeld ?_
  try simp only [Act.put, List.setIfInBounds_toArray, List.set_cons_zero, List.set_cons_succ]
  refine wpAnyH_take (i := 18) (v := .bool true) (get_ops _ _ _ rfl) (by kernel_rfl) (by kernel_rfl) (by kernel_rfl) (fun _ _ _ h => h) (Or.inl ⟨by rfl, fun wS hSw => by (try dsimp only at hSw); go_simp⟩) hHeld ?_
  try simp only [Act.put, List.setIfInBounds_toArray, List.set_cons_zero, List.set_cons_succ]
  refine wpAnyH_done (by kernel_rfl) ?_ _
  go_wp2
  go_ret
  exact ⟨rfl, B_y9.out⟩

end Go.Proofs.YthpplhhlhheopaaDoor
