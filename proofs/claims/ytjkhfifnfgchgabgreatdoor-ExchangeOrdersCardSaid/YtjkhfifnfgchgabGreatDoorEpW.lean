/-
  The examples of the chapter, which each law of exchange checks too: they hold. Conditions: the library's bound on short texts holds a number.
-/
import Derived.Test.YtjkhfifnfgchgabGreatDoorEpV
namespace Go.Proofs.YtjkhfifnfgchgabGreatDoor
open Go.RowKit
open S2 (BK Put get_ops)

set_option maxRecDepth 20000 in
set_option maxHeartbeats 8000000 in
theorem example_any (w : World) : Calls Tryz.prog 32 #[] w fun e w' => ∃ v1 v2 ys, e = .returned (.tuple #[.agg #[v1, v2], .bool true]) ∧ ys.map BE.d = exBs ∧ RtN w.heap.size w' v1 exL2 v2 ys ∧ Below w.heap.size w w' := by
  have HM1 : Hid (∀ b ∈ [exB1], b.ml = []) := Lib.hid (fun b h => by simp at h; subst h; rfl)
  have HM2 : Hid (∀ b ∈ [exB1, exB2], b.ml = []) := Lib.hid (fun b h => by simp at h; rcases h with rfl | rfl <;> rfl)
  go_enter Tryz.func32, Tryz.ntmps32
  go_upto_region 1 with fail
  refine name_world (C := fun w1 => Code.wp _ _ _ _ w1) (w.alloc (.cells [.slice none 0 0, .slice none 0 0].toArray 25)) ?_
  intro w1 hw1
  have hb : Below w.heap.size w w1 := by rw [hw1]; exact S2.below_new w _
  have Z_w1 : Hid (BK 25 w1 w.heap.size [.slice none 0 0, .slice none 0 0]) := Lib.hid (by rw [hw1]; exact BK.new w _ _)
  have B_w1 := Lib.hid hb
  clear hw1 hb
  go_wp2_with fail
  refine (stepDe (B := 0) (bs := []) de1 ascE_nil (by decide) (by decide) (fun b h => by cases h) (ys := []) rfl RtN.nil).mono ?_
  rintro e w2 ⟨u0, v0, y0, rfl, hy, hr, hb⟩
  have B_w2 := Lib.hid (stepB B_w1.out hb)
  have Z_w2 := Lib.hid (Z_w1.out.step hb)
  have HOC0 := Lib.hid (rtn_ones hr)
  have R_w2 : Hid (RtN (w.heap.size + 1) w2 u0 [exX1] v0 y0) := Lib.hid (RtN.weak hr Z_w1.out.lt)
  have Y_w2 := Lib.hid hy
  clear hy hr hb B_w1 Z_w1
  have HG : Hid (w.heap.size < w2.heap.size) := Lib.hid Z_w2.out.lt
  go_upto_region 2 with (refine S2.wpList_store_all (by rfl) 25 (.tmp 2) (.tmp 12) rfl rfl w2.heap.size rfl [u0, v0] rfl 25 [.slice none 0 0, .slice none 0 0] (BK.new w2 _ _) rtSize rfl HOC0.out ?_; intro w3 hM hP; have hb := hP.below (S2.below_new w2 _) (Nat.le_refl _); have T_w3 := Lib.hid hM; have B_w3 := Lib.hid (stepB B_w2.out hb); have Z_w3 := Lib.hid (Z_w2.out.step hb); have R_w3 := Lib.hid (RtN.step R_w2.out hb); have Y_w3 := Lib.hid Y_w2.out; clear hM hP hb)
  obtain ⟨g, hg⟩ : ∃ g, g = w2.heap.size := ⟨_, rfl⟩
  rw [← hg] at T_w3 HG
  try rw [← hg]
  clear hg B_w2 Z_w2 R_w2 Y_w2 HOC0
  have HL := Lib.hid (S2.run_load_all T_w3.out Tryz.underlying25 rfl rtSize)
  go_wp2_with (refine wpList_load_v (by rfl) 25 (.tmp 2) rfl ⟨g, 0, none⟩ (by go_simp) (.agg #[u0, v0]) HL.out ?_)
  refine (stepDe de2 (ascE_one _) (by decide) (by decide) (fun b h => by cases h) Y_w3.out R_w3.out).mono ?_
  rintro e w4 ⟨u1, v1, y1, rfl, hy, hr, hb⟩
  have B_w4 := Lib.hid (stepB B_w3.out hb)
  have Z_w4 := Lib.hid (Z_w3.out.step hb)
  have HOC1 := Lib.hid (rtn_ones hr)
  have HOF := Lib.hid (RtN.low hr T_w3.out.lt)
  have R_w4 : Hid (RtN (w.heap.size + 1) w4 u1 exL2 v1 y1) := Lib.hid (RtN.weak hr Z_w3.out.lt)
  have Y_w4 := Lib.hid hy
  have T_w4 := Lib.hid (T_w3.out.step hb)
  clear hy hr hb B_w3 Z_w3 T_w3 R_w3 Y_w3 HL
  go_upto_region 3 with (refine S2.wpList_store_all (by rfl) 25 (.tmp 2) (.tmp 18) rfl rfl g (by go_simp) [u1, v1] rfl 25 [u0, v0] T_w4.out rtSize rfl HOC1.out ?_; intro w5 hM hP; have T_w5 := Lib.hid hM; have B_w5 := Lib.hid (hP.below B_w4.out (Nat.le_of_lt HG.out)); have Z_w5 := Lib.hid (hP.other Z_w4.out (by have := HG.out; omega)); have R_w5 := Lib.hid (RtN.put R_w4.out HOF.out hP); have Y_w5 := Lib.hid Y_w4.out; clear hM hP)
  clear B_w4 Z_w4 R_w4 Y_w4 T_w4 HOF HOC1
  have HL := Lib.hid (S2.run_load_all T_w5.out Tryz.underlying25 rfl rtSize)
  go_wp2_with (refine wpList_load_v (by rfl) 25 (.tmp 2) rfl ⟨g, 0, none⟩ (by go_simp) (.agg #[u1, v1]) HL.out ?_)
  refine (stepBi bi1 asc2 (by decide) (by decide) (fun b h => by cases h) rfl Y_w5.out R_w5.out).mono ?_
  rintro e w6 ⟨u2, v2, y2, rfl, hy, hr, hb⟩
  have B_w6 := Lib.hid (stepB B_w5.out hb)
  have Z_w6 := Lib.hid (Z_w5.out.step hb)
  have HOC2 := Lib.hid (rtn_ones hr)
  have HOF := Lib.hid (RtN.low hr T_w5.out.lt)
  have R_w6 : Hid (RtN (w.heap.size + 1) w6 u2 exL2 v2 y2) := Lib.hid (RtN.weak hr Z_w5.out.lt)
  have Y_w6 := Lib.hid hy
  have T_w6 := Lib.hid (T_w5.out.step hb)
  clear hy hr hb B_w5 Z_w5 T_w5 R_w5 Y_w5 HL
  go_upto_region 4 with (refine S2.wpList_store_all (by rfl) 25 (.tmp 2) (.tmp 24) rfl rfl g (by go_simp) [u2, v2] rfl 25 [u1, v1] T_w6.out rtSize rfl HOC2.out ?_; intro w7 hM hP; have T_w7 := Lib.hid hM; have B_w7 := Lib.hid (hP.below B_w6.out (Nat.le_of_lt HG.out)); have Z_w7 := Lib.hid (hP.other Z_w6.out (by have := HG.out; omega)); have R_w7 := Lib.hid (RtN.put R_w6.out HOF.out hP); have Y_w7 := Lib.hid Y_w6.out; clear hM hP)
  clear B_w6 Z_w6 R_w6 Y_w6 T_w6 HOF HOC2
  have HL := Lib.hid (S2.run_load_all T_w7.out Tryz.underlying25 rfl rtSize)
  go_wp2_with (refine wpList_load_v (by rfl) 25 (.tmp 2) rfl ⟨g, 0, none⟩ (by go_simp) (.agg #[u2, v2]) HL.out ?_)
  refine (stepBi bi2 asc2 (by decide) (by decide) HM1.out rfl Y_w7.out R_w7.out).mono ?_
  rintro e w8 ⟨u3, v3, y3, rfl, hy, hr, hb⟩
  have B_w8 := Lib.hid (stepB B_w7.out hb)
  have Z_w8 := Lib.hid (Z_w7.out.step hb)
  have HOC3 := Lib.hid (rtn_ones hr)
  have HOF := Lib.hid (RtN.low hr T_w7.out.lt)
  have R_w8 : Hid (RtN (w.heap.size + 1) w8 u3 exL2 v3 y3) := Lib.hid (RtN.weak hr Z_w7.out.lt)
  have Y_w8 := Lib.hid hy
  have T_w8 := Lib.hid (T_w7.out.step hb)
  clear hy hr hb B_w7 Z_w7 T_w7 R_w7 Y_w7 HL
  go_upto_region 5 with (refine S2.wpList_store_all (by rfl) 25 (.tmp 2) (.tmp 30) rfl rfl g (by go_simp) [u3, v3] rfl 25 [u2, v2] T_w8.out rtSize rfl HOC3.out ?_; intro w9 hM hP; have T_w9 := Lib.hid hM; have B_w9 := Lib.hid (hP.below B_w8.out (Nat.le_of_lt HG.out)); have Z_w9 := Lib.hid (hP.other Z_w8.out (by have := HG.out; omega)); have R_w9 := Lib.hid (RtN.put R_w8.out HOF.out hP); have Y_w9 := Lib.hid Y_w8.out; clear hM hP)
  clear B_w8 Z_w8 R_w8 Y_w8 T_w8 HOF HOC3
  have HL := Lib.hid (S2.run_load_all T_w9.out Tryz.underlying25 rfl rtSize)
  go_wp2_with (refine wpList_load_v (by rfl) 25 (.tmp 2) rfl ⟨g, 0, none⟩ (by go_simp) (.agg #[u3, v3]) HL.out ?_)
  refine (stepBi bi3 asc2 (by decide) (by decide) HM2.out rfl Y_w9.out R_w9.out).mono ?_
  rintro e w10 ⟨u4, v4, y4, rfl, hy, hr, hb⟩
  have B_w10 := Lib.hid (stepB B_w9.out hb)
  have Z_w10 := Lib.hid (Z_w9.out.step hb)
  have HOC4 := Lib.hid (rtn_ones hr)
  have HOF := Lib.hid (RtN.low hr T_w9.out.lt)
  have R_w10 : Hid (RtN (w.heap.size + 1) w10 u4 exL2 v4 y4) := Lib.hid (RtN.weak hr Z_w9.out.lt)
  have Y_w10 := Lib.hid hy
  have T_w10 := Lib.hid (T_w9.out.step hb)
  clear hy hr hb B_w9 Z_w9 T_w9 R_w9 Y_w9 HL
  go_upto_region 6 with (refine S2.wpList_store_all (by rfl) 25 (.tmp 2) (.tmp 36) rfl rfl g (by go_simp) [u4, v4] rfl 25 [u3, v3] T_w10.out rtSize rfl HOC4.out ?_; intro w11 hM hP; have T_w11 := Lib.hid hM; have B_w11 := Lib.hid (hP.below B_w10.out (Nat.le_of_lt HG.out)); have Z_w11 := Lib.hid (hP.other Z_w10.out (by have := HG.out; omega)); have R_w11 := Lib.hid (RtN.put R_w10.out HOF.out hP); have Y_w11 := Lib.hid Y_w10.out; clear hM hP)
  clear B_w10 Z_w10 R_w10 Y_w10 T_w10 HOF HOC4
  obtain ⟨A1, c1, A2, c2, hv1, hv2, _, _, hel, _, hnl, _⟩ := R_w11.out.ret
  obtain ⟨b, o, hA, hbl, hcl⟩ := EL.at_ (j := 0) hel rfl
  have C_w11 : Hid (w11.cell? ⟨b, o, none⟩ = some (.string ⟨#[120]⟩)) := Lib.hid (by have := hcl 0 _ rfl; simp only [Nat.zero_mul, Nat.add_zero] at this; exact this)
  have HYL : Hid (y4.length = 3) := Lib.hid (len_of Y_w11.out)
  have HBZ : Hid (b < w11.heap.size) := Lib.hid hbl
  subst hA
  have HV1 : Hid (u4 = .slice (some ⟨b, o, none⟩) 2 c1) := Lib.hid hv1
  have HV2 : Hid (v4 = .slice A2 3 c2) := Lib.hid (by rw [hv2, HYL.out])
  have HOC := Lib.hid (rtn_ones R_w11.out)
  have HYS : Hid (y4.map BE.d = exBs) := Lib.hid Y_w11.out
  have HBG : Hid (w.heap.size < b) := Lib.hid (by have := hnl b o rfl; omega)
  have HB9 : b < w11.heap.size := HBZ.out
  clear Y_w11 hv1 hv2 hel hbl hcl hnl HB9
  obtain ⟨x1, hx1⟩ : ∃ x1, x1 = World.drew w11 := ⟨_, rfl⟩
  have hbD : Below w11.heap.size w11 x1 := by rw [hx1]; exact (Below.refl _ _).drew
  have B_x1 : Hid (Below w.heap.size w x1) := Lib.hid (stepB B_w11.out hbD)
  have Z_x1 : Hid (BK 25 x1 w.heap.size [.slice none 0 0, .slice none 0 0]) := Lib.hid (Z_w11.out.step hbD)
  have T_x1 : Hid (BK 25 x1 g [u4, v4]) := Lib.hid (T_w11.out.step hbD)
  have R_x1 : Hid (RtN (w.heap.size + 1) x1 u4 exL2 v4 y4) := Lib.hid (RtN.step R_w11.out hbD)
  have C_x1 : Hid (x1.cell? ⟨b, o, none⟩ = some (.string ⟨#[120]⟩)) := Lib.hid ((World.cell?_of_block (a := ⟨b, o, none⟩) (hbD.block b HBZ.out)).trans C_w11.out)
  clear B_w11 Z_w11 T_w11 R_w11 C_w11
  have hbd : (fun w' => BK 25 w' g [u4, v4] ∧ w'.cell? ⟨b, o, none⟩ = some (.string ⟨#[120]⟩)) (World.drew w11) := by rw [← hx1]; exact ⟨T_x1.out, C_x1.out⟩
  have hSD : (fun w' => BK 25 w' g [u4, v4] ∧ w'.cell? ⟨b, o, none⟩ = some (.string ⟨#[120]⟩)) x1 := ⟨T_x1.out, C_x1.out⟩
  have HWD := Lib.hid hx1
  clear hx1 hbD
  refine wp_region_held_drew (S := fun w' => BK 25 w' g [u4, v4] ∧ w'.cell? ⟨b, o, none⟩ = some (.string ⟨#[120]⟩)) (by kernel_rfl) hbd (fun hHeld => ?_)
  rw [← HWD.out]
  clear hHeld
  have hHeld := hSD
  clear hSD hbd HWD
  refine wpAnyH_take (i := 0) (v := .agg #[u4, v4]) (get_ops _ _ _ rfl) (by kernel_rfl) (by kernel_rfl) (by kernel_rfl) (fun _ _ _ h => h) (Or.inl ⟨by rfl, fun wS hSw => by (try dsimp only at hSw); exact exec_load 25 _ rfl ⟨g, 0, none⟩ (by go_simp) _ (S2.run_load_all hSw.1 Tryz.underlying25 rfl rtSize)⟩) hHeld ?_
  try simp only [Act.put, List.setIfInBounds_toArray, List.set_cons_zero, List.set_cons_succ]
  refine wpAnyH_take (i := 1) (v := .int .i64 0) (get_ops _ _ _ rfl) (by kernel_rfl) (by kernel_rfl) (by kernel_rfl) (fun _ _ _ h => h) (Or.inl ⟨by rfl, fun wS hSw => by (try dsimp only at hSw); go_simp⟩) hHeld ?_
  try simp only [Act.put, List.setIfInBounds_toArray, List.set_cons_zero, List.set_cons_succ]
  refine wpAnyH_take (i := 2) (v := .bool true) (get_ops _ _ _ rfl) (by kernel_rfl) (by kernel_rfl) (by kernel_rfl) (fun _ _ _ h => h) (Or.inl ⟨by rfl, fun wS hSw => by (try dsimp only at hSw); go_simp⟩) hHeld ?_
  try simp only [Act.put, List.setIfInBounds_toArray, List.set_cons_zero, List.set_cons_succ]
  refine wpAnyH_take (i := 3) (v := .bool true) (get_ops _ _ _ rfl) (by kernel_rfl) (by kernel_rfl) (by kernel_rfl) (fun _ _ _ h => h) (Or.inl ⟨by rfl, fun wS hSw => by (try dsimp only at hSw); go_simp⟩) hHeld ?_
  try simp only [Act.put, List.setIfInBounds_toArray, List.set_cons_zero, List.set_cons_succ]
  refine wpAnyH_take (i := 4) (v := .int .i64 0) (get_ops _ _ _ rfl) (by kernel_rfl) (by kernel_rfl) (by kernel_rfl) (fun _ _ _ h => h) (Or.inl ⟨by rfl, fun wS hSw => by (try dsimp only at hSw); go_simp⟩) hHeld ?_
  try simp only [Act.put, List.setIfInBounds_toArray, List.set_cons_zero, List.set_cons_succ]
  refine wpAnyH_take (i := 5) (v := .bool true) (get_ops _ _ _ rfl) (by kernel_rfl) (by kernel_rfl) (by kernel_rfl) (fun _ _ _ h => h) (Or.inl ⟨by rfl, fun wS hSw => by (try dsimp only at hSw); go_simp⟩) hHeld ?_
  try simp only [Act.put, List.setIfInBounds_toArray, List.set_cons_zero, List.set_cons_succ]
  refine wpAnyH_take (i := 6) (v := .bool true) (get_ops _ _ _ rfl) (by kernel_rfl) (by kernel_rfl) (by kernel_rfl) (fun _ _ _ h => h) (Or.inl ⟨by rfl, fun wS hSw => by (try dsimp only at hSw); go_simp⟩) hHeld ?_
  try simp only [Act.put, List.setIfInBounds_toArray, List.set_cons_zero, List.set_cons_succ]
  refine wpAnyH_take (i := 7) (v := .bool true) (get_ops _ _ _ rfl) (by kernel_rfl) (by kernel_rfl) (by kernel_rfl) (fun _ _ _ h => h) (Or.inl ⟨by rfl, fun wS hSw => by (try dsimp only at hSw); go_simp⟩) hHeld ?_
  try simp only [Act.put, List.setIfInBounds_toArray, List.set_cons_zero, List.set_cons_succ]
  refine wpAnyH_take (i := 8) (v := .int .i64 0) (get_ops _ _ _ rfl) (by kernel_rfl) (by kernel_rfl) (by kernel_rfl) (fun _ _ _ h => h) (Or.inl ⟨by rfl, fun wS hSw => by (try dsimp only at hSw); go_simp⟩) hHeld ?_
  try simp only [Act.put, List.setIfInBounds_toArray, List.set_cons_zero, List.set_cons_succ]
  refine wpAnyH_take (i := 9) (v := .bool true) (get_ops _ _ _ rfl) (by kernel_rfl) (by kernel_rfl) (by kernel_rfl) (fun _ _ _ h => h) (Or.inl ⟨by rfl, fun wS hSw => by (try dsimp only at hSw); go_simp⟩) hHeld ?_
  try simp only [Act.put, List.setIfInBounds_toArray, List.set_cons_zero, List.set_cons_succ]
  refine wpAnyH_take (i := 10) (v := .bool true) (get_ops _ _ _ rfl) (by kernel_rfl) (by kernel_rfl) (by kernel_rfl) (fun _ _ _ h => h) (Or.inl ⟨by rfl, fun wS hSw => by (try dsimp only at hSw); go_simp⟩) hHeld ?_
  try simp only [Act.put, List.setIfInBounds_toArray, List.set_cons_zero, List.set_cons_succ]
  refine wpAnyH_take (i := 11) (v := .bool true) (get_ops _ _ _ rfl) (by kernel_rfl) (by kernel_rfl) (by kernel_rfl) (fun _ _ _ h => h) (Or.inl ⟨by rfl, fun wS hSw => by (try dsimp only at hSw); go_simp⟩) hHeld ?_
  try simp only [Act.put, List.setIfInBounds_toArray, List.set_cons_zero, List.set_cons_succ]
  refine wpAnyH_take (i := 12) (v := .int .i64 0) (get_ops _ _ _ rfl) (by kernel_rfl) (by kernel_rfl) (by kernel_rfl) (fun _ _ _ h => h) (Or.inl ⟨by rfl, fun wS hSw => by (try dsimp only at hSw); go_simp⟩) hHeld ?_
  try simp only [Act.put, List.setIfInBounds_toArray, List.set_cons_zero, List.set_cons_succ]
  refine wpAnyH_take (i := 13) (v := .bool true) (get_ops _ _ _ rfl) (by kernel_rfl) (by kernel_rfl) (by kernel_rfl) (fun _ _ _ h => h) (Or.inl ⟨by rfl, fun wS hSw => by (try dsimp only at hSw); go_simp⟩) hHeld ?_
  try simp only [Act.put, List.setIfInBounds_toArray, List.set_cons_zero, List.set_cons_succ]
  refine wpAnyH_take (i := 14) (v := .bool true) (get_ops _ _ _ rfl) (by kernel_rfl) (by kernel_rfl) (by kernel_rfl) (fun _ _ _ h => h) (Or.inl ⟨by rfl, fun wS hSw => by (try dsimp only at hSw); go_simp⟩) hHeld ?_
  try simp only [Act.put, List.setIfInBounds_toArray, List.set_cons_zero, List.set_cons_succ]
  refine wpAnyH_take (i := 15) (v := .bool true) (get_ops _ _ _ rfl) (by kernel_rfl) (by kernel_rfl) (by kernel_rfl) (fun _ _ _ h => h) (Or.inl ⟨by rfl, fun wS hSw => by (try dsimp only at hSw); go_simp⟩) hHeld ?_
  try simp only [Act.put, List.setIfInBounds_toArray, List.set_cons_zero, List.set_cons_succ]
  refine wpAnyH_take (i := 16) (v := .int .i64 0) (get_ops _ _ _ rfl) (by kernel_rfl) (by kernel_rfl) (by kernel_rfl) (fun _ _ _ h => h) (Or.inl ⟨by rfl, fun wS hSw => by (try dsimp only at hSw); go_simp⟩) hHeld ?_
  try simp only [Act.put, List.setIfInBounds_toArray, List.set_cons_zero, List.set_cons_succ]
  refine wpAnyH_take (i := 17) (v := .bool true) (get_ops _ _ _ rfl) (by kernel_rfl) (by kernel_rfl) (by kernel_rfl) (fun _ _ _ h => h) (Or.inl ⟨by rfl, fun wS hSw => by (try dsimp only at hSw); go_simp⟩) hHeld ?_
  try simp only [Act.put, List.setIfInBounds_toArray, List.set_cons_zero, List.set_cons_succ]
  refine wpAnyH_take (i := 18) (v := .bool true) (get_ops _ _ _ rfl) (by kernel_rfl) (by kernel_rfl) (by kernel_rfl) (fun _ _ _ h => h) (Or.inl ⟨by rfl, fun wS hSw => by (try dsimp only at hSw); go_simp⟩) hHeld ?_
  try simp only [Act.put, List.setIfInBounds_toArray, List.set_cons_zero, List.set_cons_succ]
  refine wpAnyH_take (i := 19) (v := .bool true) (get_ops _ _ _ rfl) (by kernel_rfl) (by kernel_rfl) (by kernel_rfl) (fun _ _ _ h => h) (Or.inl ⟨by rfl, fun wS hSw => by (try dsimp only at hSw); go_simp⟩) hHeld ?_
  try simp only [Act.put, List.setIfInBounds_toArray, List.set_cons_zero, List.set_cons_succ]
  refine wpAnyH_take (i := 20) (v := .pointer (some ⟨g, 0, none⟩)) (get_ops _ _ _ rfl) (by kernel_rfl) (by kernel_rfl) (by kernel_rfl) (fun _ _ _ h => h) (Or.inl ⟨by rfl, fun wS hSw => by (try dsimp only at hSw); go_simp⟩) hHeld ?_
  try simp only [Act.put, List.setIfInBounds_toArray, List.set_cons_zero, List.set_cons_succ]
  refine wpAnyH_take (i := 21) (v := .slice (some ⟨b, o, none⟩) 2 c1) (get_ops _ _ _ rfl) (by kernel_rfl) (by kernel_rfl) (by kernel_rfl) (fun _ _ _ h => h) (Or.inl ⟨by rfl, fun wS hSw => by (try dsimp only at hSw); have cS := hSw.1.cell 0 rfl; rw [HV1.out] at cS; clear hSw; go_simp⟩) hHeld ?_
  try simp only [Act.put, List.setIfInBounds_toArray, List.set_cons_zero, List.set_cons_succ]
  refine wpAnyH_take (i := 22) (v := .int .i64 2) (get_ops _ _ _ rfl) (by kernel_rfl) (by kernel_rfl) (by kernel_rfl) (fun _ _ _ h => h) (Or.inl ⟨by rfl, fun wS hSw => by (try dsimp only at hSw); go_simp⟩) hHeld ?_
  try simp only [Act.put, List.setIfInBounds_toArray, List.set_cons_zero, List.set_cons_succ]
  refine wpAnyH_take (i := 23) (v := .bool true) (get_ops _ _ _ rfl) (by kernel_rfl) (by kernel_rfl) (by kernel_rfl) (fun _ _ _ h => h) (Or.inl ⟨by rfl, fun wS hSw => by (try dsimp only at hSw); go_simp⟩) hHeld ?_
  try simp only [Act.put, List.setIfInBounds_toArray, List.set_cons_zero, List.set_cons_succ]
  refine wpAnyH_take (i := 24) (v := .bool true) (get_ops _ _ _ rfl) (by kernel_rfl) (by kernel_rfl) (by kernel_rfl) (fun _ _ _ h => h) (Or.inl ⟨by rfl, fun wS hSw => by (try dsimp only at hSw); go_simp⟩) hHeld ?_
  try simp only [Act.put, List.setIfInBounds_toArray, List.set_cons_zero, List.set_cons_succ]
  refine wpAnyH_take (i := 25) (v := .bool true) (get_ops _ _ _ rfl) (by kernel_rfl) (by kernel_rfl) (by kernel_rfl) (fun _ _ _ h => h) (Or.inl ⟨by rfl, fun wS hSw => by (try dsimp only at hSw); go_simp⟩) hHeld ?_
  try simp only [Act.put, List.setIfInBounds_toArray, List.set_cons_zero, List.set_cons_succ]
  refine wpAnyH_take (i := 26) (v := .pointer (some ⟨g, 0, none⟩)) (get_ops _ _ _ rfl) (by kernel_rfl) (by kernel_rfl) (by kernel_rfl) (fun _ _ _ h => h) (Or.inl ⟨by rfl, fun wS hSw => by (try dsimp only at hSw); go_simp⟩) hHeld ?_
  try simp only [Act.put, List.setIfInBounds_toArray, List.set_cons_zero, List.set_cons_succ]
  refine wpAnyH_take (i := 27) (v := .slice (some ⟨b, o, none⟩) 2 c1) (get_ops _ _ _ rfl) (by kernel_rfl) (by kernel_rfl) (by kernel_rfl) (fun _ _ _ h => h) (Or.inl ⟨by rfl, fun wS hSw => by (try dsimp only at hSw); have cS := hSw.1.cell 0 rfl; rw [HV1.out] at cS; clear hSw; go_simp⟩) hHeld ?_
  try simp only [Act.put, List.setIfInBounds_toArray, List.set_cons_zero, List.set_cons_succ]
  refine wpAnyH_take (i := 28) (v := .pointer (some ⟨b, o, none⟩)) (get_ops _ _ _ rfl) (by kernel_rfl) (by kernel_rfl) (by kernel_rfl) (fun _ _ _ h => h) (Or.inl ⟨by rfl, fun wS hSw => by (try dsimp only at hSw); go_simp⟩) hHeld ?_
  try simp only [Act.put, List.setIfInBounds_toArray, List.set_cons_zero, List.set_cons_succ]
  refine wpAnyH_take (i := 29) (v := .pointer (some ⟨b, o, none⟩)) (get_ops _ _ _ rfl) (by kernel_rfl) (by kernel_rfl) (by kernel_rfl) (fun _ _ _ h => h) (Or.inl ⟨by rfl, fun wS hSw => by (try dsimp only at hSw); go_simp⟩) hHeld ?_
  try simp only [Act.put, List.setIfInBounds_toArray, List.set_cons_zero, List.set_cons_succ]
  refine wpAnyH_take (i := 30) (v := .string ⟨#[120]⟩) (get_ops _ _ _ rfl) (by kernel_rfl) (by kernel_rfl) (by kernel_rfl) (fun _ _ _ h => h) (Or.inl ⟨by rfl, fun wS hSw => by (try dsimp only at hSw); have cS := hSw.2; clear hSw; go_simp⟩) hHeld ?_
  try simp only [Act.put, List.setIfInBounds_toArray, List.set_cons_zero, List.set_cons_succ]
  refine wpAnyH_take (i := 31) (v := .bool true) (get_ops _ _ _ rfl) (by kernel_rfl) (by kernel_rfl) (by kernel_rfl) (fun _ _ _ h => h) (Or.inl ⟨by rfl, fun wS hSw => by (try dsimp only at hSw); go_simp⟩) hHeld ?_
  try simp only [Act.put, List.setIfInBounds_toArray, List.set_cons_zero, List.set_cons_succ]
  refine wpAnyH_take (i := 32) (v := .bool true) (get_ops _ _ _ rfl) (by kernel_rfl) (by kernel_rfl) (by kernel_rfl) (fun _ _ _ h => h) (Or.inl ⟨by rfl, fun wS hSw => by (try dsimp only at hSw); go_simp⟩) hHeld ?_
  try simp only [Act.put, List.setIfInBounds_toArray, List.set_cons_zero, List.set_cons_succ]
  refine wpAnyH_take (i := 33) (v := .bool true) (get_ops _ _ _ rfl) (by kernel_rfl) (by kernel_rfl) (by kernel_rfl) (fun _ _ _ h => h) (Or.inl ⟨by rfl, fun wS hSw => by (try dsimp only at hSw); go_simp⟩) hHeld ?_
  try simp only [Act.put, List.setIfInBounds_toArray, List.set_cons_zero, List.set_cons_succ]
  refine wpAnyH_take (i := 34) (v := .pointer (some ⟨g, 1, none⟩)) (get_ops _ _ _ rfl) (by kernel_rfl) (by kernel_rfl) (by kernel_rfl) (fun _ _ _ h => h) (Or.inl ⟨by rfl, fun wS hSw => by (try dsimp only at hSw); go_simp⟩) hHeld ?_
  try simp only [Act.put, List.setIfInBounds_toArray, List.set_cons_zero, List.set_cons_succ]
  refine wpAnyH_take (i := 35) (v := .slice A2 3 c2) (get_ops _ _ _ rfl) (by kernel_rfl) (by kernel_rfl) (by kernel_rfl) (fun _ _ _ h => h) (Or.inl ⟨by rfl, fun wS hSw => by (try dsimp only at hSw); have cS := hSw.1.cell 1 rfl; rw [HV2.out] at cS; clear hSw; go_simp⟩) hHeld ?_
  try simp only [Act.put, List.setIfInBounds_toArray, List.set_cons_zero, List.set_cons_succ]
  refine wpAnyH_take (i := 36) (v := .int .i64 3) (get_ops _ _ _ rfl) (by kernel_rfl) (by kernel_rfl) (by kernel_rfl) (fun _ _ _ h => h) (Or.inl ⟨by rfl, fun wS hSw => by (try dsimp only at hSw); go_simp⟩) hHeld ?_
  try simp only [Act.put, List.setIfInBounds_toArray, List.set_cons_zero, List.set_cons_succ]
  refine wpAnyH_take (i := 37) (v := .bool true) (get_ops _ _ _ rfl) (by kernel_rfl) (by kernel_rfl) (by kernel_rfl) (fun _ _ _ h => h) (Or.inl ⟨by rfl, fun wS hSw => by (try dsimp only at hSw); go_simp⟩) hHeld ?_
  try simp only [Act.put, List.setIfInBounds_toArray, List.set_cons_zero, List.set_cons_succ]
  refine wpAnyH_take (i := 38) (v := .bool true) (get_ops _ _ _ rfl) (by kernel_rfl) (by kernel_rfl) (by kernel_rfl) (fun _ _ _ h => h) (Or.inl ⟨by rfl, fun wS hSw => by (try dsimp only at hSw); go_simp⟩) hHeld ?_
  try simp only [Act.put, List.setIfInBounds_toArray, List.set_cons_zero, List.set_cons_succ]
  refine wpAnyH_ready (rs := [39]) (by kernel_rfl) (by simp) ?_
  refine (AllReadyH.cons (get_ops _ _ _ rfl) (fun K hK => ?_) AllReadyH.nil)
  refine S2.wp_store_all 25 _ _ rfl rfl (w.heap.size) (by go_simp) [u4, v4] (by first | rfl | go_simp) 25 [.slice none 0 0, .slice none 0 0] Z_x1.out rtSize rfl HOC.out ?_
  intro x2 hM hP
  have B_x2 := Lib.hid (hP.below B_x1.out (Nat.le_refl _))
  have T_x2 := Lib.hid (hP.other T_x1.out (by have := HG.out; omega))
  have R_x2 := Lib.hid (RtN.put R_x1.out (RtN.low R_x1.out (Nat.lt_succ_self _)) hP)
  have C_x2 : Hid (x2.cell? ⟨b, o, none⟩ = some (.string ⟨#[120]⟩)) := Lib.hid ((hP.cell (p := ⟨b, o, none⟩) (by show b ≠ w.heap.size; have := HBG.out; omega)).trans C_x1.out)
  have Z_x2 := Lib.hid hM
  clear hM hP hHeld B_x1 Z_x1 T_x1 R_x1 C_x1
  refine hK.out _ _ ⟨T_x2.out, C_x2.out⟩ (fun hHeld => ?_)
  clear hK K
  try simp only [Act.put, List.setIfInBounds_toArray, List.set_cons_zero, List.set_cons_succ]
  refine wpAnyH_take (i := 40) (v := .bool true) (get_ops _ _ _ rfl) (by kernel_rfl) (by kernel_rfl) (by kernel_rfl) (fun _ _ _ h => h) (Or.inl ⟨by rfl, fun wS hSw => by (try dsimp only at hSw); go_simp⟩) hHeld ?_
  try simp only [Act.put, List.setIfInBounds_toArray, List.set_cons_zero, List.set_cons_succ]
  refine wpAnyH_done (by kernel_rfl) ?_ _
  go_wp2_with fail
  refine bodyPost_ret (v := .tuple #[.agg #[u4, v4], .bool true]) (S2.res_cell_tmp rfl _ _ w.heap.size 25 [u4, v4] _ _ rfl rfl Z_x2.out Tryz.underlying25 rfl rtSize) rfl ?_
  exact ⟨u4, v4, y4, rfl, HYS.out, RtN.weak R_x2.out (Nat.le_succ _), B_x2.out⟩
end Go.Proofs.YtjkhfifnfgchgabGreatDoor
