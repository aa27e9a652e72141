/-
  What Decode of record answers: parse, then Decode. Conditions: the place fits an int; so many bytes fit a slice.
-/
import Derived.Test.YtbmeimpfehjnfaaRcS
import Derived.Deep.RegionHeld3
namespace Go.Proofs.Ytbmeimpfehjnfaa
open Go.RowKit
open S2 (BK Put get_ops exec_load)

/-- what parse answers: the record counts only without an error -/
def RetPa (r : Rc × Int) (W : World) (e : Ending) (w' : World) : Prop := ∃ r' : Rc, e = .returned (.tuple #[rcV r', .int .i64 r.2]) ∧ Below W.heap.size W w' ∧ (r.2 = 0 → r' = r.1)

set_option maxRecDepth 20000 in
set_option maxHeartbeats 8000000 in
theorem rcParse_any (A : Option Addr) (c : Nat) (T : List UInt8) (w : World) (hsl : CL bv w w.heap.size A T) (hc : T.length ≤ c) (hn : T.length ≤ 140737488355328) :
    Calls Try.prog 48 #[.slice A T.length c] w (RetPa (rcRd T) w) := by
  have HS := Lib.hid hsl
  have F0 := Lib.hid (numR_fit hn 0)
  have HC0 := Lib.hid (fun w1 h => num_any A c T 0 (by decide) (by decide) w1 w.heap.size h hc hn)
  generalize h0 : numR T 0 = a0 at *
  obtain ⟨n0, p0, e0⟩ := a0
  have F1 := Lib.hid (numR_fit hn p0)
  have HC1 := Lib.hid (fun w1 h => num_any A c T p0 F0.out.1.1 F0.out.1.2 w1 w.heap.size h hc hn)
  generalize h1 : numR T p0 = a1 at *
  obtain ⟨n1, p1, e1⟩ := a1
  have F2 := Lib.hid (textR_fit hn p1 64)
  have HC2 := Lib.hid (fun w1 h => text_any A c T p1 64 F1.out.1.1 F1.out.1.2 w1 w.heap.size h hc hn)
  generalize h2 : textR T p1 64 = a2 at *
  obtain ⟨s2, p2, e2⟩ := a2
  have F3 := Lib.hid (textR_fit hn p2 4096)
  have HC3 := Lib.hid (fun w1 h => text_any A c T p2 4096 F2.out.1.1 F2.out.1.2 w1 w.heap.size h hc hn)
  generalize h3 : textR T p2 4096 = a3 at *
  obtain ⟨s3, p3, e3⟩ := a3
  unfold tri at HC0 HC1
  unfold triS at HC2 HC3
  dsimp only at *
  obtain ⟨ck, hce⟩ : ∃ x, rcCk ⟨n0, n1, s2, s3⟩ = x := ⟨_, rfl⟩
  have HCK := Lib.hid (fun w => rcCheck_any ⟨n0, n1, s2, s3⟩ w (by have h1 := F2.out.2; have h2 := F3.out.2; dsimp only at *; omega))
  rw [hce] at HCK
  have HP : Hid (rcRd T = if e0 ≠ 0 then (rcZ, e0) else if e1 ≠ 0 then (rcZ, e1) else if e2 ≠ 0 then (rcZ, e2) else if e3 ≠ 0 then (rcZ, e3) else if p3 < (T.length : Int) then (rcZ, 2) else if ck ≠ 0 then (rcZ, ck) else (⟨n0, n1, s2, s3⟩, 0)) := Lib.hid (by unfold rcRd; simp only [h0, h1, h2, h3, hce])
  obtain ⟨RES, hRES⟩ : ∃ r, rcRd T = r := ⟨_, rfl⟩
  rw [hRES]
  have HR2 := Lib.hid (hRES.symm.trans HP.out)
  clear hRES HP hce h0 h1 h2 h3 F0 F1 F2 F3 hc hsl
  go_enter Try.func48, Try.ntmps48
  go_upto_region 1 with fail
  refine name_world (C := fun w1 => Code.wp _ _ _ _ w1) (w.alloc (.cells (rcC rcZ).toArray 32)) ?_
  intro w1 hw1
  have B1 := Lib.hid (show Below w.heap.size w w1 by rw [hw1]; exact S2.below_new w _)
  have E1 : Hid (BK 32 w1 w.heap.size (rcC rcZ)) := Lib.hid (by rw [hw1]; exact BK.new w _ _)
  have Z1 : Hid (w1.heap.size = w.heap.size + 1) := Lib.hid (by rw [hw1]; simp)
  have S1 : Hid (CL bv w1 w.heap.size A T) := Lib.hid (HS.out.below B1.out)
  clear hw1
  go_upto_region 2 with fail
  refine name_world (C := fun w1 => Code.wp _ _ _ _ w1) (w1.alloc (.cells (rcC rcZ).toArray 32)) ?_
  intro w3 hw3
  have hb3 : Below w1.heap.size w1 w3 := by rw [hw3]; exact S2.below_new w1 _
  have B3 := Lib.hid (stepB B1.out hb3)
  have E3 := Lib.hid (E1.out.step hb3)
  have M3 : Hid (BK 32 w3 (w.heap.size + 1) (rcC rcZ)) := Lib.hid (by rw [hw3, ← Z1.out]; exact BK.new w1 _ _)
  have S3 : Hid (CL bv w3 w.heap.size A T) := Lib.hid (HS.out.below B3.out)
  simp only [Z1.out]
  clear hw3 hb3 B1 E1 S1 Z1 HS
  go_upto_region 4 with fail
  go_wp2_with fail
  refine (HC0.out w3 S3.out).mono ?_
  rintro e w' ⟨rfl, rfl⟩
  have q0 := M3.out.cell 0 rfl
  have z0 := M3.out.free 0
  go_upto_region 5 with fail
  refine name_world (C := fun w1 => Code.wp _ _ _ _ w1) (w3.setCell ⟨w.heap.size + 1, 0, none⟩ (.int .i64 n0)) ?_
  intro w4 hw
  have E4 : Hid (BK 32 w4 w.heap.size (rcC rcZ)) := Lib.hid (by rw [hw]; exact E3.out.other (by show w.heap.size ≠ w.heap.size + 1; omega) _)
  have M4 : Hid (BK 32 w4 (w.heap.size + 1) (rcC ⟨n0, 0, ⟨#[]⟩, ⟨#[]⟩⟩)) := Lib.hid (by rw [hw]; exact M3.out.set 0 _)
  have S4 : Hid (CL bv w4 w.heap.size A T) := Lib.hid (by rw [hw]; exact S3.out.below (Below.setCell (p := ⟨w.heap.size + 1, 0, none⟩) (Below.refl w.heap.size _) (Nat.le_succ _) _))
  have B4 : Hid (Below w.heap.size w w4) := Lib.hid (by rw [hw]; exact Below.setCell (p := ⟨w.heap.size + 1, 0, none⟩) B3.out (Nat.le_succ _) _)
  clear hw q0 z0 E3 M3 S3 B3 HC0
  by_cases hc0 : e0 ≠ 0
  · obtain rfl : RES = (rcZ, e0) := by rw [HR2.out, if_pos hc0]
    have q1 : (e0 != 0) = true := by simp [hc0]
    have m0 := M4.out.cell 0 rfl
    have m1 := M4.out.cell 1 rfl
    have m2 := M4.out.cell 2 rfl
    have m3 := M4.out.cell 3 rfl
    go_wp2_with (refine S2.wpList_store_all (by rfl) 32 (.tmp 2) (.tmp 17) rfl rfl (w.heap.size) (by first | rfl | go_simp) (rcC ⟨n0, 0, ⟨#[]⟩, ⟨#[]⟩⟩) (by first | rfl | go_simp) 32 (rcC rcZ) E4.out rcSize rfl (rcC_one _) ?_; intro w90 hM hP; have E9 : Hid (BK 32 w90 w.heap.size (rcC ⟨n0, 0, ⟨#[]⟩, ⟨#[]⟩⟩)) := Lib.hid hM; have B9 := Lib.hid (hP.below B4.out (Nat.le_refl _)); clear hM hP)
    exact bodyPost_ret (v := .tuple #[rcV ⟨n0, 0, ⟨#[]⟩, ⟨#[]⟩⟩, .int .i64 e0]) (S2.res_cell_tmp rfl _ _ w.heap.size 32 (rcC ⟨n0, 0, ⟨#[]⟩, ⟨#[]⟩⟩) _ _ rfl rfl E9.out Try.underlying32 rfl rcSize) rfl ⟨_, rfl, B9.out, fun h => absurd h (by assumption)⟩
  obtain rfl : e0 = 0 := by omega
  go_wp2_with fail
  refine (HC1.out w4 S4.out).mono ?_
  rintro e w' ⟨rfl, rfl⟩
  have q0 := M4.out.cell 1 rfl
  have z0 := M4.out.free 1
  go_upto_region 8 with fail
  refine name_world (C := fun w1 => Code.wp _ _ _ _ w1) (w4.setCell ⟨w.heap.size + 1, 1, none⟩ (.int .i64 n1)) ?_
  intro w5 hw
  have E5 : Hid (BK 32 w5 w.heap.size (rcC rcZ)) := Lib.hid (by rw [hw]; exact E4.out.other (by show w.heap.size ≠ w.heap.size + 1; omega) _)
  have M5 : Hid (BK 32 w5 (w.heap.size + 1) (rcC ⟨n0, n1, ⟨#[]⟩, ⟨#[]⟩⟩)) := Lib.hid (by rw [hw]; exact M4.out.set 1 _)
  have S5 : Hid (CL bv w5 w.heap.size A T) := Lib.hid (by rw [hw]; exact S4.out.below (Below.setCell (p := ⟨w.heap.size + 1, 1, none⟩) (Below.refl w.heap.size _) (Nat.le_succ _) _))
  have B5 : Hid (Below w.heap.size w w5) := Lib.hid (by rw [hw]; exact Below.setCell (p := ⟨w.heap.size + 1, 1, none⟩) B4.out (Nat.le_succ _) _)
  clear hw q0 z0 E4 M4 S4 B4 HC1
  by_cases hc1 : e1 ≠ 0
  · obtain rfl : RES = (rcZ, e1) := by rw [HR2.out, if_neg hc0, if_pos hc1]
    have q1 : (e1 != 0) = true := by simp [hc1]
    have m0 := M5.out.cell 0 rfl
    have m1 := M5.out.cell 1 rfl
    have m2 := M5.out.cell 2 rfl
    have m3 := M5.out.cell 3 rfl
    go_wp2_with (refine S2.wpList_store_all (by rfl) 32 (.tmp 2) (.tmp 29) rfl rfl (w.heap.size) (by first | rfl | go_simp) (rcC ⟨n0, n1, ⟨#[]⟩, ⟨#[]⟩⟩) (by first | rfl | go_simp) 32 (rcC rcZ) E5.out rcSize rfl (rcC_one _) ?_; intro w90 hM hP; have E9 : Hid (BK 32 w90 w.heap.size (rcC ⟨n0, n1, ⟨#[]⟩, ⟨#[]⟩⟩)) := Lib.hid hM; have B9 := Lib.hid (hP.below B5.out (Nat.le_refl _)); clear hM hP)
    exact bodyPost_ret (v := .tuple #[rcV ⟨n0, n1, ⟨#[]⟩, ⟨#[]⟩⟩, .int .i64 e1]) (S2.res_cell_tmp rfl _ _ w.heap.size 32 (rcC ⟨n0, n1, ⟨#[]⟩, ⟨#[]⟩⟩) _ _ rfl rfl E9.out Try.underlying32 rfl rcSize) rfl ⟨_, rfl, B9.out, fun h => absurd h (by assumption)⟩
  obtain rfl : e1 = 0 := by omega
  go_wp2_with fail
  refine (HC2.out w5 S5.out).mono ?_
  rintro e w' ⟨rfl, rfl⟩
  have q0 := M5.out.cell 2 rfl
  have z0 := M5.out.free 2
  go_upto_region 11 with fail
  refine name_world (C := fun w1 => Code.wp _ _ _ _ w1) (w5.setCell ⟨w.heap.size + 1, 2, none⟩ (.string s2)) ?_
  intro w6 hw
  have E6 : Hid (BK 32 w6 w.heap.size (rcC rcZ)) := Lib.hid (by rw [hw]; exact E5.out.other (by show w.heap.size ≠ w.heap.size + 1; omega) _)
  have M6 : Hid (BK 32 w6 (w.heap.size + 1) (rcC ⟨n0, n1, s2, ⟨#[]⟩⟩)) := Lib.hid (by rw [hw]; exact M5.out.set 2 _)
  have S6 : Hid (CL bv w6 w.heap.size A T) := Lib.hid (by rw [hw]; exact S5.out.below (Below.setCell (p := ⟨w.heap.size + 1, 2, none⟩) (Below.refl w.heap.size _) (Nat.le_succ _) _))
  have B6 : Hid (Below w.heap.size w w6) := Lib.hid (by rw [hw]; exact Below.setCell (p := ⟨w.heap.size + 1, 2, none⟩) B5.out (Nat.le_succ _) _)
  clear hw q0 z0 E5 M5 S5 B5 HC2
  by_cases hc2 : e2 ≠ 0
  · obtain rfl : RES = (rcZ, e2) := by rw [HR2.out, if_neg hc0, if_neg hc1, if_pos hc2]
    have q1 : (e2 != 0) = true := by simp [hc2]
    have m0 := M6.out.cell 0 rfl
    have m1 := M6.out.cell 1 rfl
    have m2 := M6.out.cell 2 rfl
    have m3 := M6.out.cell 3 rfl
    go_wp2_with (refine S2.wpList_store_all (by rfl) 32 (.tmp 2) (.tmp 41) rfl rfl (w.heap.size) (by first | rfl | go_simp) (rcC ⟨n0, n1, s2, ⟨#[]⟩⟩) (by first | rfl | go_simp) 32 (rcC rcZ) E6.out rcSize rfl (rcC_one _) ?_; intro w90 hM hP; have E9 : Hid (BK 32 w90 w.heap.size (rcC ⟨n0, n1, s2, ⟨#[]⟩⟩)) := Lib.hid hM; have B9 := Lib.hid (hP.below B6.out (Nat.le_refl _)); clear hM hP)
    exact bodyPost_ret (v := .tuple #[rcV ⟨n0, n1, s2, ⟨#[]⟩⟩, .int .i64 e2]) (S2.res_cell_tmp rfl _ _ w.heap.size 32 (rcC ⟨n0, n1, s2, ⟨#[]⟩⟩) _ _ rfl rfl E9.out Try.underlying32 rfl rcSize) rfl ⟨_, rfl, B9.out, fun h => absurd h (by assumption)⟩
  obtain rfl : e2 = 0 := by omega
  go_wp2_with fail
  refine (HC3.out w6 S6.out).mono ?_
  rintro e w' ⟨rfl, rfl⟩
  have q0 := M6.out.cell 3 rfl
  have z0 := M6.out.free 3
  go_upto_region 14 with fail
  refine name_world (C := fun w1 => Code.wp _ _ _ _ w1) (w6.setCell ⟨w.heap.size + 1, 3, none⟩ (.string s3)) ?_
  intro w7 hw
  have E7 : Hid (BK 32 w7 w.heap.size (rcC rcZ)) := Lib.hid (by rw [hw]; exact E6.out.other (by show w.heap.size ≠ w.heap.size + 1; omega) _)
  have M7 : Hid (BK 32 w7 (w.heap.size + 1) (rcC ⟨n0, n1, s2, s3⟩)) := Lib.hid (by rw [hw]; exact M6.out.set 3 _)
  have S7 : Hid (CL bv w7 w.heap.size A T) := Lib.hid (by rw [hw]; exact S6.out.below (Below.setCell (p := ⟨w.heap.size + 1, 3, none⟩) (Below.refl w.heap.size _) (Nat.le_succ _) _))
  have B7 : Hid (Below w.heap.size w w7) := Lib.hid (by rw [hw]; exact Below.setCell (p := ⟨w.heap.size + 1, 3, none⟩) B6.out (Nat.le_succ _) _)
  clear hw q0 z0 E6 M6 S6 B6 HC3
  by_cases hc3 : e3 ≠ 0
  · obtain rfl : RES = (rcZ, e3) := by rw [HR2.out, if_neg hc0, if_neg hc1, if_neg hc2, if_pos hc3]
    have q1 : (e3 != 0) = true := by simp [hc3]
    have m0 := M7.out.cell 0 rfl
    have m1 := M7.out.cell 1 rfl
    have m2 := M7.out.cell 2 rfl
    have m3 := M7.out.cell 3 rfl
    go_wp2_with (refine S2.wpList_store_all (by rfl) 32 (.tmp 2) (.tmp 53) rfl rfl (w.heap.size) (by first | rfl | go_simp) (rcC ⟨n0, n1, s2, s3⟩) (by first | rfl | go_simp) 32 (rcC rcZ) E7.out rcSize rfl (rcC_one _) ?_; intro w90 hM hP; have E9 : Hid (BK 32 w90 w.heap.size (rcC ⟨n0, n1, s2, s3⟩)) := Lib.hid hM; have B9 := Lib.hid (hP.below B7.out (Nat.le_refl _)); clear hM hP)
    exact bodyPost_ret (v := .tuple #[rcV ⟨n0, n1, s2, s3⟩, .int .i64 e3]) (S2.res_cell_tmp rfl _ _ w.heap.size 32 (rcC ⟨n0, n1, s2, s3⟩) _ _ rfl rfl E9.out Try.underlying32 rfl rcSize) rfl ⟨_, rfl, B9.out, fun h => absurd h (by assumption)⟩
  obtain rfl : e3 = 0 := by omega
  by_cases hpl : p3 < (T.length : Int)
  · obtain rfl : RES = (rcZ, 2) := by rw [HR2.out, if_neg hc0, if_neg hc1, if_neg hc2, if_neg hc3, if_pos hpl]
    have m0 := M7.out.cell 0 rfl
    have m1 := M7.out.cell 1 rfl
    have m2 := M7.out.cell 2 rfl
    have m3 := M7.out.cell 3 rfl
    go_wp2_with (refine S2.wpList_store_all (by rfl) 32 (.tmp 2) (.tmp 59) rfl rfl (w.heap.size) (by first | rfl | go_simp) (rcC ⟨n0, n1, s2, s3⟩) (by first | rfl | go_simp) 32 (rcC rcZ) E7.out rcSize rfl (rcC_one _) ?_; intro w90 hM hP; have E9 : Hid (BK 32 w90 w.heap.size (rcC ⟨n0, n1, s2, s3⟩)) := Lib.hid hM; have B9 := Lib.hid (hP.below B7.out (Nat.le_refl _)); clear hM hP)
    exact bodyPost_ret (v := .tuple #[rcV ⟨n0, n1, s2, s3⟩, .int .i64 2]) (S2.res_cell_tmp rfl _ _ w.heap.size 32 (rcC ⟨n0, n1, s2, s3⟩) _ _ rfl rfl E9.out Try.underlying32 rfl rcSize) rfl ⟨_, rfl, B9.out, fun h => absurd h (by decide)⟩
  obtain ⟨R9, rfl, hR9⟩ : ∃ R9, RES = (R9, ck) ∧ (ck = 0 → R9 = ⟨n0, n1, s2, s3⟩) := by
    rw [HR2.out, if_neg hc0, if_neg hc1, if_neg hc2, if_neg hc3, if_neg hpl]
    by_cases hck : ck ≠ 0
    · exact ⟨rcZ, if_pos hck, fun h => absurd h hck⟩
    · obtain rfl : ck = 0 := by omega
      exact ⟨_, if_neg hck, fun _ => rfl⟩
  have H9 := Lib.hid hR9
  clear hR9 HR2 hc0 hc1 hc2 hc3
  go_upto_region 18 with fail
  have E_w7 := E7
  have M_w7 := M7
  have B_w7 := B7
  clear E7 M7 B7 S7
  obtain ⟨y1, hy1⟩ : ∃ y1, y1 = World.drew w7 := ⟨_, rfl⟩
  have hbD : Below w7.heap.size w7 y1 := by rw [hy1]; exact (Below.refl _ _).drew
  have E_y1 : Hid (BK 32 y1 w.heap.size (rcC rcZ)) := Lib.hid (E_w7.out.step hbD)
  have M_y1 : Hid (BK 32 y1 (w.heap.size + 1) (rcC ⟨n0, n1, s2, s3⟩)) := Lib.hid (M_w7.out.step hbD)
  have B_y1 : Hid (Below w.heap.size w y1) := Lib.hid ((stepB B_w7.out hbD))
  clear E_w7 M_w7 B_w7
  have hbd : (fun w' => BK 32 w' (w.heap.size + 1) (rcC ⟨n0, n1, s2, s3⟩) ∧ Below w.heap.size w w') (World.drew w7) := by rw [← hy1]; exact ⟨M_y1.out, B_y1.out⟩
  have hSD : (fun w' => BK 32 w' (w.heap.size + 1) (rcC ⟨n0, n1, s2, s3⟩) ∧ Below w.heap.size w w') y1 := ⟨M_y1.out, B_y1.out⟩
  have HWD := Lib.hid hy1
  clear hy1 hbD
  refine wp_region_held_drew (S := fun w' => BK 32 w' (w.heap.size + 1) (rcC ⟨n0, n1, s2, s3⟩) ∧ Below w.heap.size w w') (by kernel_rfl) hbd (fun hHeld => ?_)
  rw [← HWD.out]
  clear hHeld
  have hHeld := hSD
  clear hSD hbd HWD
  refine wpAnyH_take (i := 0) (v := (rcV ⟨n0, n1, s2, s3⟩)) (get_ops _ _ _ rfl) (by kernel_rfl) (by kernel_rfl) (by kernel_rfl) (fun _ _ _ h => h) (Or.inl ⟨by rfl, fun wS hSw => by (try dsimp only at hSw); have c0 := hSw.1.cell 0 rfl; have c1 := hSw.1.cell 1 rfl; have c2 := hSw.1.cell 2 rfl; have c3 := hSw.1.cell 3 rfl; clear hSw; go_simp; rfl⟩) hHeld ?_
  try simp only [Act.put, List.setIfInBounds_toArray, List.set_cons_zero, List.set_cons_succ]
  refine wpAnyH_take (i := 1) (v := (rcV ⟨n0, n1, s2, s3⟩)) (get_ops _ _ _ rfl) (by kernel_rfl) (by kernel_rfl) (by kernel_rfl) (fun _ _ _ h => h) (Or.inl ⟨by rfl, fun wS hSw => by (try dsimp only at hSw); have c0 := hSw.1.cell 0 rfl; have c1 := hSw.1.cell 1 rfl; have c2 := hSw.1.cell 2 rfl; have c3 := hSw.1.cell 3 rfl; clear hSw; go_simp; rfl⟩) hHeld ?_
  try simp only [Act.put, List.setIfInBounds_toArray, List.set_cons_zero, List.set_cons_succ]
  refine wpAnyH_ready (rs := [2]) (by kernel_rfl) (by simp) ?_
  refine (AllReadyH.cons (get_ops _ _ _ rfl) (fun K hK => ?_) AllReadyH.nil)
  go_simp
  refine (HCK.out y1).mono ?_
  rintro e y2 ⟨rfl, hb⟩
  have E_y2 : Hid (BK 32 y2 w.heap.size (rcC rcZ)) := Lib.hid (E_y1.out.step hb)
  have M_y2 : Hid (BK 32 y2 (w.heap.size + 1) (rcC ⟨n0, n1, s2, s3⟩)) := Lib.hid (M_y1.out.step hb)
  have B_y2 : Hid (Below w.heap.size w y2) := Lib.hid ((stepB B_y1.out hb))
  clear E_y1 M_y1 B_y1
  clear hHeld hb
  go_wp2_with fail
  refine hK.out _ _ ⟨M_y2.out, B_y2.out⟩ (fun hHeld => ?_)
  clear hK K
  try simp only [Act.put, List.setIfInBounds_toArray, List.set_cons_zero, List.set_cons_succ]
  refine wpAnyH_ready (rs := [3]) (by kernel_rfl) (by simp) ?_
  refine (AllReadyH.cons (get_ops _ _ _ rfl) (fun K hK => ?_) AllReadyH.nil)
  refine S2.wp_store_all 32 _ _ rfl rfl (w.heap.size) (by go_simp) (rcC ⟨n0, n1, s2, s3⟩) (by first | rfl | go_simp) 32 (rcC rcZ) E_y2.out rcSize rfl (rcC_one _) ?_
  intro y3 hM hP
  have E_y3 : Hid (BK 32 y3 (w.heap.size) (rcC ⟨n0, n1, s2, s3⟩)) := Lib.hid (hM)
  have M_y3 : Hid (BK 32 y3 (w.heap.size + 1) (rcC ⟨n0, n1, s2, s3⟩)) := Lib.hid (hP.other M_y2.out (by omega))
  have B_y3 : Hid (Below w.heap.size w y3) := Lib.hid (hP.below B_y2.out (Nat.le_refl _))
  clear E_y2 M_y2 B_y2
  clear hM hP hHeld
  refine hK.out _ _ ⟨M_y3.out, B_y3.out⟩ (fun hHeld => ?_)
  clear hK K
  try simp only [Act.put, List.setIfInBounds_toArray, List.set_cons_zero, List.set_cons_succ]
  refine wpAnyH_take (i := 4) (v := (.int .i64 ck)) (get_ops _ _ _ rfl) (by kernel_rfl) (by kernel_rfl) (by kernel_rfl) (fun _ _ _ h => h) (Or.inl ⟨by rfl, fun wS hSw => by (try dsimp only at hSw); go_simp⟩) hHeld ?_
  try simp only [Act.put, List.setIfInBounds_toArray, List.set_cons_zero, List.set_cons_succ]
  refine wpAnyH_done (by kernel_rfl) ?_ _
  go_wp2_with fail
  exact bodyPost_ret (v := .tuple #[rcV ⟨n0, n1, s2, s3⟩, .int .i64 ck]) (S2.res_cell_tmp rfl _ _ w.heap.size 32 (rcC ⟨n0, n1, s2, s3⟩) _ _ rfl rfl E_y3.out Try.underlying32 rfl rcSize) rfl ⟨_, rfl, B_y3.out, fun h => (H9.out h).symm⟩

set_option maxRecDepth 20000 in
set_option maxHeartbeats 8000000 in
theorem rcDecode_any (A : Option Addr) (c : Nat) (l : List UInt8) (p : Int) (hp1 : -9223372036854775808 ≤ p) (hp2 : p ≤ 9223372036854775807) (w : World) (hsl : CL bv w w.heap.size A l) (hc : l.length ≤ c) (hn : l.length ≤ 140737488355328) :
    Calls Try.prog 35 #[.slice A l.length c, .int .i64 p] w (RetRD (rcDec l p) w) := by
  have HN := Lib.hid (fun w1 h => next_any A c l p hp1 hp2 w1 h hc hn)
  have HS := Lib.hid hsl
  obtain ⟨RES, hRES⟩ : ∃ r, rcDec l p = r := ⟨_, rfl⟩
  rw [hRES]
  unfold rcDec at hRES
  unfold RetN at HN
  have hok : ∀ T nx, nextR l p = (T, nx, 0) → T.length ≤ 65536 := fun T nx h => by obtain ⟨_, _, _, _, _, _, h5, _⟩ := nextR_ok h; exact h5
  generalize nextR l p = q at *
  obtain ⟨T, nx, er⟩ := q
  dsimp only at *
  have HRES := Lib.hid hRES
  clear hsl hp1 hp2 hc hn hRES
  go_enter Try.func35, Try.ntmps35
  go_upto_region 1 with fail
  refine name_world (C := fun w1 => Code.wp _ _ _ _ w1) (w.alloc (.cells (rcC rcZ).toArray 32)) ?_
  intro w1 hw1
  have B1 := Lib.hid (show Below w.heap.size w w1 by rw [hw1]; exact S2.below_new w _)
  have E1 : Hid (BK 32 w1 w.heap.size (rcC rcZ)) := Lib.hid (by rw [hw1]; exact BK.new w _ _)
  clear hw1
  go_wp2_with fail
  refine (HN.out w1 (HS.out.step B1.out)).mono ?_
  rintro e w2 ⟨v2, rfl, own2, hb⟩
  obtain ⟨A2, c2, rfl, hc2, sl2⟩ := own2.ret
  have B2 := Lib.hid (stepB B1.out hb)
  have E2 := Lib.hid (E1.out.step hb)
  have L2 := Lib.hid sl2
  have C2 := Lib.hid hc2
  clear hb own2 sl2 hc2 HN HS B1 E1
  by_cases he : er ≠ 0
  · obtain rfl : RES = (rcZ, 0, er) := by rw [← HRES.out]; exact if_pos he
    have q : (er != 0) = true := by simp [he]
    clear he hok
    go_wp2_with (refine S2.wpList_store_all (by rfl) 32 (.tmp 4) (.tmp 20) rfl rfl (w.heap.size) (by first | rfl | go_simp) (rcC rcZ) (by first | rfl | go_simp) 32 (rcC rcZ) E2.out rcSize rfl (rcC_one _) ?_; intro w90 hM hP; have E9 : Hid (BK 32 w90 w.heap.size (rcC rcZ)) := Lib.hid hM; have B9 := Lib.hid (hP.below B2.out (Nat.le_refl _)); clear hM hP)
    exact bodyPost_ret (v := .tuple #[rcV rcZ, .int .i64 0, .int .i64 er]) (res_ctt rfl _ _ w.heap.size 32 (rcC rcZ) _ _ _ rfl rfl rfl E9.out Try.underlying32 rfl rcSize) rfl ⟨rfl, B9.out⟩
  obtain rfl : er = 0 := by omega
  have hT := hok T nx rfl
  have HPA := Lib.hid (fun w h => rcParse_any A2 c2 T w h C2.out (by omega))
  have hrr := HRES.out
  rw [if_neg he] at hrr
  unfold RetPa at HPA
  generalize rcRd T = y at *
  obtain ⟨rr, ck⟩ := y
  dsimp only at *
  have HRR := Lib.hid hrr
  clear hok he hT HRES hrr
  go_wp2_with fail
  refine (HPA.out w2 L2.out).mono ?_
  rintro e w3 ⟨r', rfl, hb, hr⟩
  have B3 := Lib.hid (stepB B2.out hb)
  have E3 := Lib.hid (E2.out.step hb)
  have HX := Lib.hid hr
  clear hb hr B2 E2 L2 C2 HPA
  go_upto_region 5 with (refine S2.wpList_store_all (by rfl) 32 (.tmp 10) (.tmp 25) rfl rfl (w3.heap.size) (by first | rfl | go_simp) (rcC r') (by first | rfl | go_simp) 32 (rcC rcZ) (BK.new _ _ _) rcSize rfl (rcC_one _) ?_; intro w4 hM hP; have M4 : Hid (BK 32 w4 w3.heap.size (rcC r')) := Lib.hid hM; have E4 : Hid (BK 32 w4 w.heap.size (rcC rcZ)) := Lib.hid (hP.other (E3.out.step (S2.below_new _ _)) (Nat.ne_of_lt E3.out.lt)); have B4 : Hid (Below w.heap.size w w4) := Lib.hid (hP.below (stepB B3.out (S2.below_new _ _)) (Nat.le_of_lt E3.out.lt)); clear hM hP)
  clear B3 E3
  by_cases hck : ck ≠ 0
  · obtain rfl : RES = (rcZ, 0, ck) := by rw [← HRR.out]; exact if_pos hck
    have q : (ck != 0) = true := by simp [hck]
    clear hck
    go_wp2_with (refine S2.wpList_store_all (by rfl) 32 (.tmp 4) (.tmp 29) rfl rfl (w.heap.size) (by first | rfl | go_simp) (rcC rcZ) (by first | rfl | go_simp) 32 (rcC rcZ) E4.out rcSize rfl (rcC_one _) ?_; intro w90 hM hP; have E9 : Hid (BK 32 w90 w.heap.size (rcC rcZ)) := Lib.hid hM; have B9 := Lib.hid (hP.below B4.out (Nat.le_refl _)); clear hM hP)
    exact bodyPost_ret (v := .tuple #[rcV rcZ, .int .i64 0, .int .i64 ck]) (res_ctt rfl _ _ w.heap.size 32 (rcC rcZ) _ _ _ rfl rfl rfl E9.out Try.underlying32 rfl rcSize) rfl ⟨rfl, B9.out⟩
  obtain rfl : ck = 0 := by omega
  obtain rfl : r' = rr := HX.out rfl
  obtain rfl : RES = (r', nx, 0) := by rw [← HRR.out]; exact if_neg hck
  have m0 := M4.out.cell 0 rfl
  have m1 := M4.out.cell 1 rfl
  have m2 := M4.out.cell 2 rfl
  have m3 := M4.out.cell 3 rfl
  go_wp2_with (refine S2.wpList_store_all (by rfl) 32 (.tmp 4) (.tmp 31) rfl rfl (w.heap.size) (by first | rfl | go_simp) (rcC r') (by first | rfl | go_simp) 32 (rcC rcZ) E4.out rcSize rfl (rcC_one _) ?_; intro w90 hM hP; have E9 : Hid (BK 32 w90 w.heap.size (rcC r')) := Lib.hid hM; have B9 := Lib.hid (hP.below B4.out (Nat.le_refl _)); clear hM hP)
  exact bodyPost_ret (v := .tuple #[rcV r', .int .i64 nx, .int .i64 0]) (res_ctt rfl _ _ w.heap.size 32 (rcC r') _ _ _ rfl rfl rfl E9.out Try.underlying32 rfl rcSize) rfl ⟨rfl, B9.out⟩
end Go.Proofs.Ytbmeimpfehjnfaa
