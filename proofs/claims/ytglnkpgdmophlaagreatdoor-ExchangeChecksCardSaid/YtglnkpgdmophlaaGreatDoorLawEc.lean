/-
  The law ExchangeChecks: it answers true. Conditions: the library's bound on short texts holds a number; the lists read as data; lengths fit an int.
-/
import Derived.Test.YtglnkpgdmophlaaGreatDoorEpX
namespace Go.Proofs.YtglnkpgdmophlaaGreatDoor
open Go.RowKit
open S2 (BK Put get_ops exec_load)

set_option maxRecDepth 20000 in
set_option maxHeartbeats 4000000 in
theorem exchangeChecks_walk (A1 : Option Addr) (c1 : Nat) (l : List Ex) (A2 : Option Addr) (c2 : Nat) (xs : List BE) (w : World) (ho : S1.Okw w) (h1 : EL w w.heap.size A1 l) (h2 : BI w w.heap.size A2 xs) (hc2 : xs.length ≤ c2) (hz1 : ∀ X ∈ l, SzX X) (hz2 : ∀ X ∈ xs, X.d.ml.length ≤ 4398046511104 ∧ SzB X.d) :
    Calls Tryz.prog 3 #[rtV A1 l.length c1 A2 xs.length c2] w fun e w' => e = .returned (.bool true) ∧ Below w.heap.size w w' := by
  have HX := Lib.hid (fun w1 h => exHolds_any w1 h)
  have HC := Lib.hid (fun w1 h1 h2 => xCheck_any A1 c1 l A2 c2 xs w1 h1 h2 hc2 (fun X h => (hz2 X h).1))
  have HR := Lib.hid (fun w1 h1 h2 => rCheck24_any A1 c1 l A2 c2 xs w1 h1 h2 hc2 (fun X h => (hz2 X h).1) ⟨hz1, fun X h => (hz2 X h).2⟩)
  have HO := Lib.hid ho
  have HE := Lib.hid h1
  have HI := Lib.hid h2
  generalize ckR l (xs.map BE.d) = R at HC HR
  unfold rtV at HC HR ⊢
  clear ho h1 h2 hz1 hz2 hc2
  obtain ⟨n1, hn1⟩ : ∃ n, l.length = n := ⟨_, rfl⟩
  obtain ⟨n2, hn2⟩ : ∃ n, xs.length = n := ⟨_, rfl⟩
  rw [hn1, hn2] at HC HR ⊢
  clear hn1 hn2
  by_cases h1 : 40 < n1
  · go_enter Tryz.func3, Tryz.ntmps3
    go_upto_region 1 with fail
    refine name_world (C := fun w1 => Code.wp _ _ _ _ w1) (w.alloc (.cells [.slice A1 n1 c1, .slice A2 n2 c2].toArray 25)) ?_
    intro w1 hw1
    have hb : Below w.heap.size w w1 := by rw [hw1]; exact S2.below_new w _
    have T_w1 : Hid (BK 25 w1 w.heap.size [.slice A1 n1 c1, .slice A2 n2 c2]) := Lib.hid (by rw [hw1]; exact BK.new w _ _)
    have B_w1 := Lib.hid hb
    have O_w1 := Lib.hid (HO.out.step hb)
    have E_w1 := Lib.hid (GL.step HE.out hb)
    have I_w1 := Lib.hid (LI.step HI.out hb)
    clear hw1 hb HO HE HI
    have t0 := T_w1.out.cell 0 rfl
    have t1 := T_w1.out.cell 1 rfl
    go_wp2_with fail
    refine (HX.out _ O_w1.out).mono ?_
    rintro e w2 ⟨rfl, hb⟩
    have B_w2 := Lib.hid (stepB B_w1.out hb)
    clear hb
    go_wp2_with fail
    go_ret
    exact ⟨rfl, B_w2.out⟩
  · by_cases h2 : 300 < n2
    · go_enter Tryz.func3, Tryz.ntmps3
      go_upto_region 1 with fail
      refine name_world (C := fun w1 => Code.wp _ _ _ _ w1) (w.alloc (.cells [.slice A1 n1 c1, .slice A2 n2 c2].toArray 25)) ?_
      intro w1 hw1
      have hb : Below w.heap.size w w1 := by rw [hw1]; exact S2.below_new w _
      have T_w1 : Hid (BK 25 w1 w.heap.size [.slice A1 n1 c1, .slice A2 n2 c2]) := Lib.hid (by rw [hw1]; exact BK.new w _ _)
      have B_w1 := Lib.hid hb
      have O_w1 := Lib.hid (HO.out.step hb)
      have E_w1 := Lib.hid (GL.step HE.out hb)
      have I_w1 := Lib.hid (LI.step HI.out hb)
      clear hw1 hb HO HE HI
      have t0 := T_w1.out.cell 0 rfl
      have t1 := T_w1.out.cell 1 rfl
      go_wp2_with fail
      refine (HX.out _ O_w1.out).mono ?_
      rintro e w2 ⟨rfl, hb⟩
      have B_w2 := Lib.hid (stepB B_w1.out hb)
      clear hb
      go_wp2_with fail
      go_ret
      exact ⟨rfl, B_w2.out⟩
    · go_enter Tryz.func3, Tryz.ntmps3
      go_upto_region 1 with fail
      refine name_world (C := fun w1 => Code.wp _ _ _ _ w1) (w.alloc (.cells [.slice A1 n1 c1, .slice A2 n2 c2].toArray 25)) ?_
      intro w1 hw1
      have hb : Below w.heap.size w w1 := by rw [hw1]; exact S2.below_new w _
      have T_w1 : Hid (BK 25 w1 w.heap.size [.slice A1 n1 c1, .slice A2 n2 c2]) := Lib.hid (by rw [hw1]; exact BK.new w _ _)
      have B_w1 := Lib.hid hb
      have O_w1 := Lib.hid (HO.out.step hb)
      have E_w1 := Lib.hid (GL.step HE.out hb)
      have I_w1 := Lib.hid (LI.step HI.out hb)
      clear hw1 hb HO HE HI
      have t0 := T_w1.out.cell 0 rfl
      have t1 := T_w1.out.cell 1 rfl
      go_upto_region 3 with fail
      clear t0 t1
      obtain ⟨x1, hx1⟩ : ∃ x1, x1 = World.drew w1 := ⟨_, rfl⟩
      have hbD : Below w1.heap.size w1 x1 := by rw [hx1]; exact (Below.refl _ _).drew
      have B_x1 : Hid (Below w.heap.size w x1) := Lib.hid (stepB B_w1.out hbD)
      have T_x1 : Hid (BK 25 x1 w.heap.size [.slice A1 n1 c1, .slice A2 n2 c2]) := Lib.hid (T_w1.out.step hbD)
      have O_x1 : Hid (S1.Okw x1) := Lib.hid (O_w1.out.step hbD)
      have E_x1 : Hid (EL x1 x1.heap.size A1 l) := Lib.hid (GL.step E_w1.out hbD)
      have I_x1 : Hid (BI x1 x1.heap.size A2 xs) := Lib.hid (LI.step I_w1.out hbD)
      clear B_w1 T_w1 O_w1 E_w1 I_w1
      have hbd : (fun w' => BK 25 w' w.heap.size [.slice A1 n1 c1, .slice A2 n2 c2]) (World.drew w1) := by rw [← hx1]; exact T_x1.out
      have hSD : (fun w' => BK 25 w' w.heap.size [.slice A1 n1 c1, .slice A2 n2 c2]) x1 := T_x1.out
      have HWD := Lib.hid hx1
      clear hx1 hbD
      refine wp_region_held_drew (S := fun w' => BK 25 w' w.heap.size [.slice A1 n1 c1, .slice A2 n2 c2]) (by kernel_rfl) hbd (fun hHeld => ?_)
      rw [← HWD.out]
      clear hHeld
      have hHeld := hSD
      clear hSD hbd HWD
      refine wpAnyH_take (i := 0) (v := .agg #[.slice A1 n1 c1, .slice A2 n2 c2]) (get_ops _ _ _ rfl) (by kernel_rfl) (by kernel_rfl) (by kernel_rfl) (fun _ _ _ h => h) (Or.inl ⟨by rfl, fun wS hSw => by (try dsimp only at hSw); exact exec_load 25 _ rfl ⟨w.heap.size, 0, none⟩ (by go_simp) _ (S2.run_load_all hSw Tryz.underlying25 rfl rtSize)⟩) hHeld ?_
      try simp only [Act.put, List.setIfInBounds_toArray, List.set_cons_zero, List.set_cons_succ]
      refine wpAnyH_take (i := 2) (v := .agg #[.slice A1 n1 c1, .slice A2 n2 c2]) (get_ops _ _ _ rfl) (by kernel_rfl) (by kernel_rfl) (by kernel_rfl) (fun _ _ _ h => h) (Or.inl ⟨by rfl, fun wS hSw => by (try dsimp only at hSw); exact exec_load 25 _ rfl ⟨w.heap.size, 0, none⟩ (by go_simp) _ (S2.run_load_all hSw Tryz.underlying25 rfl rtSize)⟩) hHeld ?_
      try simp only [Act.put, List.setIfInBounds_toArray, List.set_cons_zero, List.set_cons_succ]
      refine wpAnyH_ready (rs := [1]) (by kernel_rfl) (by simp) ?_
      refine (AllReadyH.cons (get_ops _ _ _ rfl) (fun K hK => ?_) AllReadyH.nil)
      go_simp
      refine (HC.out _ E_x1.out I_x1.out).mono ?_
      rintro e x2 ⟨rfl, hb⟩
      have B_x2 : Hid (Below w.heap.size w x2) := Lib.hid (stepB B_x1.out hb)
      have T_x2 : Hid (BK 25 x2 w.heap.size [.slice A1 n1 c1, .slice A2 n2 c2]) := Lib.hid (T_x1.out.step hb)
      have O_x2 : Hid (S1.Okw x2) := Lib.hid (O_x1.out.step hb)
      have E_x2 : Hid (EL x2 x2.heap.size A1 l) := Lib.hid (GL.step E_x1.out hb)
      have I_x2 : Hid (BI x2 x2.heap.size A2 xs) := Lib.hid (LI.step I_x1.out hb)
      clear B_x1 T_x1 O_x1 E_x1 I_x1
      clear hHeld hb
      go_wp2_with fail
      refine hK.out _ _ T_x2.out (fun hHeld => ?_)
      clear hK K
      try simp only [Act.put, List.setIfInBounds_toArray, List.set_cons_zero, List.set_cons_succ]
      refine wpAnyH_ready (rs := [3]) (by kernel_rfl) (by simp) ?_
      refine (AllReadyH.cons (get_ops _ _ _ rfl) (fun K hK => ?_) AllReadyH.nil)
      go_simp
      refine (HR.out _ E_x2.out I_x2.out).mono ?_
      rintro e x3 ⟨rfl, hb⟩
      have B_x3 : Hid (Below w.heap.size w x3) := Lib.hid (stepB B_x2.out hb)
      have T_x3 : Hid (BK 25 x3 w.heap.size [.slice A1 n1 c1, .slice A2 n2 c2]) := Lib.hid (T_x2.out.step hb)
      have O_x3 : Hid (S1.Okw x3) := Lib.hid (O_x2.out.step hb)
      have E_x3 : Hid (EL x3 x3.heap.size A1 l) := Lib.hid (GL.step E_x2.out hb)
      have I_x3 : Hid (BI x3 x3.heap.size A2 xs) := Lib.hid (LI.step I_x2.out hb)
      clear B_x2 T_x2 O_x2 E_x2 I_x2
      clear hHeld hb
      go_wp2_with fail
      refine hK.out _ _ T_x3.out (fun hHeld => ?_)
      clear hK K
      try simp only [Act.put, List.setIfInBounds_toArray, List.set_cons_zero, List.set_cons_succ]
      refine wpAnyH_take (i := 4) (v := .bool true) (get_ops _ _ _ rfl) (by kernel_rfl) (by kernel_rfl) (by kernel_rfl) (fun _ _ _ h => h) (Or.inl ⟨by rfl, fun wS hSw => by (try dsimp only at hSw); go_simp⟩) hHeld ?_
      try simp only [Act.put, List.setIfInBounds_toArray, List.set_cons_zero, List.set_cons_succ]
      refine wpAnyH_take (i := 5) (v := .bool true) (get_ops _ _ _ rfl) (by kernel_rfl) (by kernel_rfl) (by kernel_rfl) (fun _ _ _ h => h) (Or.inl ⟨by rfl, fun wS hSw => by (try dsimp only at hSw); go_simp⟩) hHeld ?_
      try simp only [Act.put, List.setIfInBounds_toArray, List.set_cons_zero, List.set_cons_succ]
      refine wpAnyH_ready (rs := [6]) (by kernel_rfl) (by simp) ?_
      refine (AllReadyH.cons (get_ops _ _ _ rfl) (fun K hK => ?_) AllReadyH.nil)
      go_simp
      refine (HX.out _ O_x3.out).mono ?_
      rintro e x4 ⟨rfl, hb⟩
      have B_x4 : Hid (Below w.heap.size w x4) := Lib.hid (stepB B_x3.out hb)
      have T_x4 : Hid (BK 25 x4 w.heap.size [.slice A1 n1 c1, .slice A2 n2 c2]) := Lib.hid (T_x3.out.step hb)
      have O_x4 : Hid (S1.Okw x4) := Lib.hid (O_x3.out.step hb)
      have E_x4 : Hid (EL x4 x4.heap.size A1 l) := Lib.hid (GL.step E_x3.out hb)
      have I_x4 : Hid (BI x4 x4.heap.size A2 xs) := Lib.hid (LI.step I_x3.out hb)
      clear B_x3 T_x3 O_x3 E_x3 I_x3
      clear hHeld hb
      go_wp2_with fail
      refine hK.out _ _ T_x4.out (fun hHeld => ?_)
      clear hK K
      try simp only [Act.put, List.setIfInBounds_toArray, List.set_cons_zero, List.set_cons_succ]
      refine wpAnyH_take (i := 7) (v := .bool true) (get_ops _ _ _ rfl) (by kernel_rfl) (by kernel_rfl) (by kernel_rfl) (fun _ _ _ h => h) (Or.inl ⟨by rfl, fun wS hSw => by (try dsimp only at hSw); go_simp⟩) hHeld ?_
      try simp only [Act.put, List.setIfInBounds_toArray, List.set_cons_zero, List.set_cons_succ]
      refine wpAnyH_take (i := 8) (v := .bool true) (get_ops _ _ _ rfl) (by kernel_rfl) (by kernel_rfl) (by kernel_rfl) (fun _ _ _ h => h) (Or.inl ⟨by rfl, fun wS hSw => by (try dsimp only at hSw); go_simp⟩) hHeld ?_
      try simp only [Act.put, List.setIfInBounds_toArray, List.set_cons_zero, List.set_cons_succ]
      refine wpAnyH_done (by kernel_rfl) ?_ _
      go_wp2_with fail
      go_ret
      exact ⟨rfl, B_x4.out⟩
end Go.Proofs.YtglnkpgdmophlaaGreatDoor
