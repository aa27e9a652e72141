/-
  What awake of brokerlaw18 answers. Conditions: the library's bound on short texts holds a number.
-/
import Derived.Test.YtoakhkiiefiebabDoorDf
namespace Go.Proofs.YtoakhkiiefiebabDoor
open Go.RowKit
open S2 (BK Put)

def exT : Msg := { Msg.zero with topic := ⟨#[116]⟩ }
def exDa : Du := ⟨⟨#[97]⟩, 15, exT⟩
def exDb : Du := ⟨⟨#[98]⟩, 15, exT⟩
theorem exw1 : armR [] ⟨#[98]⟩ true 5 exT 10 = [exDb] := rfl
theorem exw2 : armR [exDb] ⟨#[97]⟩ true 5 exT 10 = [exDa, exDb] := rfl
theorem exw3 : dueR 15 [exDa, exDb] = [exDa, exDb] := rfl
theorem exw4 : laterR 15 [exDa, exDb] = [] := rfl
theorem exw5 : canR [exDa, exDb] ⟨#[98]⟩ = [exDa] := rfl
theorem exw6 : hasR [exDa, exDb] ⟨#[98]⟩ = true := by decide +kernel
theorem exw7 : canR [exDb] ⟨#[97]⟩ = [exDb] := rfl
theorem exw8 : wchkR false 1 Msg.zero = 28 := by decide +kernel
theorem asc_nil : AscD [] := fun i j x y h => by simp at h
theorem asc_one (d : Du) : AscD [d] := fun i j x y h1 h2 hij => by
  have := (List.getElem?_eq_some_iff.1 h1).1
  have := (List.getElem?_eq_some_iff.1 h2).1
  simp at *
  omega
theorem dtwo_of {ys : List DE} {a b : Du} (h : ys.map DE.d = [a, b]) : ∃ y z : DE, ys = [y, z] ∧ y.d = a ∧ z.d = b := by
  rcases ys with _ | ⟨y, _ | ⟨z, _ | ⟨u, ys⟩⟩⟩ <;> simp at h
  exact ⟨y, z, rfl, h.1, h.2⟩
theorem done_of {ys : List DE} {a : Du} (h : ys.map DE.d = [a]) : ∃ y : DE, ys = [y] ∧ y.d = a := by
  rcases ys with _ | ⟨y, _ | ⟨z, ys⟩⟩ <;> simp at h
  exact ⟨y, rfl, h⟩
theorem ok_small {ys : List DE} {l : List Du} (h : ys.map DE.d = l) (hl : ∀ x ∈ l, x.m.props = []) : ∀ y ∈ ys, y.d.m.props.length ≤ 4398046511104 := fun y hy => by
  rw [hl y.d (by rw [← h]; exact List.mem_map_of_mem hy)]; simp
theorem exP : ∀ x ∈ [exDa, exDb], x.m.props = [] := fun x hx => by
  simp only [List.mem_cons, List.not_mem_nil, or_false] at hx
  rcases hx with rfl | rfl <;> rfl

set_option maxRecDepth 20000 in
set_option maxHeartbeats 4000000 in
theorem awake18_any (w : World) (hok : S1.Okw w) : Calls Tryd.prog 14 #[] w fun e w' => e = .returned (.bool true) ∧ Below w.heap.size w w' := by
  have HO := Lib.hid hok
  have H1 : Hid (∀ w1, Calls Tryd.prog 6 #[.slice none 0 0, .string ⟨#[98]⟩, wiV true 5 exT none 0, .int .i64 10] w1 (RetD1 [exDb] w1)) := Lib.hid (fun w1 => by
    have := wArm_any none 0 [] ⟨#[98]⟩ true 5 exT none 0 10 w1 (LI.nil _ _ _) (by decide) (fun x hx => by cases hx) (GL.nil _ _ _) (by decide) (by decide) (fun _ => by decide) (fun _ => asc_nil)
    rwa [show armR (([] : List DE).map DE.d) ⟨#[98]⟩ true 5 exT 10 = [exDb] from exw1] at this)
  have H2 : Hid (∀ A c y w1, y.d = exDb → DI w1 w1.heap.size A [y] → Calls Tryd.prog 6 #[.slice A 1 c, .string ⟨#[97]⟩, wiV true 5 exT none 0, .int .i64 10] w1 (RetD1 [exDa, exDb] w1)) := Lib.hid (fun A c y w1 hy h => by
    have := wArm_any A c [y] ⟨#[97]⟩ true 5 exT none 0 10 w1 h (by simp) (fun x hx => by simp at hx; subst hx; rw [hy]; decide) (GL.nil _ _ _) (by decide) (by decide) (fun _ => by decide) (fun _ => by rw [show ([y].map DE.d) = [exDb] from by simp [hy], exw7]; exact asc_one _)
    rwa [show armR ([y].map DE.d) ⟨#[97]⟩ true 5 exT 10 = [exDa, exDb] from by rw [show ([y].map DE.d) = [exDb] from by simp [hy]]; exact exw2] at this)
  have H3 : Hid (∀ A c ys w1, ys.map DE.d = [exDa, exDb] → DI w1 w1.heap.size A ys → Calls Tryd.prog 25 #[.slice A 2 c] w1 fun e w' => e = .returned (.tuple #[.int .i64 15, .bool true]) ∧ Below w1.heap.size w1 w') := Lib.hid (fun A c ys w1 hy h => by
    have := next_any A c ys w1 h
    rwa [hy, show ys.length = 2 from by have := congrArg List.length hy; simpa using this] at this)
  have H4 : Hid (∀ A c ys w1, ys.map DE.d = [exDa, exDb] → DI w1 w1.heap.size A ys → Calls Tryd.prog 11 #[.slice A 2 c, .int .i64 15] w1 (RetDD [exDa, exDb] [] w1)) := Lib.hid (fun A c ys w1 hy h => by
    have hl : ys.length = 2 := by have := congrArg List.length hy; simpa using this
    have := wTake_any A c ys 15 w1 h (by omega) (ok_small hy exP)
    rwa [hy, hl, exw3, exw4] at this)
  have H5 : Hid (∀ A c ys w1, ys.map DE.d = [exDa, exDb] → DI w1 w1.heap.size A ys → Calls Tryd.prog 9 #[.slice A 2 c, .string ⟨#[98]⟩] w1 (RetDB [exDa] true w1)) := Lib.hid (fun A c ys w1 hy h => by
    have hl : ys.length = 2 := by have := congrArg List.length hy; simpa using this
    have := wCancel_any A c ys ⟨#[98]⟩ w1 h (by omega) (ok_small hy exP)
    rw [hy, hl, exw5, exw6] at this
    refine this.mono ?_
    rintro e w' ⟨v, zs, rfl, hz, hl9, hb⟩
    obtain ⟨A2, c2, rfl, hc2, hmi⟩ := lstDI hl9
    exact ⟨A2, c2, zs, rfl, hz, hc2, hmi, hb⟩)
  have H6 : Hid (∀ w1, S1.Okw w1 → Calls Tryd.prog 26 #[wiV false 1 Msg.zero none 0] w1 fun e w' => e = .returned (.int .i64 28) ∧ Below w1.heap.size w1 w') := Lib.hid (fun w1 h => by
    have := wCheck_any false 1 Msg.zero none 0 w1 h (GL.nil _ _ _) (by decide)
    rwa [exw8] at this)
  clear hok
  go_enter Tryd.func14, Tryd.ntmps14
  go_upto_region 2 with fail
  refine name_world (C := fun w1 => Code.wp _ _ _ _ w1) (w.alloc (.cells (wiC true 5 exT none 0).toArray 29)) ?_
  intro w1 hw1
  have hb1 : Below w.heap.size w w1 := by rw [hw1]; exact S2.below_new w _
  have V_w1 : Hid (BK 29 w1 w.heap.size (wiC true 5 exT none 0)) := Lib.hid (by rw [hw1]; exact BK.new w _ _)
  have B_w1 := Lib.hid hb1
  have O_w1 := Lib.hid (HO.out.step hb1)
  clear hw1 hb1 HO
  obtain ⟨z1, hz1⟩ : ∃ z1, z1 = World.drew w1 := ⟨_, rfl⟩
  have hbD : Below w1.heap.size w1 z1 := by rw [hz1]; exact (Below.refl _ _).drew
  have V_z1 : Hid (BK 29 z1 w.heap.size (wiC true 5 exT none 0)) := Lib.hid (V_w1.out.step hbD)
  have B_z1 : Hid (Below w.heap.size w z1) := Lib.hid (stepB B_w1.out hbD)
  have O_z1 : Hid (S1.Okw z1) := Lib.hid (O_w1.out.step hbD)
  clear V_w1 B_w1 O_w1
  have hbd : (fun w' => BK 29 w' w.heap.size (wiC true 5 exT none 0)) (World.drew w1) := by rw [← hz1]; exact V_z1.out
  have hSD : (fun w' => BK 29 w' w.heap.size (wiC true 5 exT none 0)) z1 := V_z1.out
  have HWD := Lib.hid hz1
  clear hz1 hbD
  refine wp_region_held_drew (S := fun w' => BK 29 w' w.heap.size (wiC true 5 exT none 0)) (by kernel_rfl) hbd (fun hHeld => ?_)
  rw [← HWD.out]
  clear hHeld
  have hHeld := hSD
  clear hSD hbd HWD
  refine wpAnyH_take (i := 0) (v := (wiV true 5 exT none 0)) (get_ops _ _ _ rfl) (by kernel_rfl) (by kernel_rfl) (by kernel_rfl) (fun _ _ _ h => h) (Or.inl ⟨by rfl, fun wS hSw => by (try dsimp only at hSw); exact exec_load 29 _ rfl ⟨w.heap.size, 0, none⟩ (by go_simp) _ (S2.run_load_all hSw Tryd.underlying29 rfl wiSize)⟩) hHeld ?_
  try simp only [Act.put, List.setIfInBounds_toArray, List.set_cons_zero, List.set_cons_succ]
  refine wpAnyH_take (i := 2) (v := (wiV true 5 exT none 0)) (get_ops _ _ _ rfl) (by kernel_rfl) (by kernel_rfl) (by kernel_rfl) (fun _ _ _ h => h) (Or.inl ⟨by rfl, fun wS hSw => by (try dsimp only at hSw); exact exec_load 29 _ rfl ⟨w.heap.size, 0, none⟩ (by go_simp) _ (S2.run_load_all hSw Tryd.underlying29 rfl wiSize)⟩) hHeld ?_
  try simp only [Act.put, List.setIfInBounds_toArray, List.set_cons_zero, List.set_cons_succ]
  refine wpAnyH_ready (rs := [1]) (by kernel_rfl) (by simp) ?_
  refine (AllReadyH.cons (get_ops _ _ _ rfl) (fun K hK => ?_) AllReadyH.nil)
  go_simp
  refine (H1.out z1).mono ?_
  rintro e z2 ⟨A1, c1, ys, rfl, hys1, hc1, hmi1, hb⟩
  have V_z2 : Hid (BK 29 z2 w.heap.size (wiC true 5 exT none 0)) := Lib.hid (V_z1.out.step hb)
  have B_z2 : Hid (Below w.heap.size w z2) := Lib.hid (stepB B_z1.out hb)
  have O_z2 : Hid (S1.Okw z2) := Lib.hid (O_z1.out.step hb)
  clear V_z1 B_z1 O_z1
  obtain ⟨y0, rfl, hy0⟩ := done_of hys1
  have HY0 := Lib.hid hy0
  have Y_z2 := Lib.hid hmi1
  clear hys1 hc1 hmi1 hy0
  clear hHeld hb
  go_wp2_with fail
  refine hK.out _ _ V_z2.out (fun hHeld => ?_)
  clear hK K
  try simp only [Act.put, List.setIfInBounds_toArray, List.set_cons_zero, List.set_cons_succ]
  refine wpAnyH_ready (rs := [3]) (by kernel_rfl) (by simp) ?_
  refine (AllReadyH.cons (get_ops _ _ _ rfl) (fun K hK => ?_) AllReadyH.nil)
  go_simp
  refine (H2.out A1 c1 y0 z2 HY0.out Y_z2.out).mono ?_
  rintro e z3 ⟨A2, c2, ys, rfl, hys2, hc2, hmi2, hb⟩
  have V_z3 : Hid (BK 29 z3 w.heap.size (wiC true 5 exT none 0)) := Lib.hid (V_z2.out.step hb)
  have B_z3 : Hid (Below w.heap.size w z3) := Lib.hid (stepB B_z2.out hb)
  have O_z3 : Hid (S1.Okw z3) := Lib.hid (O_z2.out.step hb)
  have Y_z3 : Hid (DI z3 z3.heap.size A1 [y0]) := Lib.hid (LI.step Y_z2.out hb)
  clear V_z2 B_z2 O_z2 Y_z2
  have HYS := Lib.hid hys2
  obtain ⟨y1, y2, rfl, hy1, hy2⟩ := dtwo_of hys2
  have HYY := Lib.hid (And.intro hy1 hy2)
  have L_z3 := Lib.hid hmi2
  clear hys2 hc2 hmi2 hy1 hy2
  clear hHeld hb
  go_wp2_with fail
  refine hK.out _ _ V_z3.out (fun hHeld => ?_)
  clear hK K
  try simp only [Act.put, List.setIfInBounds_toArray, List.set_cons_zero, List.set_cons_succ]
  refine wpAnyH_take (i := 4) (v := .slice A2 2 c2) (get_ops _ _ _ rfl) (by kernel_rfl) (by kernel_rfl) (by kernel_rfl) (fun _ _ _ h => h) (Or.inl ⟨by rfl, fun wS hSw => by (try dsimp only at hSw); go_simp⟩) hHeld ?_
  try simp only [Act.put, List.setIfInBounds_toArray, List.set_cons_zero, List.set_cons_succ]
  refine wpAnyH_done (by kernel_rfl) ?_ _
  go_wp2_with fail
  refine (H3.out A2 c2 [y1, y2] z3 HYS.out L_z3.out).mono ?_
  rintro e w3 ⟨rfl, hb⟩
  have L_w3 := Lib.hid (L_z3.out.step hb)
  have B_w3 := Lib.hid (stepB B_z3.out hb)
  have O_w3 := Lib.hid (O_z3.out.step hb)
  clear hb H3 H1 H2
  go_wp2_with fail
  refine (H4.out A2 c2 [y1, y2] w3 HYS.out L_w3.out).mono ?_
  rintro e w4 ⟨A3, c3, us, A4, c4, vs, rfl, hus, hvs, _, _, _, _, hb⟩
  obtain ⟨u1, u2, rfl, _, _⟩ := dtwo_of hus
  obtain rfl : vs = [] := by simpa using hvs
  have L_w4 := Lib.hid (L_w3.out.step hb)
  have B_w4 := Lib.hid (stepB B_w3.out hb)
  have O_w4 := Lib.hid (O_w3.out.step hb)
  clear hb hus hvs H4 L_w3 B_w3 O_w3
  go_wp2_with fail
  refine (H5.out A2 c2 [y1, y2] w4 HYS.out L_w4.out).mono ?_
  rintro e w5 ⟨A5, c5, zs, rfl, hzs, _, _, hb⟩
  obtain ⟨z1, rfl, _⟩ := done_of hzs
  have L_w5 := Lib.hid (L_w4.out.step hb)
  have B_w5 := Lib.hid (stepB B_w4.out hb)
  have O_w5 := Lib.hid (O_w4.out.step hb)
  clear hb hzs H5 L_w4 B_w4 O_w4
  obtain ⟨bb, oo, rfl, _, hc0, _⟩ := L_w5.out.at_ (j := 0) rfl
  obtain ⟨b9, o9, e9, _, hc1, _⟩ := L_w5.out.at_ (j := 1) rfl
  simp only [Option.some.injEq, Addr.mk.injEq, and_true] at e9
  obtain ⟨rfl, rfl⟩ := e9
  have d0 : w5.cell? ⟨bb, oo, none⟩ = some (.string ⟨#[97]⟩) := by have := hc0 0 _ rfl; rw [HYY.out.1] at this; simpa [exDa] using this
  have d1 : w5.cell? ⟨bb, oo + 11, none⟩ = some (.string ⟨#[98]⟩) := by have := hc1 0 _ rfl; rw [HYY.out.2] at this; simpa [exDb] using this
  have d2 : w5.cell? ⟨bb, oo + 11 + 1, none⟩ = some (.int .i64 15) := by have := hc1 1 _ rfl; rw [HYY.out.2] at this; simpa [exDb] using this
  have d3 : w5.cell? ⟨bb, oo + 11 + 2, none⟩ = some (.string ⟨#[116]⟩) := by have := hc1 2 _ rfl; rw [HYY.out.2] at this; simpa [exDb, exT] using this
  have d2' : w5.cell? ⟨bb, oo + 12, none⟩ = some (.int .i64 15) := d2
  have d3' : w5.cell? ⟨bb, oo + 13, none⟩ = some (.string ⟨#[116]⟩) := d3
  clear hc0 hc1
  go_wp2_with fail
  refine (H6.out w5 O_w5.out).mono ?_
  rintro e w6 ⟨rfl, hb⟩
  have B_w6 := Lib.hid (stepB B_w5.out hb)
  clear hb
  go_wp2
  go_ret
  exact ⟨rfl, B_w6.out⟩
end Go.Proofs.YtoakhkiiefiebabDoor
