/-
  The walk of WillChecks. Conditions: the will reads as data; its texts and lists fit a machine; the library's bound on short texts holds a number.
-/
import Derived.Test.YtgnbiicfabldbaaDoorDg
namespace Go.Proofs.YtgnbiicfabldbaaDoor
open Go.RowKit
open S2 (BK Put)

/-- the texts of a message fit, and its list -/
def MTz (m : Msg) : Prop := m.props.length ≤ 4398046511104 ∧ (m.topic.size ≤ 9223372036854775807 ∧ m.frm.size ≤ 9223372036854775807 ∧ ∀ y ∈ m.props, y.1.size ≤ 9223372036854775807)
set_option maxRecDepth 20000 in
set_option maxHeartbeats 4000000 in
theorem willChecks_walk18 (s : Bool) (d : Int) (m : Msg) (am : Option Addr) (cm : Nat) (w : World) (hok : S1.Okw w) (sl : PL w w.heap.size am m.props) (hz : MTz m) :
    Calls Tryd.prog 3 #[wiV s d m am cm] w fun e w' => e = .returned (.bool true) ∧ Below w.heap.size w w' := by
  have HO := Lib.hid hok
  have HM := Lib.hid sl
  have HAW := Lib.hid (fun w1 h => awake18_any w1 h)
  have HC1 := Lib.hid (fun w1 h h1 => wCheck_any s d m am cm w1 h h1 hz.1)
  have HC2 := Lib.hid (fun w1 h1 => rwCheck_any s d m am cm w1 h1 hz.1 hz.2)
  generalize wchkR s d m = R at HC1 HC2
  clear hok sl hz
  go_enter Tryd.func3, Tryd.ntmps3
  go_upto_region 1 with fail
  refine name_world (C := fun w1 => Code.wp _ _ _ _ w1) (w.alloc (.cells (wiC s d m am cm).toArray 26)) ?_
  intro w1 hw1
  have hb1 : Below w.heap.size w w1 := by rw [hw1]; exact S2.below_new w _
  have V_w1 : Hid (BK 26 w1 w.heap.size (wiC s d m am cm)) := Lib.hid (by rw [hw1]; exact BK.new w _ _)
  have B_w1 := Lib.hid hb1
  have O_w1 := Lib.hid (HO.out.step hb1)
  have P_w1 : Hid (PL w1 w1.heap.size am m.props) := Lib.hid (GL.step HM.out hb1)
  have q1 : (R == R) = true := by simp
  clear hw1 hb1 HO HM
  obtain ⟨z1, hz1⟩ : ∃ z1, z1 = World.drew w1 := ⟨_, rfl⟩
  have hbD : Below w1.heap.size w1 z1 := by rw [hz1]; exact (Below.refl _ _).drew
  have V_z1 : Hid (BK 26 z1 w.heap.size (wiC s d m am cm)) := Lib.hid (V_w1.out.step hbD)
  have B_z1 : Hid (Below w.heap.size w z1) := Lib.hid (stepB B_w1.out hbD)
  have O_z1 : Hid (S1.Okw z1) := Lib.hid (O_w1.out.step hbD)
  have P_z1 : Hid (PL z1 z1.heap.size am m.props) := Lib.hid (GL.step P_w1.out hbD)
  clear V_w1 B_w1 O_w1 P_w1
  have hbd : (fun w' => BK 26 w' w.heap.size (wiC s d m am cm)) (World.drew w1) := by rw [← hz1]; exact V_z1.out
  have hSD : (fun w' => BK 26 w' w.heap.size (wiC s d m am cm)) z1 := V_z1.out
  have HWD := Lib.hid hz1
  clear hz1 hbD
  refine wp_region_held_drew (S := fun w' => BK 26 w' w.heap.size (wiC s d m am cm)) (by kernel_rfl) hbd (fun hHeld => ?_)
  rw [← HWD.out]
  clear hHeld
  have hHeld := hSD
  clear hSD hbd HWD
  refine wpAnyH_ready (rs := [0]) (by kernel_rfl) (by simp) ?_
  refine (AllReadyH.cons (get_ops _ _ _ rfl) (fun K hK => ?_) AllReadyH.nil)
  go_simp
  refine (HAW.out z1 O_z1.out).mono ?_
  rintro e z2 ⟨rfl, hb⟩
  have V_z2 : Hid (BK 26 z2 w.heap.size (wiC s d m am cm)) := Lib.hid (V_z1.out.step hb)
  have B_z2 : Hid (Below w.heap.size w z2) := Lib.hid (stepB B_z1.out hb)
  have O_z2 : Hid (S1.Okw z2) := Lib.hid (O_z1.out.step hb)
  have P_z2 : Hid (PL z2 z2.heap.size am m.props) := Lib.hid (GL.step P_z1.out hb)
  clear V_z1 B_z1 O_z1 P_z1
  clear hHeld hb
  go_wp2_with fail
  refine hK.out _ _ V_z2.out (fun hHeld => ?_)
  clear hK K
  try simp only [Act.put, List.setIfInBounds_toArray, List.set_cons_zero, List.set_cons_succ]
  refine wpAnyH_take (i := 1) (v := .bool true) (get_ops _ _ _ rfl) (by kernel_rfl) (by kernel_rfl) (by kernel_rfl) (fun _ _ _ h => h) (Or.inl ⟨by rfl, fun wS hSw => by (try dsimp only at hSw); go_simp⟩) hHeld ?_
  try simp only [Act.put, List.setIfInBounds_toArray, List.set_cons_zero, List.set_cons_succ]
  refine wpAnyH_take (i := 2) (v := (wiV s d m am cm)) (get_ops _ _ _ rfl) (by kernel_rfl) (by kernel_rfl) (by kernel_rfl) (fun _ _ _ h => h) (Or.inl ⟨by rfl, fun wS hSw => by (try dsimp only at hSw); exact exec_load 26 _ rfl ⟨w.heap.size, 0, none⟩ (by go_simp) _ (S2.run_load_all hSw Tryd.underlying26 rfl wiSize)⟩) hHeld ?_
  try simp only [Act.put, List.setIfInBounds_toArray, List.set_cons_zero, List.set_cons_succ]
  refine wpAnyH_take (i := 4) (v := (wiV s d m am cm)) (get_ops _ _ _ rfl) (by kernel_rfl) (by kernel_rfl) (by kernel_rfl) (fun _ _ _ h => h) (Or.inl ⟨by rfl, fun wS hSw => by (try dsimp only at hSw); exact exec_load 26 _ rfl ⟨w.heap.size, 0, none⟩ (by go_simp) _ (S2.run_load_all hSw Tryd.underlying26 rfl wiSize)⟩) hHeld ?_
  try simp only [Act.put, List.setIfInBounds_toArray, List.set_cons_zero, List.set_cons_succ]
  refine wpAnyH_ready (rs := [3]) (by kernel_rfl) (by simp) ?_
  refine (AllReadyH.cons (get_ops _ _ _ rfl) (fun K hK => ?_) AllReadyH.nil)
  go_simp
  refine (HC1.out z2 O_z2.out P_z2.out).mono ?_
  rintro e z3 ⟨rfl, hb⟩
  have V_z3 : Hid (BK 26 z3 w.heap.size (wiC s d m am cm)) := Lib.hid (V_z2.out.step hb)
  have B_z3 : Hid (Below w.heap.size w z3) := Lib.hid (stepB B_z2.out hb)
  have O_z3 : Hid (S1.Okw z3) := Lib.hid (O_z2.out.step hb)
  have P_z3 : Hid (PL z3 z3.heap.size am m.props) := Lib.hid (GL.step P_z2.out hb)
  clear V_z2 B_z2 O_z2 P_z2
  clear hHeld hb
  go_wp2_with fail
  refine hK.out _ _ V_z3.out (fun hHeld => ?_)
  clear hK K
  try simp only [Act.put, List.setIfInBounds_toArray, List.set_cons_zero, List.set_cons_succ]
  refine wpAnyH_ready (rs := [5]) (by kernel_rfl) (by simp) ?_
  refine (AllReadyH.cons (get_ops _ _ _ rfl) (fun K hK => ?_) AllReadyH.nil)
  go_simp
  refine (HC2.out z3 P_z3.out).mono ?_
  rintro e z4 ⟨rfl, hb⟩
  have V_z4 : Hid (BK 26 z4 w.heap.size (wiC s d m am cm)) := Lib.hid (V_z3.out.step hb)
  have B_z4 : Hid (Below w.heap.size w z4) := Lib.hid (stepB B_z3.out hb)
  have O_z4 : Hid (S1.Okw z4) := Lib.hid (O_z3.out.step hb)
  have P_z4 : Hid (PL z4 z4.heap.size am m.props) := Lib.hid (GL.step P_z3.out hb)
  clear V_z3 B_z3 O_z3 P_z3
  clear hHeld hb
  go_wp2_with fail
  refine hK.out _ _ V_z4.out (fun hHeld => ?_)
  clear hK K
  try simp only [Act.put, List.setIfInBounds_toArray, List.set_cons_zero, List.set_cons_succ]
  refine wpAnyH_take (i := 6) (v := .bool true) (get_ops _ _ _ rfl) (by kernel_rfl) (by kernel_rfl) (by kernel_rfl) (fun _ _ _ h => h) (Or.inl ⟨by rfl, fun wS hSw => by (try dsimp only at hSw); go_simp⟩) hHeld ?_
  try simp only [Act.put, List.setIfInBounds_toArray, List.set_cons_zero, List.set_cons_succ]
  refine wpAnyH_take (i := 7) (v := .bool true) (get_ops _ _ _ rfl) (by kernel_rfl) (by kernel_rfl) (by kernel_rfl) (fun _ _ _ h => h) (Or.inl ⟨by rfl, fun wS hSw => by (try dsimp only at hSw); go_simp⟩) hHeld ?_
  try simp only [Act.put, List.setIfInBounds_toArray, List.set_cons_zero, List.set_cons_succ]
  refine wpAnyH_take (i := 8) (v := .bool true) (get_ops _ _ _ rfl) (by kernel_rfl) (by kernel_rfl) (by kernel_rfl) (fun _ _ _ h => h) (Or.inl ⟨by rfl, fun wS hSw => by (try dsimp only at hSw); go_simp⟩) hHeld ?_
  try simp only [Act.put, List.setIfInBounds_toArray, List.set_cons_zero, List.set_cons_succ]
  refine wpAnyH_done (by kernel_rfl) ?_ _
  go_wp2_with fail
  go_ret
  exact ⟨rfl, B_z4.out⟩
end Go.Proofs.YtgnbiicfabldbaaDoor
