/-
  QueueValid answers true, walked. Conditions: the queue reads as data; the texts fit; the library's bound on short texts holds a number.
-/
import Derived.Test.YthpplhhlhheopaaDoorQaL
import Derived.Test.YthpplhhlhheopaaDoorQaO
namespace Go.Proofs.YthpplhhlhheopaaDoor
open Go.RowKit
open S2 (BK Put get_ops)

set_option maxRecDepth 20000 in
set_option maxHeartbeats 16000000 in
theorem queueValid_walk (s : Sp) (n : Int) (A : Option Addr) (c : Nat) (l : List EE) (w : World) (hw : S1.Okw w) (hz : s.name.size ≤ 9223372036854775807 ∧ s.dead.size ≤ 9223372036854775807) (hsl : EI w w.heap.size A l) (hc : l.length ≤ c) (hzp : ∀ y ∈ l, (y.x.m.topic.size ≤ 9223372036854775807 ∧ y.x.m.frm.size ≤ 9223372036854775807 ∧ ∀ z ∈ y.x.m.props, z.1.size ≤ 9223372036854775807) ∧ y.x.m.props.length ≤ 4398046511104) :
    Calls Tryd.prog 4 #[quV s n (.slice A l.length c)] w fun e w' => e = .returned (.bool true) ∧ Below w.heap.size w w' := by
  have HO := Lib.hid hw
  have HS := Lib.hid hsl
  have HEX := Lib.hid (fun w1 h1 => exHoldsQ_any w1 h1)
  have HV1 := Lib.hid (fun w1 h1 h2 (h3 : l.length ≤ 1000000) => qValid_any s n A c l w1 h1 h2 hz h3)
  have HV2 := Lib.hid (fun w1 h2 (h3 : l.length ≤ 1000000) => rValid_any s n A c l w1 h2 hz h3 hc (fun y hy => (hzp y hy).1))
  generalize validR s n (l.map EE.x) = R at HV1 HV2
  clear hw hz hsl hc hzp
  unfold quV at HV1 HV2 ⊢
  go_enter Tryd.func4, Tryd.ntmps4
  go_upto_region 1 with fail
  refine name_world (C := fun w1 => Code.wp _ _ _ _ w1) (w.alloc (.cells (quC s n (.slice A l.length c)).toArray 26)) ?_
  intro w1 hw1
  have hb1 : Below w.heap.size w w1 := by rw [hw1]; exact S2.below_new w _
  have Q_w1 : Hid (BK 26 w1 w.heap.size (quC s n (.slice A l.length c))) := Lib.hid (by rw [hw1]; exact BK.new w _ _)
  have B_w1 := Lib.hid hb1
  clear hw1 hb1
  have d6 := Q_w1.out.cell 6 rfl
  by_cases h0 : 60 < (l.length : Int)
  · have q1 : decide (60 < (l.length : Int)) = true := decide_eq_true h0
    have q2 : decide ((l.length : Int) > 60) = true := decide_eq_true h0
    clear h0
    go_wp2_with fail
    refine (HEX.out w1 (HO.out.step B_w1.out)).mono ?_
    rintro e w2 ⟨rfl, hb⟩
    have B_w2 := Lib.hid (stepB B_w1.out hb)
    clear hb
    go_wp2
    go_ret
    exact ⟨rfl, B_w2.out⟩
  have q1 : decide (60 < (l.length : Int)) = false := decide_eq_false h0
  have q2 : decide ((l.length : Int) > 60) = false := decide_eq_false h0
  have HN6 : Hid (l.length ≤ 1000000) := Lib.hid (by omega)
  clear h0
  go_upto_region 3 with fail
  clear d6 q1 q2
  obtain ⟨x1, hx1⟩ : ∃ x1, x1 = World.drew w1 := ⟨_, rfl⟩
  have hbD : Below w1.heap.size w1 x1 := by rw [hx1]; exact (Below.refl _ _).drew
  have B_x1 : Hid (Below w.heap.size w x1) := Lib.hid (stepB B_w1.out hbD)
  have Q_x1 : Hid (BK 26 x1 w.heap.size (quC s n (.slice A l.length c))) := Lib.hid (Q_w1.out.step hbD)
  clear B_w1 Q_w1
  have hbd : (fun w' => BK 26 w' w.heap.size (quC s n (.slice A l.length c))) (World.drew w1) := by rw [← hx1]; exact Q_x1.out
  have hSD : (fun w' => BK 26 w' w.heap.size (quC s n (.slice A l.length c))) x1 := Q_x1.out
  have HWD := Lib.hid hx1
  clear hx1 hbD
  refine wp_region_held_drew (S := fun w' => BK 26 w' w.heap.size (quC s n (.slice A l.length c))) (by kernel_rfl) hbd (fun hHeld => ?_)
  rw [← HWD.out]
  clear hHeld
  have hHeld := hSD
  clear hSD hbd HWD
  refine wpAnyH_take (i := 0) (v := (.agg (quC s n (.slice A l.length c)).toArray)) (get_ops _ _ _ rfl) (by kernel_rfl) (by kernel_rfl) (by kernel_rfl) (fun _ _ _ h => h) (Or.inl ⟨by rfl, fun wS hSw => by (try dsimp only at hSw); exact exec_load 26 _ rfl ⟨w.heap.size, 0, none⟩ (by go_simp) _ (load_qu hSw)⟩) hHeld ?_
  try simp only [Act.put, List.setIfInBounds_toArray, List.set_cons_zero, List.set_cons_succ]
  refine wpAnyH_take (i := 2) (v := (.agg (quC s n (.slice A l.length c)).toArray)) (get_ops _ _ _ rfl) (by kernel_rfl) (by kernel_rfl) (by kernel_rfl) (fun _ _ _ h => h) (Or.inl ⟨by rfl, fun wS hSw => by (try dsimp only at hSw); exact exec_load 26 _ rfl ⟨w.heap.size, 0, none⟩ (by go_simp) _ (load_qu hSw)⟩) hHeld ?_
  try simp only [Act.put, List.setIfInBounds_toArray, List.set_cons_zero, List.set_cons_succ]
  refine wpAnyH_ready (rs := [1]) (by kernel_rfl) (by simp) ?_
  refine (AllReadyH.cons (get_ops _ _ _ rfl) (fun K hK => ?_) AllReadyH.nil)
  go_simp
  refine (HV1.out x1 (HO.out.step B_x1.out) (HS.out.step B_x1.out) HN6.out).mono ?_
  rintro e x2 ⟨rfl, hb⟩
  have B_x2 : Hid (Below w.heap.size w x2) := Lib.hid (stepB B_x1.out hb)
  have Q_x2 : Hid (BK 26 x2 w.heap.size (quC s n (.slice A l.length c))) := Lib.hid (Q_x1.out.step hb)
  clear B_x1 Q_x1
  clear hHeld hb
  go_wp2_with fail
  refine hK.out _ _ Q_x2.out (fun hHeld => ?_)
  clear hK K
  try simp only [Act.put, List.setIfInBounds_toArray, List.set_cons_zero, List.set_cons_succ]
  refine wpAnyH_ready (rs := [3]) (by kernel_rfl) (by simp) ?_
  refine (AllReadyH.cons (get_ops _ _ _ rfl) (fun K hK => ?_) AllReadyH.nil)
  go_simp
  refine (HV2.out x2 (HS.out.step B_x2.out) HN6.out).mono ?_
  rintro e x3 ⟨rfl, hb⟩
  have B_x3 : Hid (Below w.heap.size w x3) := Lib.hid (stepB B_x2.out hb)
  have Q_x3 : Hid (BK 26 x3 w.heap.size (quC s n (.slice A l.length c))) := Lib.hid (Q_x2.out.step hb)
  clear B_x2 Q_x2
  clear hHeld hb
  go_wp2_with fail
  refine hK.out _ _ Q_x3.out (fun hHeld => ?_)
  clear hK K
  try simp only [Act.put, List.setIfInBounds_toArray, List.set_cons_zero, List.set_cons_succ]
  refine wpAnyH_take (i := 4) (v := .bool true) (get_ops _ _ _ rfl) (by kernel_rfl) (by kernel_rfl) (by kernel_rfl) (fun _ _ _ h => h) (Or.inl ⟨by rfl, fun wS hSw => by (try dsimp only at hSw); go_simp⟩) hHeld ?_
  try simp only [Act.put, List.setIfInBounds_toArray, List.set_cons_zero, List.set_cons_succ]
  refine wpAnyH_take (i := 5) (v := .bool true) (get_ops _ _ _ rfl) (by kernel_rfl) (by kernel_rfl) (by kernel_rfl) (fun _ _ _ h => h) (Or.inl ⟨by rfl, fun wS hSw => by (try dsimp only at hSw); go_simp⟩) hHeld ?_
  try simp only [Act.put, List.setIfInBounds_toArray, List.set_cons_zero, List.set_cons_succ]
  refine wpAnyH_ready (rs := [6]) (by kernel_rfl) (by simp) ?_
  refine (AllReadyH.cons (get_ops _ _ _ rfl) (fun K hK => ?_) AllReadyH.nil)
  go_simp
  refine (HEX.out x3 (HO.out.step B_x3.out)).mono ?_
  rintro e x4 ⟨rfl, hb⟩
  have B_x4 : Hid (Below w.heap.size w x4) := Lib.hid (stepB B_x3.out hb)
  have Q_x4 : Hid (BK 26 x4 w.heap.size (quC s n (.slice A l.length c))) := Lib.hid (Q_x3.out.step hb)
  clear B_x3 Q_x3
  clear hHeld hb
  go_wp2_with fail
  refine hK.out _ _ Q_x4.out (fun hHeld => ?_)
  clear hK K
  try simp only [Act.put, List.setIfInBounds_toArray, List.set_cons_zero, List.set_cons_succ]
  refine wpAnyH_take (i := 7) (v := .bool true) (get_ops _ _ _ rfl) (by kernel_rfl) (by kernel_rfl) (by kernel_rfl) (fun _ _ _ h => h) (Or.inl ⟨by rfl, fun wS hSw => by (try dsimp only at hSw); go_simp⟩) hHeld ?_
  try simp only [Act.put, List.setIfInBounds_toArray, List.set_cons_zero, List.set_cons_succ]
  refine wpAnyH_take (i := 8) (v := .bool true) (get_ops _ _ _ rfl) (by kernel_rfl) (by kernel_rfl) (by kernel_rfl) (fun _ _ _ h => h) (Or.inl ⟨by rfl, fun wS hSw => by (try dsimp only at hSw); go_simp⟩) hHeld ?_
  try simp only [Act.put, List.setIfInBounds_toArray, List.set_cons_zero, List.set_cons_succ]
  refine wpAnyH_done (by kernel_rfl) ?_ _
  go_wp2
  go_ret
  exact ⟨rfl, B_x4.out⟩

end Go.Proofs.YthpplhhlhheopaaDoor
