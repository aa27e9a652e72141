/-
  PacketSame answers true, walked: Same of the program and of the specification answer alike; a packet is the same as itself, and the order does not count. Conditions: the tables of package unicode/utf8 are there; the packets read as data.
-/
import Derived.Test.YtjlmlaekogahpaaDoorAwake6
import Derived.Test.YtjlmlaekogahpaaDoorSmall
import Derived.Test.YtjlmlaekogahpaaDoorSamR
namespace Go.Proofs.YtjlmlaekogahpaaDoor
open Go.RowKit

theorem SmallP.sz {p : Pkt} (h : SmallP p) : PSz p := by
  obtain ⟨h1, h2, h3, h4, h5, _⟩ := h
  exact ⟨by omega, by omega, by omega, by omega, by omega⟩
theorem SmallP.tx {p : Pkt} (h : SmallP p) : PTx p := by
  obtain ⟨_, _, _, _, _, h6, h7⟩ := h
  exact ⟨fun x hx => by have := h6 x hx; omega, fun x hx => by have := h7 x hx; omega⟩
theorem sameP_comm (p q : Pkt) : sameP q p = sameP p q := by unfold sameP; exact decide_eq_decide.2 ⟨Eq.symm, Eq.symm⟩
theorem sameP_self (p : Pkt) : sameP p p = true := by simp [sameP]
set_option maxRecDepth 50000 in
set_option maxHeartbeats 16000000 in
theorem packetSame_walk (p q : Pkt) (a b : PA) (w : World) (hw : S1.Okw w) (hp : PIn w p a) (hq : PIn w q b) :
    Calls Tryd.prog 4 #[pkV p a, pkV q b] w fun e w' => e = .returned (.bool true) ∧ Below w.heap.size w w' := by
  have HA : Hid (∀ w, PIn w p a → Calls Tryd.prog 13 #[pkV p a] w (SomeB (SmallP p) w)) := Lib.hid (fun w h => small6_any p a w h)
  have HZ : Hid (∀ w, PIn w q b → Calls Tryd.prog 13 #[pkV q b] w (SomeB (SmallP q) w)) := Lib.hid (fun w h => small6_any q b w h)
  have S1' : Hid (SmallP p → SmallP q → ∀ w, PIn w p a → PIn w q b → Calls Tryd.prog 14 #[pkV p a, pkV q b] w fun e w' => e = .returned (.bool (sameP p q)) ∧ Below w.heap.size w w') := Lib.hid (fun s1 s2 w h h' => sameP_any p q a b w h h' s1.sz s2.sz)
  have S2' : Hid (SmallP p → SmallP q → ∀ w, PIn w p a → PIn w q b → Calls Tryd.prog 15 #[pkV p a, pkV q b] w fun e w' => e = .returned (.bool (sameP p q)) ∧ Below w.heap.size w w') := Lib.hid (fun s1 s2 w h h' => rSameP_any p q a b w h h' s1.sz s2.sz)
  have S3' : Hid (SmallP p → ∀ w, PIn w p a → Calls Tryd.prog 14 #[pkV p a, pkV p a] w fun e w' => e = .returned (.bool true) ∧ Below w.heap.size w w') := Lib.hid (fun s1 w h => by
    have := sameP_any p p a a w h h s1.sz s1.sz
    rw [sameP_self] at this; exact this)
  have S4' : Hid (SmallP p → SmallP q → ∀ w, PIn w p a → PIn w q b → Calls Tryd.prog 14 #[pkV q b, pkV p a] w fun e w' => e = .returned (.bool (sameP p q)) ∧ Below w.heap.size w w') := Lib.hid (fun s1 s2 w h h' => by
    have := sameP_any q p b a w h' h s2.sz s1.sz
    rw [sameP_comm] at this; exact this)
  generalize sameP p q = x at S1' S2' S4'
  unfold pkV at *
  obtain ⟨w1, hw1⟩ : ∃ w1, w1 = (w.alloc (.cells (pkC p a).toArray 33)).alloc (.cells (pkC q b).toArray 33) := ⟨_, rfl⟩
  obtain ⟨b1, b2, b3⟩ := two hw1
  have HBw1 := Lib.hid b1
  have HQw1 := Lib.hid b2
  have HXw1 := Lib.hid b3
  have HPw1 := Lib.hid (hp.step b1)
  have HOw1 := Lib.hid (hq.step b1)
  have HW1 := Lib.hid hw1
  have HW := Lib.hid hw
  clear hw hp hq b1 b2 b3 hw1
  go_enter Tryd.func4, Tryd.ntmps4
  go_upto_region 1 with fail
  rw [← HW1.out]
  go_wp2_with (refine wpList_load_all (by rfl) 33 (.tmp 2) rfl (w.heap.size) rfl 33 _ (0, 0) _ HQw1.out Tryd.underlying33 rfl info33 ?_)
  refine (HA.out w1 HPw1.out).mono ?_
  rintro e w2 ⟨s, rfl, hs, hb⟩
  have HS := Lib.hid hs
  clear hs
  have HBw2 : Hid (Below w.heap.size w w2) := Lib.hid (stepB HBw1.out hb)
  have HQw2 : Hid (MT 33 w2 w.heap.size (pkC p a)) := Lib.hid (MT.step HQw1.out hb)
  have HXw2 : Hid (MT 33 w2 (w.heap.size + 1) (pkC q b)) := Lib.hid (MT.step HXw1.out hb)
  have HPw2 : Hid (PIn w2 p a) := Lib.hid (PIn.step HPw1.out hb)
  have HOw2 : Hid (PIn w2 q b) := Lib.hid (PIn.step HOw1.out hb)
  clear HBw1 HQw1 HXw1 HPw1 HOw1
  clear hb
  cases s with
  | false =>
    go_wp2_with fail
    refine (awake6_any w2 (HW.out.step HBw2.out)).mono ?_
    rintro e we ⟨rfl, hb⟩
    have HBe := Lib.hid (stepB HBw2.out hb)
    clear hb
    go_wp2_with fail
    go_ret
    exact ⟨rfl, HBe.out⟩
  | true =>
    have HS1 : Hid (SmallP p) := Lib.hid (HS.out rfl)
    go_wp2_with (refine wpList_load_all (by rfl) 33 (.tmp 3) rfl (w.heap.size + 1) rfl 33 _ (0, 0) _ HXw2.out Tryd.underlying33 rfl info33 ?_)
    refine (HZ.out w2 HOw2.out).mono ?_
    rintro e w3 ⟨s, rfl, hs, hb⟩
    have HT := Lib.hid hs
    clear hs
    have HBw3 : Hid (Below w.heap.size w w3) := Lib.hid (stepB HBw2.out hb)
    have HQw3 : Hid (MT 33 w3 w.heap.size (pkC p a)) := Lib.hid (MT.step HQw2.out hb)
    have HXw3 : Hid (MT 33 w3 (w.heap.size + 1) (pkC q b)) := Lib.hid (MT.step HXw2.out hb)
    have HPw3 : Hid (PIn w3 p a) := Lib.hid (PIn.step HPw2.out hb)
    have HOw3 : Hid (PIn w3 q b) := Lib.hid (PIn.step HOw2.out hb)
    clear HBw2 HQw2 HXw2 HPw2 HOw2
    clear hb
    cases s with
    | false =>
      go_wp2_with fail
      refine (awake6_any w3 (HW.out.step HBw3.out)).mono ?_
      rintro e we ⟨rfl, hb⟩
      have HBe := Lib.hid (stepB HBw3.out hb)
      clear hb
      go_wp2_with fail
      go_ret
      exact ⟨rfl, HBe.out⟩
    | true =>
      have HS2 : Hid (SmallP q) := Lib.hid (HT.out rfl)
      have C1 := Lib.hid (S1'.out HS1.out HS2.out)
      have C2 := Lib.hid (S2'.out HS1.out HS2.out)
      have C4 := Lib.hid (S4'.out HS1.out HS2.out)
      have C3 := Lib.hid (S3'.out HS1.out)
      clear S1' S2' S3' S4' HA HZ HS HT HS1 HS2
      go_upto_region 3 with fail
      obtain ⟨v1, hv1⟩ : ∃ v1, v1 = World.drew w3 := ⟨_, rfl⟩
      have hbD : Below w3.heap.size w3 v1 := by rw [hv1]; exact (Below.refl _ _).drew
      have HBv1 : Hid (Below w.heap.size w v1) := Lib.hid (stepB HBw3.out hbD)
      have HQv1 : Hid (MT 33 v1 w.heap.size (pkC p a)) := Lib.hid (MT.step HQw3.out hbD)
      have HXv1 : Hid (MT 33 v1 (w.heap.size + 1) (pkC q b)) := Lib.hid (MT.step HXw3.out hbD)
      have HPv1 : Hid (PIn v1 p a) := Lib.hid (PIn.step HPw3.out hbD)
      have HOv1 : Hid (PIn v1 q b) := Lib.hid (PIn.step HOw3.out hbD)
      clear HBw3 HQw3 HXw3 HPw3 HOw3
      have hbd : (fun w' => MT 33 w' w.heap.size (pkC p a) ∧ MT 33 w' (w.heap.size + 1) (pkC q b)) (World.drew w3) := by rw [← hv1]; exact ⟨HQv1.out, HXv1.out⟩
      have hSD : (fun w' => MT 33 w' w.heap.size (pkC p a) ∧ MT 33 w' (w.heap.size + 1) (pkC q b)) v1 := ⟨HQv1.out, HXv1.out⟩
      have HWD := Lib.hid hv1
      clear hv1 hbD
      refine wp_region_held_drew (S := fun w' => MT 33 w' w.heap.size (pkC p a) ∧ MT 33 w' (w.heap.size + 1) (pkC q b)) (by kernel_rfl) hbd (fun hHeld => ?_)
      rw [← HWD.out]
      clear hHeld
      have hHeld := hSD
      clear hSD hbd HWD
      refine wpAnyH_take (i := 0) (v := .agg (pkC p a).toArray) (get_ops _ _ _ rfl) (by kernel_rfl) (by kernel_rfl) (by kernel_rfl) (fun _ _ _ h => h) (Or.inl ⟨by rfl, fun wS hSw => by (try dsimp only at hSw); exact exec_load 33 _ rfl ⟨w.heap.size, 0, none⟩ (by go_simp) _ (run_loadVar_row wS w.heap.size 33 33 _ (0, 0) _ hSw.1 Tryd.underlying33 rfl info33)⟩) hHeld ?_
      try simp only [Act.put, List.setIfInBounds_toArray, List.set_cons_zero, List.set_cons_succ]
      refine wpAnyH_take (i := 1) (v := .agg (pkC q b).toArray) (get_ops _ _ _ rfl) (by kernel_rfl) (by kernel_rfl) (by kernel_rfl) (fun _ _ _ h => h) (Or.inl ⟨by rfl, fun wS hSw => by (try dsimp only at hSw); exact exec_load 33 _ rfl ⟨w.heap.size + 1, 0, none⟩ (by go_simp) _ (run_loadVar_row wS (w.heap.size + 1) 33 33 _ (0, 0) _ hSw.2 Tryd.underlying33 rfl info33)⟩) hHeld ?_
      try simp only [Act.put, List.setIfInBounds_toArray, List.set_cons_zero, List.set_cons_succ]
      refine wpAnyH_take (i := 3) (v := .agg (pkC p a).toArray) (get_ops _ _ _ rfl) (by kernel_rfl) (by kernel_rfl) (by kernel_rfl) (fun _ _ _ h => h) (Or.inl ⟨by rfl, fun wS hSw => by (try dsimp only at hSw); exact exec_load 33 _ rfl ⟨w.heap.size, 0, none⟩ (by go_simp) _ (run_loadVar_row wS w.heap.size 33 33 _ (0, 0) _ hSw.1 Tryd.underlying33 rfl info33)⟩) hHeld ?_
      try simp only [Act.put, List.setIfInBounds_toArray, List.set_cons_zero, List.set_cons_succ]
      refine wpAnyH_take (i := 4) (v := .agg (pkC q b).toArray) (get_ops _ _ _ rfl) (by kernel_rfl) (by kernel_rfl) (by kernel_rfl) (fun _ _ _ h => h) (Or.inl ⟨by rfl, fun wS hSw => by (try dsimp only at hSw); exact exec_load 33 _ rfl ⟨w.heap.size + 1, 0, none⟩ (by go_simp) _ (run_loadVar_row wS (w.heap.size + 1) 33 33 _ (0, 0) _ hSw.2 Tryd.underlying33 rfl info33)⟩) hHeld ?_
      try simp only [Act.put, List.setIfInBounds_toArray, List.set_cons_zero, List.set_cons_succ]
      refine wpAnyH_ready (rs := [2]) (by kernel_rfl) (by simp) ?_
      refine (AllReadyH.cons (get_ops _ _ _ rfl) (fun K hK => ?_) AllReadyH.nil)
      go_simp
      go_at_call 14
      refine (C1.out v1 HPv1.out HOv1.out).mono ?_
      rintro e v2 ⟨rfl, hb⟩
      have HBv2 : Hid (Below w.heap.size w v2) := Lib.hid (stepB HBv1.out hb)
      have HQv2 : Hid (MT 33 v2 w.heap.size (pkC p a)) := Lib.hid (MT.step HQv1.out hb)
      have HXv2 : Hid (MT 33 v2 (w.heap.size + 1) (pkC q b)) := Lib.hid (MT.step HXv1.out hb)
      have HPv2 : Hid (PIn v2 p a) := Lib.hid (PIn.step HPv1.out hb)
      have HOv2 : Hid (PIn v2 q b) := Lib.hid (PIn.step HOv1.out hb)
      clear HBv1 HQv1 HXv1 HPv1 HOv1
      clear hHeld hb
      go_wp2_with fail
      refine hK.out _ _ ⟨HQv2.out, HXv2.out⟩ (fun hHeld => ?_)
      clear hK K
      try simp only [Act.put, List.setIfInBounds_toArray, List.set_cons_zero, List.set_cons_succ]
      refine wpAnyH_ready (rs := [5]) (by kernel_rfl) (by simp) ?_
      refine (AllReadyH.cons (get_ops _ _ _ rfl) (fun K hK => ?_) AllReadyH.nil)
      go_simp
      go_at_call 15
      refine (C2.out v2 HPv2.out HOv2.out).mono ?_
      rintro e v3 ⟨rfl, hb⟩
      have HBv3 : Hid (Below w.heap.size w v3) := Lib.hid (stepB HBv2.out hb)
      have HQv3 : Hid (MT 33 v3 w.heap.size (pkC p a)) := Lib.hid (MT.step HQv2.out hb)
      have HXv3 : Hid (MT 33 v3 (w.heap.size + 1) (pkC q b)) := Lib.hid (MT.step HXv2.out hb)
      have HPv3 : Hid (PIn v3 p a) := Lib.hid (PIn.step HPv2.out hb)
      have HOv3 : Hid (PIn v3 q b) := Lib.hid (PIn.step HOv2.out hb)
      clear HBv2 HQv2 HXv2 HPv2 HOv2
      clear hHeld hb
      go_wp2_with fail
      refine hK.out _ _ ⟨HQv3.out, HXv3.out⟩ (fun hHeld => ?_)
      clear hK K
      try simp only [Act.put, List.setIfInBounds_toArray, List.set_cons_zero, List.set_cons_succ]
      refine wpAnyH_take (i := 6) (v := .bool true) (get_ops _ _ _ rfl) (by kernel_rfl) (by kernel_rfl) (by kernel_rfl) (fun _ _ _ h => h) (Or.inl ⟨by rfl, fun wS hSw => by (try dsimp only at hSw); go_simp⟩) hHeld ?_
      try simp only [Act.put, List.setIfInBounds_toArray, List.set_cons_zero, List.set_cons_succ]
      refine wpAnyH_take (i := 7) (v := .bool true) (get_ops _ _ _ rfl) (by kernel_rfl) (by kernel_rfl) (by kernel_rfl) (fun _ _ _ h => h) (Or.inl ⟨by rfl, fun wS hSw => by (try dsimp only at hSw); go_simp⟩) hHeld ?_
      try simp only [Act.put, List.setIfInBounds_toArray, List.set_cons_zero, List.set_cons_succ]
      refine wpAnyH_take (i := 8) (v := .agg (pkC p a).toArray) (get_ops _ _ _ rfl) (by kernel_rfl) (by kernel_rfl) (by kernel_rfl) (fun _ _ _ h => h) (Or.inl ⟨by rfl, fun wS hSw => by (try dsimp only at hSw); exact exec_load 33 _ rfl ⟨w.heap.size, 0, none⟩ (by go_simp) _ (run_loadVar_row wS w.heap.size 33 33 _ (0, 0) _ hSw.1 Tryd.underlying33 rfl info33)⟩) hHeld ?_
      try simp only [Act.put, List.setIfInBounds_toArray, List.set_cons_zero, List.set_cons_succ]
      refine wpAnyH_take (i := 9) (v := .agg (pkC p a).toArray) (get_ops _ _ _ rfl) (by kernel_rfl) (by kernel_rfl) (by kernel_rfl) (fun _ _ _ h => h) (Or.inl ⟨by rfl, fun wS hSw => by (try dsimp only at hSw); exact exec_load 33 _ rfl ⟨w.heap.size, 0, none⟩ (by go_simp) _ (run_loadVar_row wS w.heap.size 33 33 _ (0, 0) _ hSw.1 Tryd.underlying33 rfl info33)⟩) hHeld ?_
      try simp only [Act.put, List.setIfInBounds_toArray, List.set_cons_zero, List.set_cons_succ]
      refine wpAnyH_ready (rs := [10]) (by kernel_rfl) (by simp) ?_
      refine (AllReadyH.cons (get_ops _ _ _ rfl) (fun K hK => ?_) AllReadyH.nil)
      go_simp
      go_at_call 14
      refine (C3.out v3 HPv3.out).mono ?_
      rintro e v4 ⟨rfl, hb⟩
      have HBv4 : Hid (Below w.heap.size w v4) := Lib.hid (stepB HBv3.out hb)
      have HQv4 : Hid (MT 33 v4 w.heap.size (pkC p a)) := Lib.hid (MT.step HQv3.out hb)
      have HXv4 : Hid (MT 33 v4 (w.heap.size + 1) (pkC q b)) := Lib.hid (MT.step HXv3.out hb)
      have HPv4 : Hid (PIn v4 p a) := Lib.hid (PIn.step HPv3.out hb)
      have HOv4 : Hid (PIn v4 q b) := Lib.hid (PIn.step HOv3.out hb)
      clear HBv3 HQv3 HXv3 HPv3 HOv3
      clear hHeld hb
      go_wp2_with fail
      refine hK.out _ _ ⟨HQv4.out, HXv4.out⟩ (fun hHeld => ?_)
      clear hK K
      try simp only [Act.put, List.setIfInBounds_toArray, List.set_cons_zero, List.set_cons_succ]
      refine wpAnyH_take (i := 11) (v := .bool true) (get_ops _ _ _ rfl) (by kernel_rfl) (by kernel_rfl) (by kernel_rfl) (fun _ _ _ h => h) (Or.inl ⟨by rfl, fun wS hSw => by (try dsimp only at hSw); go_simp⟩) hHeld ?_
      try simp only [Act.put, List.setIfInBounds_toArray, List.set_cons_zero, List.set_cons_succ]
      refine wpAnyH_take (i := 12) (v := .bool true) (get_ops _ _ _ rfl) (by kernel_rfl) (by kernel_rfl) (by kernel_rfl) (fun _ _ _ h => h) (Or.inl ⟨by rfl, fun wS hSw => by (try dsimp only at hSw); go_simp⟩) hHeld ?_
      try simp only [Act.put, List.setIfInBounds_toArray, List.set_cons_zero, List.set_cons_succ]
      refine wpAnyH_take (i := 13) (v := .agg (pkC q b).toArray) (get_ops _ _ _ rfl) (by kernel_rfl) (by kernel_rfl) (by kernel_rfl) (fun _ _ _ h => h) (Or.inl ⟨by rfl, fun wS hSw => by (try dsimp only at hSw); exact exec_load 33 _ rfl ⟨w.heap.size + 1, 0, none⟩ (by go_simp) _ (run_loadVar_row wS (w.heap.size + 1) 33 33 _ (0, 0) _ hSw.2 Tryd.underlying33 rfl info33)⟩) hHeld ?_
      try simp only [Act.put, List.setIfInBounds_toArray, List.set_cons_zero, List.set_cons_succ]
      refine wpAnyH_take (i := 14) (v := .agg (pkC p a).toArray) (get_ops _ _ _ rfl) (by kernel_rfl) (by kernel_rfl) (by kernel_rfl) (fun _ _ _ h => h) (Or.inl ⟨by rfl, fun wS hSw => by (try dsimp only at hSw); exact exec_load 33 _ rfl ⟨w.heap.size, 0, none⟩ (by go_simp) _ (run_loadVar_row wS w.heap.size 33 33 _ (0, 0) _ hSw.1 Tryd.underlying33 rfl info33)⟩) hHeld ?_
      try simp only [Act.put, List.setIfInBounds_toArray, List.set_cons_zero, List.set_cons_succ]
      refine wpAnyH_take (i := 16) (v := .agg (pkC p a).toArray) (get_ops _ _ _ rfl) (by kernel_rfl) (by kernel_rfl) (by kernel_rfl) (fun _ _ _ h => h) (Or.inl ⟨by rfl, fun wS hSw => by (try dsimp only at hSw); exact exec_load 33 _ rfl ⟨w.heap.size, 0, none⟩ (by go_simp) _ (run_loadVar_row wS w.heap.size 33 33 _ (0, 0) _ hSw.1 Tryd.underlying33 rfl info33)⟩) hHeld ?_
      try simp only [Act.put, List.setIfInBounds_toArray, List.set_cons_zero, List.set_cons_succ]
      refine wpAnyH_take (i := 17) (v := .agg (pkC q b).toArray) (get_ops _ _ _ rfl) (by kernel_rfl) (by kernel_rfl) (by kernel_rfl) (fun _ _ _ h => h) (Or.inl ⟨by rfl, fun wS hSw => by (try dsimp only at hSw); exact exec_load 33 _ rfl ⟨w.heap.size + 1, 0, none⟩ (by go_simp) _ (run_loadVar_row wS (w.heap.size + 1) 33 33 _ (0, 0) _ hSw.2 Tryd.underlying33 rfl info33)⟩) hHeld ?_
      try simp only [Act.put, List.setIfInBounds_toArray, List.set_cons_zero, List.set_cons_succ]
      refine wpAnyH_ready (rs := [15]) (by kernel_rfl) (by simp) ?_
      refine (AllReadyH.cons (get_ops _ _ _ rfl) (fun K hK => ?_) AllReadyH.nil)
      go_simp
      go_at_call 14
      refine (C4.out v4 HPv4.out HOv4.out).mono ?_
      rintro e v5 ⟨rfl, hb⟩
      have HBv5 : Hid (Below w.heap.size w v5) := Lib.hid (stepB HBv4.out hb)
      have HQv5 : Hid (MT 33 v5 w.heap.size (pkC p a)) := Lib.hid (MT.step HQv4.out hb)
      have HXv5 : Hid (MT 33 v5 (w.heap.size + 1) (pkC q b)) := Lib.hid (MT.step HXv4.out hb)
      have HPv5 : Hid (PIn v5 p a) := Lib.hid (PIn.step HPv4.out hb)
      have HOv5 : Hid (PIn v5 q b) := Lib.hid (PIn.step HOv4.out hb)
      clear HBv4 HQv4 HXv4 HPv4 HOv4
      clear hHeld hb
      go_wp2_with fail
      refine hK.out _ _ ⟨HQv5.out, HXv5.out⟩ (fun hHeld => ?_)
      clear hK K
      try simp only [Act.put, List.setIfInBounds_toArray, List.set_cons_zero, List.set_cons_succ]
      refine wpAnyH_ready (rs := [18]) (by kernel_rfl) (by simp) ?_
      refine (AllReadyH.cons (get_ops _ _ _ rfl) (fun K hK => ?_) AllReadyH.nil)
      go_simp
      go_at_call 14
      refine (C1.out v5 HPv5.out HOv5.out).mono ?_
      rintro e v6 ⟨rfl, hb⟩
      have HBv6 : Hid (Below w.heap.size w v6) := Lib.hid (stepB HBv5.out hb)
      have HQv6 : Hid (MT 33 v6 w.heap.size (pkC p a)) := Lib.hid (MT.step HQv5.out hb)
      have HXv6 : Hid (MT 33 v6 (w.heap.size + 1) (pkC q b)) := Lib.hid (MT.step HXv5.out hb)
      have HPv6 : Hid (PIn v6 p a) := Lib.hid (PIn.step HPv5.out hb)
      have HOv6 : Hid (PIn v6 q b) := Lib.hid (PIn.step HOv5.out hb)
      clear HBv5 HQv5 HXv5 HPv5 HOv5
      clear hHeld hb
      go_wp2_with fail
      refine hK.out _ _ ⟨HQv6.out, HXv6.out⟩ (fun hHeld => ?_)
      clear hK K
      try simp only [Act.put, List.setIfInBounds_toArray, List.set_cons_zero, List.set_cons_succ]
      refine wpAnyH_take (i := 19) (v := .bool true) (get_ops _ _ _ rfl) (by kernel_rfl) (by kernel_rfl) (by kernel_rfl) (fun _ _ _ h => h) (Or.inl ⟨by rfl, fun wS hSw => by (try dsimp only at hSw); go_simp⟩) hHeld ?_
      try simp only [Act.put, List.setIfInBounds_toArray, List.set_cons_zero, List.set_cons_succ]
      refine wpAnyH_take (i := 20) (v := .bool true) (get_ops _ _ _ rfl) (by kernel_rfl) (by kernel_rfl) (by kernel_rfl) (fun _ _ _ h => h) (Or.inl ⟨by rfl, fun wS hSw => by (try dsimp only at hSw); go_simp⟩) hHeld ?_
      try simp only [Act.put, List.setIfInBounds_toArray, List.set_cons_zero, List.set_cons_succ]
      refine wpAnyH_take (i := 21) (v := .bool true) (get_ops _ _ _ rfl) (by kernel_rfl) (by kernel_rfl) (by kernel_rfl) (fun _ _ _ h => h) (Or.inl ⟨by rfl, fun wS hSw => by (try dsimp only at hSw); go_simp⟩) hHeld ?_
      try simp only [Act.put, List.setIfInBounds_toArray, List.set_cons_zero, List.set_cons_succ]
      refine wpAnyH_ready (rs := [22]) (by kernel_rfl) (by simp) ?_
      refine (AllReadyH.cons (get_ops _ _ _ rfl) (fun K hK => ?_) AllReadyH.nil)
      go_simp
      go_at_call 12
      refine (awake6_any v6 (HW.out.step HBv6.out)).mono ?_
      rintro e v7 ⟨rfl, hb⟩
      have HBv7 : Hid (Below w.heap.size w v7) := Lib.hid (stepB HBv6.out hb)
      have HQv7 : Hid (MT 33 v7 w.heap.size (pkC p a)) := Lib.hid (MT.step HQv6.out hb)
      have HXv7 : Hid (MT 33 v7 (w.heap.size + 1) (pkC q b)) := Lib.hid (MT.step HXv6.out hb)
      have HPv7 : Hid (PIn v7 p a) := Lib.hid (PIn.step HPv6.out hb)
      have HOv7 : Hid (PIn v7 q b) := Lib.hid (PIn.step HOv6.out hb)
      clear HBv6 HQv6 HXv6 HPv6 HOv6
      clear hHeld hb
      go_wp2_with fail
      refine hK.out _ _ ⟨HQv7.out, HXv7.out⟩ (fun hHeld => ?_)
      clear hK K
      try simp only [Act.put, List.setIfInBounds_toArray, List.set_cons_zero, List.set_cons_succ]
      refine wpAnyH_take (i := 23) (v := .bool true) (get_ops _ _ _ rfl) (by kernel_rfl) (by kernel_rfl) (by kernel_rfl) (fun _ _ _ h => h) (Or.inl ⟨by rfl, fun wS hSw => by (try dsimp only at hSw); go_simp⟩) hHeld ?_
      try simp only [Act.put, List.setIfInBounds_toArray, List.set_cons_zero, List.set_cons_succ]
      refine wpAnyH_take (i := 24) (v := .bool true) (get_ops _ _ _ rfl) (by kernel_rfl) (by kernel_rfl) (by kernel_rfl) (fun _ _ _ h => h) (Or.inl ⟨by rfl, fun wS hSw => by (try dsimp only at hSw); go_simp⟩) hHeld ?_
      try simp only [Act.put, List.setIfInBounds_toArray, List.set_cons_zero, List.set_cons_succ]
      refine wpAnyH_done (by kernel_rfl) ?_ _
      go_wp2
      go_ret
      exact ⟨rfl, HBv7.out⟩

end Go.Proofs.YtjlmlaekogahpaaDoor
