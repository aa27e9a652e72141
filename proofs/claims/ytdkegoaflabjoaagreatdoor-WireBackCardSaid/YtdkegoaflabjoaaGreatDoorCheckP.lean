/-
What Check of packet answers: whether a packet is valid, or its first error. Conditions: the packet reads as data; its texts fit a slice; the tables of package unicode/utf8 are there.
-/
import Derived.Test.YtdkegoaflabjoaaGreatDoorUsed
set_option maxHeartbeats 8000000
set_option maxRecDepth 50000
namespace Go.Proofs.YtdkegoaflabjoaaGreatDoor
open Go.RowKit

/-- the sizes of the texts in a packet's lists -/
structure PTx (p : Pkt) : Prop where
 s : ∀ x ∈ p.subs, x.1.size ≤ 140737488355328
 f : ∀ x ∈ p.filters, x.size ≤ 140737488355328
theorem PSz.used {p : Pkt} (h : PSz p) : PSz (usedP p) := by
 constructor
 · unfold usedP; dsimp only; split
   · exact h.m
   · decide
 · unfold usedP; dsimp only; split
   · exact h.v
   · decide
 · unfold usedP; dsimp only; split
   · exact h.s
   · decide
 · unfold usedP; dsimp only; split
   · exact h.f
   · decide
 · unfold usedP; dsimp only; split
   · exact h.c
   · decide
theorem checkP_out {p : Pkt} (h : p.kind < 1 ∨ 14 < p.kind) : checkP p = 10 := by unfold checkP; rw [if_pos h]
theorem checkP_bad {p : Pkt} (h : ¬ (p.kind < 1 ∨ 14 < p.kind)) (h2 : sameP p (usedP p) = false) : checkP p = 28 := by
 unfold checkP
 rw [if_neg h, if_pos (of_decide_eq_false h2)]
theorem checkP_in {p : Pkt} (h : ¬ (p.kind < 1 ∨ 14 < p.kind)) (h2 : sameP p (usedP p) = true) : checkP p = bodyR p := by
 unfold checkP
 rw [if_neg h, if_neg (by rw [Decidable.not_not]; exact of_decide_eq_true h2)]
theorem check6_1 (p : Pkt) (a : PA) (w : World) (hw : S1.Okw w) (h : PIn w p a) (hz : PSz p) (_ht : PTx p) (hk0 : p.kind = 1) (hu : sameP p (usedP p) = true) :
 Calls Tryz.prog 14 #[pkV p a] w fun e w' => e = .returned (.int .i64 (checkP p)) ∧ Below w.heap.size w w' := by
 have hk := Lib.hid hk0
 have HU := Lib.hid (fun w => used_any p a w (by omega))
 have HS : Hid (∀ w, PIn w p a → Calls Tryz.prog 33 #[pkV p a, pkV (usedP p) (usedA p a)] w fun e w' => e = .returned (.bool true) ∧ Below w.heap.size w w') := Lib.hid (fun w h => by
  have := sameP_any p (usedP p) a (usedA p a) w h h.used hz hz.used
  rw [hu] at this; exact this)
 have H1 : Hid (∀ w, Calls Tryz.prog 32 #[.int .i64 p.kind, .int .i64 1, .int .i64 14] w fun e w' => e = .returned (.bool true) ∧ w = w') := Lib.hid (fun w => by
  have := within3_any p.kind 1 14 w
  rw [w3_yes (by omega)] at this; exact this)
 have HV := Lib.hid (checkP_in (by omega) hu)
 have HC : Hid (∀ w, S1.Okw w → PIn w p a → Calls Tryz.prog 35 #[pkV p a] w fun e w' => e = .returned (.int .i64 (connR p)) ∧ Below w.heap.size w w') := Lib.hid (fun w h1 h2 => checkConnect_any p a w h1 h2.v hz.v)
 unfold pkV at HC
 generalize checkP p = r at HV ⊢
 unfold pkV at HU HS
 unfold pkV
 obtain ⟨w1, hw1, hb1, hm1⟩ := boxK w p a
 have c0 : w1.cell? ⟨w.heap.size, 0, none⟩ = some (.int .i64 p.kind) := hm1.cell 0
 have HQw1 := Lib.hid hm1
 have HBw1 := Lib.hid hb1
 have HPw1 := Lib.hid (h.step hb1)
 have HW1 := Lib.hid hw1
 have HO := Lib.hid hw
 clear hk0 hu hw h hz _ht hb1 hm1 hw1
 have HV2 : Hid (r = connR p) := Lib.hid (HV.out.trans (by unfold bodyR; simp [hk.out]))
 clear HV
 go_enter Tryz.func14, Tryz.ntmps14
 go_upto_region 1 with fail
 rw [← HW1.out]
 go_wp2_with fail
 refine (H1.out w1).mono ?_
 rintro e w' ⟨rfl, rfl⟩
 go_upto_region 3 with fail
 obtain ⟨v1, hv1⟩ : ∃ v1, v1 = World.drew w1 := ⟨_, rfl⟩
 have hbD : Below w1.heap.size w1 v1 := by rw [hv1]; exact (Below.refl _ _).drew
 have HBv1 := Lib.hid (stepB HBw1.out hbD)
 have HQv1 := Lib.hid (MT.step HQw1.out hbD)
 have HPv1 := Lib.hid (PIn.step HPw1.out hbD)
 clear HBw1 HQw1 HPw1
 have hbd : (fun w' => MT 38 w' w.heap.size (pkC p a)) (World.drew w1) := by rw [← hv1]; exact HQv1.out
 have hSD := HQv1.out
 have HWD := Lib.hid hv1
 clear hv1 hbD
 refine wp_region_held_drew (S := fun w' => MT 38 w' w.heap.size (pkC p a)) (by kernel_rfl) hbd (fun hHeld => ?_)
 rw [← HWD.out]
 clear hHeld
 have hHeld := hSD
 clear hSD hbd HWD
 refine tkP (i := 0) (h := ?_)
 refine tkP (i := 1) (h := ?_)
 refine rdA 2 (h := fun K hK => ?_)
 go_simp
 go_at_call 34
 refine (HU.out v1).mono ?_
 rintro e v2 ⟨rfl, hb⟩
 have HBv2 := Lib.hid (stepB HBv1.out hb)
 have HQv2 := Lib.hid (MT.step HQv1.out hb)
 have HPv2 := Lib.hid (PIn.step HPv1.out hb)
 clear HBv1 HQv1 HPv1
 clear hHeld hb
 go_wp2_with fail
 refine hK.out _ _ HQv2.out (fun hHeld => ?_)
 clear hK K
 try simp only [Act.put, List.setIfInBounds_toArray, List.set]
 refine rdA 3 (h := fun K hK => ?_)
 go_simp
 go_at_call 33
 refine (HS.out v2 HPv2.out).mono ?_
 rintro e v3 ⟨rfl, hb⟩
 have HBv3 := Lib.hid (stepB HBv2.out hb)
 have HQv3 := Lib.hid (MT.step HQv2.out hb)
 have HPv3 := Lib.hid (PIn.step HPv2.out hb)
 clear HBv2 HQv2 HPv2
 clear hHeld hb
 go_wp2_with fail
 refine hK.out _ _ HQv3.out (fun hHeld => ?_)
 clear hK K
 try simp only [Act.put, List.setIfInBounds_toArray, List.set]
 refine tkS (i := 4) (v := .bool false) (h := ?_)
 refine wpAnyH_done (by kernel_rfl) ?_ _
 have d0 : v3.cell? ⟨w.heap.size, 0, none⟩ = some (.int .i64 1) := (HQv3.out.cell 0).trans (by rw [← hk.out]; rfl)
 go_wp2_with (refine wpList_load_all (by rfl) 38 (.tmp 1) rfl w.heap.size rfl 38 _ (0, 0) _ HQv3.out Tryz.underlying38 rfl info33 ?_)
 refine (HC.out v3 (HO.out.step HBv3.out) HPv3.out).mono ?_
 rintro e w9 ⟨rfl, hb⟩
 have HB9 := Lib.hid (stepB HBv3.out hb)
 clear hb
 go_wp2_with fail
 go_ret
 exact ⟨reti (natc HV2.out.symm), HB9.out⟩
theorem check6_2 (p : Pkt) (a : PA) (w : World) (hw : S1.Okw w) (h : PIn w p a) (hz : PSz p) (_ht : PTx p) (hk0 : p.kind = 2) (hu : sameP p (usedP p) = true) :
 Calls Tryz.prog 14 #[pkV p a] w fun e w' => e = .returned (.int .i64 (checkP p)) ∧ Below w.heap.size w w' := by
 have hk := Lib.hid hk0
 have HU := Lib.hid (fun w => used_any p a w (by omega))
 have HS : Hid (∀ w, PIn w p a → Calls Tryz.prog 33 #[pkV p a, pkV (usedP p) (usedA p a)] w fun e w' => e = .returned (.bool true) ∧ Below w.heap.size w w') := Lib.hid (fun w h => by
  have := sameP_any p (usedP p) a (usedA p a) w h h.used hz hz.used
  rw [hu] at this; exact this)
 have H1 : Hid (∀ w, Calls Tryz.prog 32 #[.int .i64 p.kind, .int .i64 1, .int .i64 14] w fun e w' => e = .returned (.bool true) ∧ w = w') := Lib.hid (fun w => by
  have := within3_any p.kind 1 14 w
  rw [w3_yes (by omega)] at this; exact this)
 have HV := Lib.hid (checkP_in (by omega) hu)
 have HC := Lib.hid (fun w => checkConnack_any p a w)
 unfold pkV at HC
 generalize checkP p = r at HV ⊢
 unfold pkV at HU HS
 unfold pkV
 obtain ⟨w1, hw1, hb1, hm1⟩ := boxK w p a
 have c0 : w1.cell? ⟨w.heap.size, 0, none⟩ = some (.int .i64 p.kind) := hm1.cell 0
 have HQw1 := Lib.hid hm1
 have HBw1 := Lib.hid hb1
 have HPw1 := Lib.hid (h.step hb1)
 have HW1 := Lib.hid hw1
 have HO := Lib.hid hw
 clear hk0 hu hw h hz _ht hb1 hm1 hw1
 have HV2 : Hid (r = ackR p) := Lib.hid (HV.out.trans (by unfold bodyR; simp [hk.out]))
 clear HV
 go_enter Tryz.func14, Tryz.ntmps14
 go_upto_region 1 with fail
 rw [← HW1.out]
 go_wp2_with fail
 refine (H1.out w1).mono ?_
 rintro e w' ⟨rfl, rfl⟩
 go_upto_region 3 with fail
 obtain ⟨v1, hv1⟩ : ∃ v1, v1 = World.drew w1 := ⟨_, rfl⟩
 have hbD : Below w1.heap.size w1 v1 := by rw [hv1]; exact (Below.refl _ _).drew
 have HBv1 := Lib.hid (stepB HBw1.out hbD)
 have HQv1 := Lib.hid (MT.step HQw1.out hbD)
 have HPv1 := Lib.hid (PIn.step HPw1.out hbD)
 clear HBw1 HQw1 HPw1
 have hbd : (fun w' => MT 38 w' w.heap.size (pkC p a)) (World.drew w1) := by rw [← hv1]; exact HQv1.out
 have hSD := HQv1.out
 have HWD := Lib.hid hv1
 clear hv1 hbD
 refine wp_region_held_drew (S := fun w' => MT 38 w' w.heap.size (pkC p a)) (by kernel_rfl) hbd (fun hHeld => ?_)
 rw [← HWD.out]
 clear hHeld
 have hHeld := hSD
 clear hSD hbd HWD
 refine tkP (i := 0) (h := ?_)
 refine tkP (i := 1) (h := ?_)
 refine rdA 2 (h := fun K hK => ?_)
 go_simp
 go_at_call 34
 refine (HU.out v1).mono ?_
 rintro e v2 ⟨rfl, hb⟩
 have HBv2 := Lib.hid (stepB HBv1.out hb)
 have HQv2 := Lib.hid (MT.step HQv1.out hb)
 have HPv2 := Lib.hid (PIn.step HPv1.out hb)
 clear HBv1 HQv1 HPv1
 clear hHeld hb
 go_wp2_with fail
 refine hK.out _ _ HQv2.out (fun hHeld => ?_)
 clear hK K
 try simp only [Act.put, List.setIfInBounds_toArray, List.set]
 refine rdA 3 (h := fun K hK => ?_)
 go_simp
 go_at_call 33
 refine (HS.out v2 HPv2.out).mono ?_
 rintro e v3 ⟨rfl, hb⟩
 have HBv3 := Lib.hid (stepB HBv2.out hb)
 have HQv3 := Lib.hid (MT.step HQv2.out hb)
 have HPv3 := Lib.hid (PIn.step HPv2.out hb)
 clear HBv2 HQv2 HPv2
 clear hHeld hb
 go_wp2_with fail
 refine hK.out _ _ HQv3.out (fun hHeld => ?_)
 clear hK K
 try simp only [Act.put, List.setIfInBounds_toArray, List.set]
 refine tkS (i := 4) (v := .bool false) (h := ?_)
 refine wpAnyH_done (by kernel_rfl) ?_ _
 have d0 : v3.cell? ⟨w.heap.size, 0, none⟩ = some (.int .i64 2) := (HQv3.out.cell 0).trans (by rw [← hk.out]; rfl)
 go_wp2_with (refine wpList_load_all (by rfl) 38 (.tmp 1) rfl w.heap.size rfl 38 _ (0, 0) _ HQv3.out Tryz.underlying38 rfl info33 ?_)
 refine (HC.out v3).mono ?_
 rintro e w9 ⟨rfl, hb⟩
 have HB9 := Lib.hid (stepB HBv3.out hb)
 clear hb
 go_wp2_with fail
 go_ret
 exact ⟨reti (natc HV2.out.symm), HB9.out⟩
theorem check6_3 (p : Pkt) (a : PA) (w : World) (hw : S1.Okw w) (h : PIn w p a) (hz : PSz p) (_ht : PTx p) (hk0 : p.kind = 3) (hu : sameP p (usedP p) = true) :
 Calls Tryz.prog 14 #[pkV p a] w fun e w' => e = .returned (.int .i64 (checkP p)) ∧ Below w.heap.size w w' := by
 have hk := Lib.hid hk0
 have HU := Lib.hid (fun w => used_any p a w (by omega))
 have HS : Hid (∀ w, PIn w p a → Calls Tryz.prog 33 #[pkV p a, pkV (usedP p) (usedA p a)] w fun e w' => e = .returned (.bool true) ∧ Below w.heap.size w w') := Lib.hid (fun w h => by
  have := sameP_any p (usedP p) a (usedA p a) w h h.used hz hz.used
  rw [hu] at this; exact this)
 have H1 : Hid (∀ w, Calls Tryz.prog 32 #[.int .i64 p.kind, .int .i64 1, .int .i64 14] w fun e w' => e = .returned (.bool true) ∧ w = w') := Lib.hid (fun w => by
  have := within3_any p.kind 1 14 w
  rw [w3_yes (by omega)] at this; exact this)
 have HV := Lib.hid (checkP_in (by omega) hu)
 have HC : Hid (∀ w, S1.Okw w → PIn w p a → Calls Tryz.prog 37 #[pkV p a] w fun e w' => e = .returned (.int .i64 (pubR p)) ∧ Below w.heap.size w w') := Lib.hid (fun w h1 h2 => checkPublish_any p a w h1 h2.m)
 unfold pkV at HC
 generalize checkP p = r at HV ⊢
 unfold pkV at HU HS
 unfold pkV
 obtain ⟨w1, hw1, hb1, hm1⟩ := boxK w p a
 have c0 : w1.cell? ⟨w.heap.size, 0, none⟩ = some (.int .i64 p.kind) := hm1.cell 0
 have HQw1 := Lib.hid hm1
 have HBw1 := Lib.hid hb1
 have HPw1 := Lib.hid (h.step hb1)
 have HW1 := Lib.hid hw1
 have HO := Lib.hid hw
 clear hk0 hu hw h hz _ht hb1 hm1 hw1
 have HV2 : Hid (r = pubR p) := Lib.hid (HV.out.trans (by unfold bodyR; simp [hk.out]))
 clear HV
 go_enter Tryz.func14, Tryz.ntmps14
 go_upto_region 1 with fail
 rw [← HW1.out]
 go_wp2_with fail
 refine (H1.out w1).mono ?_
 rintro e w' ⟨rfl, rfl⟩
 go_upto_region 3 with fail
 obtain ⟨v1, hv1⟩ : ∃ v1, v1 = World.drew w1 := ⟨_, rfl⟩
 have hbD : Below w1.heap.size w1 v1 := by rw [hv1]; exact (Below.refl _ _).drew
 have HBv1 := Lib.hid (stepB HBw1.out hbD)
 have HQv1 := Lib.hid (MT.step HQw1.out hbD)
 have HPv1 := Lib.hid (PIn.step HPw1.out hbD)
 clear HBw1 HQw1 HPw1
 have hbd : (fun w' => MT 38 w' w.heap.size (pkC p a)) (World.drew w1) := by rw [← hv1]; exact HQv1.out
 have hSD := HQv1.out
 have HWD := Lib.hid hv1
 clear hv1 hbD
 refine wp_region_held_drew (S := fun w' => MT 38 w' w.heap.size (pkC p a)) (by kernel_rfl) hbd (fun hHeld => ?_)
 rw [← HWD.out]
 clear hHeld
 have hHeld := hSD
 clear hSD hbd HWD
 refine tkP (i := 0) (h := ?_)
 refine tkP (i := 1) (h := ?_)
 refine rdA 2 (h := fun K hK => ?_)
 go_simp
 go_at_call 34
 refine (HU.out v1).mono ?_
 rintro e v2 ⟨rfl, hb⟩
 have HBv2 := Lib.hid (stepB HBv1.out hb)
 have HQv2 := Lib.hid (MT.step HQv1.out hb)
 have HPv2 := Lib.hid (PIn.step HPv1.out hb)
 clear HBv1 HQv1 HPv1
 clear hHeld hb
 go_wp2_with fail
 refine hK.out _ _ HQv2.out (fun hHeld => ?_)
 clear hK K
 try simp only [Act.put, List.setIfInBounds_toArray, List.set]
 refine rdA 3 (h := fun K hK => ?_)
 go_simp
 go_at_call 33
 refine (HS.out v2 HPv2.out).mono ?_
 rintro e v3 ⟨rfl, hb⟩
 have HBv3 := Lib.hid (stepB HBv2.out hb)
 have HQv3 := Lib.hid (MT.step HQv2.out hb)
 have HPv3 := Lib.hid (PIn.step HPv2.out hb)
 clear HBv2 HQv2 HPv2
 clear hHeld hb
 go_wp2_with fail
 refine hK.out _ _ HQv3.out (fun hHeld => ?_)
 clear hK K
 try simp only [Act.put, List.setIfInBounds_toArray, List.set]
 refine tkS (i := 4) (v := .bool false) (h := ?_)
 refine wpAnyH_done (by kernel_rfl) ?_ _
 have d0 : v3.cell? ⟨w.heap.size, 0, none⟩ = some (.int .i64 3) := (HQv3.out.cell 0).trans (by rw [← hk.out]; rfl)
 go_wp2_with (refine wpList_load_all (by rfl) 38 (.tmp 1) rfl w.heap.size rfl 38 _ (0, 0) _ HQv3.out Tryz.underlying38 rfl info33 ?_)
 refine (HC.out v3 (HO.out.step HBv3.out) HPv3.out).mono ?_
 rintro e w9 ⟨rfl, hb⟩
 have HB9 := Lib.hid (stepB HBv3.out hb)
 clear hb
 go_wp2_with fail
 go_ret
 exact ⟨reti (natc HV2.out.symm), HB9.out⟩
theorem check6_4 (p : Pkt) (a : PA) (w : World) (hw : S1.Okw w) (h : PIn w p a) (hz : PSz p) (_ht : PTx p) (hk0 : p.kind = 4) (hu : sameP p (usedP p) = true) :
 Calls Tryz.prog 14 #[pkV p a] w fun e w' => e = .returned (.int .i64 (checkP p)) ∧ Below w.heap.size w w' := by
 have hk := Lib.hid hk0
 have HU := Lib.hid (fun w => used_any p a w (by omega))
 have HS : Hid (∀ w, PIn w p a → Calls Tryz.prog 33 #[pkV p a, pkV (usedP p) (usedA p a)] w fun e w' => e = .returned (.bool true) ∧ Below w.heap.size w w') := Lib.hid (fun w h => by
  have := sameP_any p (usedP p) a (usedA p a) w h h.used hz hz.used
  rw [hu] at this; exact this)
 have H1 : Hid (∀ w, Calls Tryz.prog 32 #[.int .i64 p.kind, .int .i64 1, .int .i64 14] w fun e w' => e = .returned (.bool true) ∧ w = w') := Lib.hid (fun w => by
  have := within3_any p.kind 1 14 w
  rw [w3_yes (by omega)] at this; exact this)
 have HV := Lib.hid (checkP_in (by omega) hu)
 have HC := Lib.hid (fun w => checkID_any p.id w)
 generalize checkP p = r at HV ⊢
 unfold pkV at HU HS
 unfold pkV
 obtain ⟨w1, hw1, hb1, hm1⟩ := boxK w p a
 have c0 : w1.cell? ⟨w.heap.size, 0, none⟩ = some (.int .i64 p.kind) := hm1.cell 0
 have HQw1 := Lib.hid hm1
 have HBw1 := Lib.hid hb1
 have HPw1 := Lib.hid (h.step hb1)
 have HW1 := Lib.hid hw1
 have HO := Lib.hid hw
 clear hk0 hu hw h hz _ht hb1 hm1 hw1
 have HV2 : Hid (r = idR p.id) := Lib.hid (HV.out.trans (by unfold bodyR; simp [hk.out]))
 clear HV
 go_enter Tryz.func14, Tryz.ntmps14
 go_upto_region 1 with fail
 rw [← HW1.out]
 go_wp2_with fail
 refine (H1.out w1).mono ?_
 rintro e w' ⟨rfl, rfl⟩
 go_upto_region 3 with fail
 obtain ⟨v1, hv1⟩ : ∃ v1, v1 = World.drew w1 := ⟨_, rfl⟩
 have hbD : Below w1.heap.size w1 v1 := by rw [hv1]; exact (Below.refl _ _).drew
 have HBv1 := Lib.hid (stepB HBw1.out hbD)
 have HQv1 := Lib.hid (MT.step HQw1.out hbD)
 have HPv1 := Lib.hid (PIn.step HPw1.out hbD)
 clear HBw1 HQw1 HPw1
 have hbd : (fun w' => MT 38 w' w.heap.size (pkC p a)) (World.drew w1) := by rw [← hv1]; exact HQv1.out
 have hSD := HQv1.out
 have HWD := Lib.hid hv1
 clear hv1 hbD
 refine wp_region_held_drew (S := fun w' => MT 38 w' w.heap.size (pkC p a)) (by kernel_rfl) hbd (fun hHeld => ?_)
 rw [← HWD.out]
 clear hHeld
 have hHeld := hSD
 clear hSD hbd HWD
 refine tkP (i := 0) (h := ?_)
 refine tkP (i := 1) (h := ?_)
 refine rdA 2 (h := fun K hK => ?_)
 go_simp
 go_at_call 34
 refine (HU.out v1).mono ?_
 rintro e v2 ⟨rfl, hb⟩
 have HBv2 := Lib.hid (stepB HBv1.out hb)
 have HQv2 := Lib.hid (MT.step HQv1.out hb)
 have HPv2 := Lib.hid (PIn.step HPv1.out hb)
 clear HBv1 HQv1 HPv1
 clear hHeld hb
 go_wp2_with fail
 refine hK.out _ _ HQv2.out (fun hHeld => ?_)
 clear hK K
 try simp only [Act.put, List.setIfInBounds_toArray, List.set]
 refine rdA 3 (h := fun K hK => ?_)
 go_simp
 go_at_call 33
 refine (HS.out v2 HPv2.out).mono ?_
 rintro e v3 ⟨rfl, hb⟩
 have HBv3 := Lib.hid (stepB HBv2.out hb)
 have HQv3 := Lib.hid (MT.step HQv2.out hb)
 have HPv3 := Lib.hid (PIn.step HPv2.out hb)
 clear HBv2 HQv2 HPv2
 clear hHeld hb
 go_wp2_with fail
 refine hK.out _ _ HQv3.out (fun hHeld => ?_)
 clear hK K
 try simp only [Act.put, List.setIfInBounds_toArray, List.set]
 refine tkS (i := 4) (v := .bool false) (h := ?_)
 refine wpAnyH_done (by kernel_rfl) ?_ _
 have d0 : v3.cell? ⟨w.heap.size, 0, none⟩ = some (.int .i64 4) := (HQv3.out.cell 0).trans (by rw [← hk.out]; rfl)
 have d1 : v3.cell? ⟨w.heap.size, 1, none⟩ = some (.int .i64 p.id) := HQv3.out.cell 1
 go_wp2_with fail
 refine (HC.out v3).mono ?_
 rintro e w' ⟨rfl, rfl⟩
 go_wp2_with fail
 go_ret
 exact ⟨reti (natc HV2.out.symm), HBv3.out⟩
theorem check6_5 (p : Pkt) (a : PA) (w : World) (hw : S1.Okw w) (h : PIn w p a) (hz : PSz p) (_ht : PTx p) (hk0 : p.kind = 5) (hu : sameP p (usedP p) = true) :
 Calls Tryz.prog 14 #[pkV p a] w fun e w' => e = .returned (.int .i64 (checkP p)) ∧ Below w.heap.size w w' := by
 have hk := Lib.hid hk0
 have HU := Lib.hid (fun w => used_any p a w (by omega))
 have HS : Hid (∀ w, PIn w p a → Calls Tryz.prog 33 #[pkV p a, pkV (usedP p) (usedA p a)] w fun e w' => e = .returned (.bool true) ∧ Below w.heap.size w w') := Lib.hid (fun w h => by
  have := sameP_any p (usedP p) a (usedA p a) w h h.used hz hz.used
  rw [hu] at this; exact this)
 have H1 : Hid (∀ w, Calls Tryz.prog 32 #[.int .i64 p.kind, .int .i64 1, .int .i64 14] w fun e w' => e = .returned (.bool true) ∧ w = w') := Lib.hid (fun w => by
  have := within3_any p.kind 1 14 w
  rw [w3_yes (by omega)] at this; exact this)
 have HV := Lib.hid (checkP_in (by omega) hu)
 have HC := Lib.hid (fun w => checkID_any p.id w)
 generalize checkP p = r at HV ⊢
 unfold pkV at HU HS
 unfold pkV
 obtain ⟨w1, hw1, hb1, hm1⟩ := boxK w p a
 have c0 : w1.cell? ⟨w.heap.size, 0, none⟩ = some (.int .i64 p.kind) := hm1.cell 0
 have HQw1 := Lib.hid hm1
 have HBw1 := Lib.hid hb1
 have HPw1 := Lib.hid (h.step hb1)
 have HW1 := Lib.hid hw1
 have HO := Lib.hid hw
 clear hk0 hu hw h hz _ht hb1 hm1 hw1
 have HV2 : Hid (r = idR p.id) := Lib.hid (HV.out.trans (by unfold bodyR; simp [hk.out]))
 clear HV
 go_enter Tryz.func14, Tryz.ntmps14
 go_upto_region 1 with fail
 rw [← HW1.out]
 go_wp2_with fail
 refine (H1.out w1).mono ?_
 rintro e w' ⟨rfl, rfl⟩
 go_upto_region 3 with fail
 obtain ⟨v1, hv1⟩ : ∃ v1, v1 = World.drew w1 := ⟨_, rfl⟩
 have hbD : Below w1.heap.size w1 v1 := by rw [hv1]; exact (Below.refl _ _).drew
 have HBv1 := Lib.hid (stepB HBw1.out hbD)
 have HQv1 := Lib.hid (MT.step HQw1.out hbD)
 have HPv1 := Lib.hid (PIn.step HPw1.out hbD)
 clear HBw1 HQw1 HPw1
 have hbd : (fun w' => MT 38 w' w.heap.size (pkC p a)) (World.drew w1) := by rw [← hv1]; exact HQv1.out
 have hSD := HQv1.out
 have HWD := Lib.hid hv1
 clear hv1 hbD
 refine wp_region_held_drew (S := fun w' => MT 38 w' w.heap.size (pkC p a)) (by kernel_rfl) hbd (fun hHeld => ?_)
 rw [← HWD.out]
 clear hHeld
 have hHeld := hSD
 clear hSD hbd HWD
 refine tkP (i := 0) (h := ?_)
 refine tkP (i := 1) (h := ?_)
 refine rdA 2 (h := fun K hK => ?_)
 go_simp
 go_at_call 34
 refine (HU.out v1).mono ?_
 rintro e v2 ⟨rfl, hb⟩
 have HBv2 := Lib.hid (stepB HBv1.out hb)
 have HQv2 := Lib.hid (MT.step HQv1.out hb)
 have HPv2 := Lib.hid (PIn.step HPv1.out hb)
 clear HBv1 HQv1 HPv1
 clear hHeld hb
 go_wp2_with fail
 refine hK.out _ _ HQv2.out (fun hHeld => ?_)
 clear hK K
 try simp only [Act.put, List.setIfInBounds_toArray, List.set]
 refine rdA 3 (h := fun K hK => ?_)
 go_simp
 go_at_call 33
 refine (HS.out v2 HPv2.out).mono ?_
 rintro e v3 ⟨rfl, hb⟩
 have HBv3 := Lib.hid (stepB HBv2.out hb)
 have HQv3 := Lib.hid (MT.step HQv2.out hb)
 have HPv3 := Lib.hid (PIn.step HPv2.out hb)
 clear HBv2 HQv2 HPv2
 clear hHeld hb
 go_wp2_with fail
 refine hK.out _ _ HQv3.out (fun hHeld => ?_)
 clear hK K
 try simp only [Act.put, List.setIfInBounds_toArray, List.set]
 refine tkS (i := 4) (v := .bool false) (h := ?_)
 refine wpAnyH_done (by kernel_rfl) ?_ _
 have d0 : v3.cell? ⟨w.heap.size, 0, none⟩ = some (.int .i64 5) := (HQv3.out.cell 0).trans (by rw [← hk.out]; rfl)
 have d1 : v3.cell? ⟨w.heap.size, 1, none⟩ = some (.int .i64 p.id) := HQv3.out.cell 1
 go_wp2_with fail
 refine (HC.out v3).mono ?_
 rintro e w' ⟨rfl, rfl⟩
 go_wp2_with fail
 go_ret
 exact ⟨reti (natc HV2.out.symm), HBv3.out⟩
theorem check6_6 (p : Pkt) (a : PA) (w : World) (hw : S1.Okw w) (h : PIn w p a) (hz : PSz p) (_ht : PTx p) (hk0 : p.kind = 6) (hu : sameP p (usedP p) = true) :
 Calls Tryz.prog 14 #[pkV p a] w fun e w' => e = .returned (.int .i64 (checkP p)) ∧ Below w.heap.size w w' := by
 have hk := Lib.hid hk0
 have HU := Lib.hid (fun w => used_any p a w (by omega))
 have HS : Hid (∀ w, PIn w p a → Calls Tryz.prog 33 #[pkV p a, pkV (usedP p) (usedA p a)] w fun e w' => e = .returned (.bool true) ∧ Below w.heap.size w w') := Lib.hid (fun w h => by
  have := sameP_any p (usedP p) a (usedA p a) w h h.used hz hz.used
  rw [hu] at this; exact this)
 have H1 : Hid (∀ w, Calls Tryz.prog 32 #[.int .i64 p.kind, .int .i64 1, .int .i64 14] w fun e w' => e = .returned (.bool true) ∧ w = w') := Lib.hid (fun w => by
  have := within3_any p.kind 1 14 w
  rw [w3_yes (by omega)] at this; exact this)
 have HV := Lib.hid (checkP_in (by omega) hu)
 have HC := Lib.hid (fun w => checkID_any p.id w)
 generalize checkP p = r at HV ⊢
 unfold pkV at HU HS
 unfold pkV
 obtain ⟨w1, hw1, hb1, hm1⟩ := boxK w p a
 have c0 : w1.cell? ⟨w.heap.size, 0, none⟩ = some (.int .i64 p.kind) := hm1.cell 0
 have HQw1 := Lib.hid hm1
 have HBw1 := Lib.hid hb1
 have HPw1 := Lib.hid (h.step hb1)
 have HW1 := Lib.hid hw1
 have HO := Lib.hid hw
 clear hk0 hu hw h hz _ht hb1 hm1 hw1
 have HV2 : Hid (r = idR p.id) := Lib.hid (HV.out.trans (by unfold bodyR; simp [hk.out]))
 clear HV
 go_enter Tryz.func14, Tryz.ntmps14
 go_upto_region 1 with fail
 rw [← HW1.out]
 go_wp2_with fail
 refine (H1.out w1).mono ?_
 rintro e w' ⟨rfl, rfl⟩
 go_upto_region 3 with fail
 obtain ⟨v1, hv1⟩ : ∃ v1, v1 = World.drew w1 := ⟨_, rfl⟩
 have hbD : Below w1.heap.size w1 v1 := by rw [hv1]; exact (Below.refl _ _).drew
 have HBv1 := Lib.hid (stepB HBw1.out hbD)
 have HQv1 := Lib.hid (MT.step HQw1.out hbD)
 have HPv1 := Lib.hid (PIn.step HPw1.out hbD)
 clear HBw1 HQw1 HPw1
 have hbd : (fun w' => MT 38 w' w.heap.size (pkC p a)) (World.drew w1) := by rw [← hv1]; exact HQv1.out
 have hSD := HQv1.out
 have HWD := Lib.hid hv1
 clear hv1 hbD
 refine wp_region_held_drew (S := fun w' => MT 38 w' w.heap.size (pkC p a)) (by kernel_rfl) hbd (fun hHeld => ?_)
 rw [← HWD.out]
 clear hHeld
 have hHeld := hSD
 clear hSD hbd HWD
 refine tkP (i := 0) (h := ?_)
 refine tkP (i := 1) (h := ?_)
 refine rdA 2 (h := fun K hK => ?_)
 go_simp
 go_at_call 34
 refine (HU.out v1).mono ?_
 rintro e v2 ⟨rfl, hb⟩
 have HBv2 := Lib.hid (stepB HBv1.out hb)
 have HQv2 := Lib.hid (MT.step HQv1.out hb)
 have HPv2 := Lib.hid (PIn.step HPv1.out hb)
 clear HBv1 HQv1 HPv1
 clear hHeld hb
 go_wp2_with fail
 refine hK.out _ _ HQv2.out (fun hHeld => ?_)
 clear hK K
 try simp only [Act.put, List.setIfInBounds_toArray, List.set]
 refine rdA 3 (h := fun K hK => ?_)
 go_simp
 go_at_call 33
 refine (HS.out v2 HPv2.out).mono ?_
 rintro e v3 ⟨rfl, hb⟩
 have HBv3 := Lib.hid (stepB HBv2.out hb)
 have HQv3 := Lib.hid (MT.step HQv2.out hb)
 have HPv3 := Lib.hid (PIn.step HPv2.out hb)
 clear HBv2 HQv2 HPv2
 clear hHeld hb
 go_wp2_with fail
 refine hK.out _ _ HQv3.out (fun hHeld => ?_)
 clear hK K
 try simp only [Act.put, List.setIfInBounds_toArray, List.set]
 refine tkS (i := 4) (v := .bool false) (h := ?_)
 refine wpAnyH_done (by kernel_rfl) ?_ _
 have d0 : v3.cell? ⟨w.heap.size, 0, none⟩ = some (.int .i64 6) := (HQv3.out.cell 0).trans (by rw [← hk.out]; rfl)
 have d1 : v3.cell? ⟨w.heap.size, 1, none⟩ = some (.int .i64 p.id) := HQv3.out.cell 1
 go_wp2_with fail
 refine (HC.out v3).mono ?_
 rintro e w' ⟨rfl, rfl⟩
 go_wp2_with fail
 go_ret
 exact ⟨reti (natc HV2.out.symm), HBv3.out⟩
theorem check6_7 (p : Pkt) (a : PA) (w : World) (hw : S1.Okw w) (h : PIn w p a) (hz : PSz p) (_ht : PTx p) (hk0 : p.kind = 7) (hu : sameP p (usedP p) = true) :
 Calls Tryz.prog 14 #[pkV p a] w fun e w' => e = .returned (.int .i64 (checkP p)) ∧ Below w.heap.size w w' := by
 have hk := Lib.hid hk0
 have HU := Lib.hid (fun w => used_any p a w (by omega))
 have HS : Hid (∀ w, PIn w p a → Calls Tryz.prog 33 #[pkV p a, pkV (usedP p) (usedA p a)] w fun e w' => e = .returned (.bool true) ∧ Below w.heap.size w w') := Lib.hid (fun w h => by
  have := sameP_any p (usedP p) a (usedA p a) w h h.used hz hz.used
  rw [hu] at this; exact this)
 have H1 : Hid (∀ w, Calls Tryz.prog 32 #[.int .i64 p.kind, .int .i64 1, .int .i64 14] w fun e w' => e = .returned (.bool true) ∧ w = w') := Lib.hid (fun w => by
  have := within3_any p.kind 1 14 w
  rw [w3_yes (by omega)] at this; exact this)
 have HV := Lib.hid (checkP_in (by omega) hu)
 have HC := Lib.hid (fun w => checkID_any p.id w)
 generalize checkP p = r at HV ⊢
 unfold pkV at HU HS
 unfold pkV
 obtain ⟨w1, hw1, hb1, hm1⟩ := boxK w p a
 have c0 : w1.cell? ⟨w.heap.size, 0, none⟩ = some (.int .i64 p.kind) := hm1.cell 0
 have HQw1 := Lib.hid hm1
 have HBw1 := Lib.hid hb1
 have HPw1 := Lib.hid (h.step hb1)
 have HW1 := Lib.hid hw1
 have HO := Lib.hid hw
 clear hk0 hu hw h hz _ht hb1 hm1 hw1
 have HV2 : Hid (r = idR p.id) := Lib.hid (HV.out.trans (by unfold bodyR; simp [hk.out]))
 clear HV
 go_enter Tryz.func14, Tryz.ntmps14
 go_upto_region 1 with fail
 rw [← HW1.out]
 go_wp2_with fail
 refine (H1.out w1).mono ?_
 rintro e w' ⟨rfl, rfl⟩
 go_upto_region 3 with fail
 obtain ⟨v1, hv1⟩ : ∃ v1, v1 = World.drew w1 := ⟨_, rfl⟩
 have hbD : Below w1.heap.size w1 v1 := by rw [hv1]; exact (Below.refl _ _).drew
 have HBv1 := Lib.hid (stepB HBw1.out hbD)
 have HQv1 := Lib.hid (MT.step HQw1.out hbD)
 have HPv1 := Lib.hid (PIn.step HPw1.out hbD)
 clear HBw1 HQw1 HPw1
 have hbd : (fun w' => MT 38 w' w.heap.size (pkC p a)) (World.drew w1) := by rw [← hv1]; exact HQv1.out
 have hSD := HQv1.out
 have HWD := Lib.hid hv1
 clear hv1 hbD
 refine wp_region_held_drew (S := fun w' => MT 38 w' w.heap.size (pkC p a)) (by kernel_rfl) hbd (fun hHeld => ?_)
 rw [← HWD.out]
 clear hHeld
 have hHeld := hSD
 clear hSD hbd HWD
 refine tkP (i := 0) (h := ?_)
 refine tkP (i := 1) (h := ?_)
 refine rdA 2 (h := fun K hK => ?_)
 go_simp
 go_at_call 34
 refine (HU.out v1).mono ?_
 rintro e v2 ⟨rfl, hb⟩
 have HBv2 := Lib.hid (stepB HBv1.out hb)
 have HQv2 := Lib.hid (MT.step HQv1.out hb)
 have HPv2 := Lib.hid (PIn.step HPv1.out hb)
 clear HBv1 HQv1 HPv1
 clear hHeld hb
 go_wp2_with fail
 refine hK.out _ _ HQv2.out (fun hHeld => ?_)
 clear hK K
 try simp only [Act.put, List.setIfInBounds_toArray, List.set]
 refine rdA 3 (h := fun K hK => ?_)
 go_simp
 go_at_call 33
 refine (HS.out v2 HPv2.out).mono ?_
 rintro e v3 ⟨rfl, hb⟩
 have HBv3 := Lib.hid (stepB HBv2.out hb)
 have HQv3 := Lib.hid (MT.step HQv2.out hb)
 have HPv3 := Lib.hid (PIn.step HPv2.out hb)
 clear HBv2 HQv2 HPv2
 clear hHeld hb
 go_wp2_with fail
 refine hK.out _ _ HQv3.out (fun hHeld => ?_)
 clear hK K
 try simp only [Act.put, List.setIfInBounds_toArray, List.set]
 refine tkS (i := 4) (v := .bool false) (h := ?_)
 refine wpAnyH_done (by kernel_rfl) ?_ _
 have d0 : v3.cell? ⟨w.heap.size, 0, none⟩ = some (.int .i64 7) := (HQv3.out.cell 0).trans (by rw [← hk.out]; rfl)
 have d1 : v3.cell? ⟨w.heap.size, 1, none⟩ = some (.int .i64 p.id) := HQv3.out.cell 1
 go_wp2_with fail
 refine (HC.out v3).mono ?_
 rintro e w' ⟨rfl, rfl⟩
 go_wp2_with fail
 go_ret
 exact ⟨reti (natc HV2.out.symm), HBv3.out⟩
theorem check6_8 (p : Pkt) (a : PA) (w : World) (hw : S1.Okw w) (h : PIn w p a) (hz : PSz p) (ht : PTx p) (hk0 : p.kind = 8) (hu : sameP p (usedP p) = true) :
 Calls Tryz.prog 14 #[pkV p a] w fun e w' => e = .returned (.int .i64 (checkP p)) ∧ Below w.heap.size w w' := by
 have hk := Lib.hid hk0
 have HU := Lib.hid (fun w => used_any p a w (by omega))
 have HS : Hid (∀ w, PIn w p a → Calls Tryz.prog 33 #[pkV p a, pkV (usedP p) (usedA p a)] w fun e w' => e = .returned (.bool true) ∧ Below w.heap.size w w') := Lib.hid (fun w h => by
  have := sameP_any p (usedP p) a (usedA p a) w h h.used hz hz.used
  rw [hu] at this; exact this)
 have H1 : Hid (∀ w, Calls Tryz.prog 32 #[.int .i64 p.kind, .int .i64 1, .int .i64 14] w fun e w' => e = .returned (.bool true) ∧ w = w') := Lib.hid (fun w => by
  have := within3_any p.kind 1 14 w
  rw [w3_yes (by omega)] at this; exact this)
 have HV := Lib.hid (checkP_in (by omega) hu)
 have HC : Hid (∀ w, S1.Okw w → PIn w p a → Calls Tryz.prog 39 #[.int .i64 p.id, .slice a.s p.subs.length a.sc, .func (.func 40) #[] #[]] w fun e w' => e = .returned (.int .i64 (listR p.id p.subs subR)) ∧ Below w.heap.size w w') := Lib.hid (fun w h1 h2 => checkListS_any p.id a.s a.sc p.subs w h1 ht.s h2.s hz.s)
 generalize checkP p = r at HV ⊢
 unfold pkV at HU HS
 unfold pkV
 obtain ⟨w1, hw1, hb1, hm1⟩ := boxK w p a
 have c0 : w1.cell? ⟨w.heap.size, 0, none⟩ = some (.int .i64 p.kind) := hm1.cell 0
 have HQw1 := Lib.hid hm1
 have HBw1 := Lib.hid hb1
 have HPw1 := Lib.hid (h.step hb1)
 have HW1 := Lib.hid hw1
 have HO := Lib.hid hw
 clear hk0 hu hw h hz ht hb1 hm1 hw1
 have HV2 : Hid (r = listR p.id p.subs subR) := Lib.hid (HV.out.trans (by unfold bodyR; simp [hk.out]))
 clear HV
 go_enter Tryz.func14, Tryz.ntmps14
 go_upto_region 1 with fail
 rw [← HW1.out]
 go_wp2_with fail
 refine (H1.out w1).mono ?_
 rintro e w' ⟨rfl, rfl⟩
 go_upto_region 3 with fail
 obtain ⟨v1, hv1⟩ : ∃ v1, v1 = World.drew w1 := ⟨_, rfl⟩
 have hbD : Below w1.heap.size w1 v1 := by rw [hv1]; exact (Below.refl _ _).drew
 have HBv1 := Lib.hid (stepB HBw1.out hbD)
 have HQv1 := Lib.hid (MT.step HQw1.out hbD)
 have HPv1 := Lib.hid (PIn.step HPw1.out hbD)
 clear HBw1 HQw1 HPw1
 have hbd : (fun w' => MT 38 w' w.heap.size (pkC p a)) (World.drew w1) := by rw [← hv1]; exact HQv1.out
 have hSD := HQv1.out
 have HWD := Lib.hid hv1
 clear hv1 hbD
 refine wp_region_held_drew (S := fun w' => MT 38 w' w.heap.size (pkC p a)) (by kernel_rfl) hbd (fun hHeld => ?_)
 rw [← HWD.out]
 clear hHeld
 have hHeld := hSD
 clear hSD hbd HWD
 refine tkP (i := 0) (h := ?_)
 refine tkP (i := 1) (h := ?_)
 refine rdA 2 (h := fun K hK => ?_)
 go_simp
 go_at_call 34
 refine (HU.out v1).mono ?_
 rintro e v2 ⟨rfl, hb⟩
 have HBv2 := Lib.hid (stepB HBv1.out hb)
 have HQv2 := Lib.hid (MT.step HQv1.out hb)
 have HPv2 := Lib.hid (PIn.step HPv1.out hb)
 clear HBv1 HQv1 HPv1
 clear hHeld hb
 go_wp2_with fail
 refine hK.out _ _ HQv2.out (fun hHeld => ?_)
 clear hK K
 try simp only [Act.put, List.setIfInBounds_toArray, List.set]
 refine rdA 3 (h := fun K hK => ?_)
 go_simp
 go_at_call 33
 refine (HS.out v2 HPv2.out).mono ?_
 rintro e v3 ⟨rfl, hb⟩
 have HBv3 := Lib.hid (stepB HBv2.out hb)
 have HQv3 := Lib.hid (MT.step HQv2.out hb)
 have HPv3 := Lib.hid (PIn.step HPv2.out hb)
 clear HBv2 HQv2 HPv2
 clear hHeld hb
 go_wp2_with fail
 refine hK.out _ _ HQv3.out (fun hHeld => ?_)
 clear hK K
 try simp only [Act.put, List.setIfInBounds_toArray, List.set]
 refine tkS (i := 4) (v := .bool false) (h := ?_)
 refine wpAnyH_done (by kernel_rfl) ?_ _
 have d0 : v3.cell? ⟨w.heap.size, 0, none⟩ = some (.int .i64 8) := (HQv3.out.cell 0).trans (by rw [← hk.out]; rfl)
 have d1 : v3.cell? ⟨w.heap.size, 1, none⟩ = some (.int .i64 p.id) := HQv3.out.cell 1
 have d31 : v3.cell? ⟨w.heap.size, 31, none⟩ = some (.slice a.s p.subs.length a.sc) := HQv3.out.cell 31
 go_wp2_with fail
 refine (HC.out v3 (HO.out.step HBv3.out) HPv3.out).mono ?_
 rintro e w9 ⟨rfl, hb⟩
 have HB9 := Lib.hid (stepB HBv3.out hb)
 clear hb
 go_wp2_with fail
 go_ret
 exact ⟨reti (natc HV2.out.symm), HB9.out⟩
theorem check6_10 (p : Pkt) (a : PA) (w : World) (hw : S1.Okw w) (h : PIn w p a) (hz : PSz p) (ht : PTx p) (hk0 : p.kind = 10) (hu : sameP p (usedP p) = true) :
 Calls Tryz.prog 14 #[pkV p a] w fun e w' => e = .returned (.int .i64 (checkP p)) ∧ Below w.heap.size w w' := by
 have hk := Lib.hid hk0
 have HU := Lib.hid (fun w => used_any p a w (by omega))
 have HS : Hid (∀ w, PIn w p a → Calls Tryz.prog 33 #[pkV p a, pkV (usedP p) (usedA p a)] w fun e w' => e = .returned (.bool true) ∧ Below w.heap.size w w') := Lib.hid (fun w h => by
  have := sameP_any p (usedP p) a (usedA p a) w h h.used hz hz.used
  rw [hu] at this; exact this)
 have H1 : Hid (∀ w, Calls Tryz.prog 32 #[.int .i64 p.kind, .int .i64 1, .int .i64 14] w fun e w' => e = .returned (.bool true) ∧ w = w') := Lib.hid (fun w => by
  have := within3_any p.kind 1 14 w
  rw [w3_yes (by omega)] at this; exact this)
 have HV := Lib.hid (checkP_in (by omega) hu)
 have HC : Hid (∀ w, S1.Okw w → PIn w p a → Calls Tryz.prog 41 #[.int .i64 p.id, .slice a.f p.filters.length a.fc, .func (.func 42) #[] #[]] w fun e w' => e = .returned (.int .i64 (listR p.id p.filters filR)) ∧ Below w.heap.size w w') := Lib.hid (fun w h1 h2 => checkListF_any p.id a.f a.fc p.filters w h1 ht.f h2.f hz.f)
 generalize checkP p = r at HV ⊢
 unfold pkV at HU HS
 unfold pkV
 obtain ⟨w1, hw1, hb1, hm1⟩ := boxK w p a
 have c0 : w1.cell? ⟨w.heap.size, 0, none⟩ = some (.int .i64 p.kind) := hm1.cell 0
 have HQw1 := Lib.hid hm1
 have HBw1 := Lib.hid hb1
 have HPw1 := Lib.hid (h.step hb1)
 have HW1 := Lib.hid hw1
 have HO := Lib.hid hw
 clear hk0 hu hw h hz ht hb1 hm1 hw1
 have HV2 : Hid (r = listR p.id p.filters filR) := Lib.hid (HV.out.trans (by unfold bodyR; simp [hk.out]))
 clear HV
 go_enter Tryz.func14, Tryz.ntmps14
 go_upto_region 1 with fail
 rw [← HW1.out]
 go_wp2_with fail
 refine (H1.out w1).mono ?_
 rintro e w' ⟨rfl, rfl⟩
 go_upto_region 3 with fail
 obtain ⟨v1, hv1⟩ : ∃ v1, v1 = World.drew w1 := ⟨_, rfl⟩
 have hbD : Below w1.heap.size w1 v1 := by rw [hv1]; exact (Below.refl _ _).drew
 have HBv1 := Lib.hid (stepB HBw1.out hbD)
 have HQv1 := Lib.hid (MT.step HQw1.out hbD)
 have HPv1 := Lib.hid (PIn.step HPw1.out hbD)
 clear HBw1 HQw1 HPw1
 have hbd : (fun w' => MT 38 w' w.heap.size (pkC p a)) (World.drew w1) := by rw [← hv1]; exact HQv1.out
 have hSD := HQv1.out
 have HWD := Lib.hid hv1
 clear hv1 hbD
 refine wp_region_held_drew (S := fun w' => MT 38 w' w.heap.size (pkC p a)) (by kernel_rfl) hbd (fun hHeld => ?_)
 rw [← HWD.out]
 clear hHeld
 have hHeld := hSD
 clear hSD hbd HWD
 refine tkP (i := 0) (h := ?_)
 refine tkP (i := 1) (h := ?_)
 refine rdA 2 (h := fun K hK => ?_)
 go_simp
 go_at_call 34
 refine (HU.out v1).mono ?_
 rintro e v2 ⟨rfl, hb⟩
 have HBv2 := Lib.hid (stepB HBv1.out hb)
 have HQv2 := Lib.hid (MT.step HQv1.out hb)
 have HPv2 := Lib.hid (PIn.step HPv1.out hb)
 clear HBv1 HQv1 HPv1
 clear hHeld hb
 go_wp2_with fail
 refine hK.out _ _ HQv2.out (fun hHeld => ?_)
 clear hK K
 try simp only [Act.put, List.setIfInBounds_toArray, List.set]
 refine rdA 3 (h := fun K hK => ?_)
 go_simp
 go_at_call 33
 refine (HS.out v2 HPv2.out).mono ?_
 rintro e v3 ⟨rfl, hb⟩
 have HBv3 := Lib.hid (stepB HBv2.out hb)
 have HQv3 := Lib.hid (MT.step HQv2.out hb)
 have HPv3 := Lib.hid (PIn.step HPv2.out hb)
 clear HBv2 HQv2 HPv2
 clear hHeld hb
 go_wp2_with fail
 refine hK.out _ _ HQv3.out (fun hHeld => ?_)
 clear hK K
 try simp only [Act.put, List.setIfInBounds_toArray, List.set]
 refine tkS (i := 4) (v := .bool false) (h := ?_)
 refine wpAnyH_done (by kernel_rfl) ?_ _
 have d0 : v3.cell? ⟨w.heap.size, 0, none⟩ = some (.int .i64 10) := (HQv3.out.cell 0).trans (by rw [← hk.out]; rfl)
 have d1 : v3.cell? ⟨w.heap.size, 1, none⟩ = some (.int .i64 p.id) := HQv3.out.cell 1
 have d32 : v3.cell? ⟨w.heap.size, 32, none⟩ = some (.slice a.f p.filters.length a.fc) := HQv3.out.cell 32
 go_wp2_with fail
 refine (HC.out v3 (HO.out.step HBv3.out) HPv3.out).mono ?_
 rintro e w9 ⟨rfl, hb⟩
 have HB9 := Lib.hid (stepB HBv3.out hb)
 clear hb
 go_wp2_with fail
 go_ret
 exact ⟨reti (natc HV2.out.symm), HB9.out⟩
theorem check6_9 (p : Pkt) (a : PA) (w : World) (hw : S1.Okw w) (h : PIn w p a) (hz : PSz p) (_ht : PTx p) (hk0 : p.kind = 9) (hu : sameP p (usedP p) = true) :
 Calls Tryz.prog 14 #[pkV p a] w fun e w' => e = .returned (.int .i64 (checkP p)) ∧ Below w.heap.size w w' := by
 have hk := Lib.hid hk0
 have HU := Lib.hid (fun w => used_any p a w (by omega))
 have HS : Hid (∀ w, PIn w p a → Calls Tryz.prog 33 #[pkV p a, pkV (usedP p) (usedA p a)] w fun e w' => e = .returned (.bool true) ∧ Below w.heap.size w w') := Lib.hid (fun w h => by
  have := sameP_any p (usedP p) a (usedA p a) w h h.used hz hz.used
  rw [hu] at this; exact this)
 have H1 : Hid (∀ w, Calls Tryz.prog 32 #[.int .i64 p.kind, .int .i64 1, .int .i64 14] w fun e w' => e = .returned (.bool true) ∧ w = w') := Lib.hid (fun w => by
  have := within3_any p.kind 1 14 w
  rw [w3_yes (by omega)] at this; exact this)
 have HV := Lib.hid (checkP_in (by omega) hu)
 have HC : Hid (∀ w, PIn w p a → Calls Tryz.prog 43 #[.int .i64 p.id, .slice a.c p.codes.length a.cc, .func (.func 44) #[] #[]] w fun e w' => e = .returned (.int .i64 (listR p.id p.codes codR)) ∧ Below w.heap.size w w') := Lib.hid (fun w h2 => checkListC_any p.id a.c a.cc p.codes w h2.c hz.c)
 generalize checkP p = r at HV ⊢
 unfold pkV at HU HS
 unfold pkV
 obtain ⟨w1, hw1, hb1, hm1⟩ := boxK w p a
 have c0 : w1.cell? ⟨w.heap.size, 0, none⟩ = some (.int .i64 p.kind) := hm1.cell 0
 have HQw1 := Lib.hid hm1
 have HBw1 := Lib.hid hb1
 have HPw1 := Lib.hid (h.step hb1)
 have HW1 := Lib.hid hw1
 have HO := Lib.hid hw
 clear hk0 hu hw h hz _ht hb1 hm1 hw1
 have HV2 : Hid (r = listR p.id p.codes codR) := Lib.hid (HV.out.trans (by unfold bodyR; simp [hk.out]))
 clear HV
 go_enter Tryz.func14, Tryz.ntmps14
 go_upto_region 1 with fail
 rw [← HW1.out]
 go_wp2_with fail
 refine (H1.out w1).mono ?_
 rintro e w' ⟨rfl, rfl⟩
 go_upto_region 3 with fail
 obtain ⟨v1, hv1⟩ : ∃ v1, v1 = World.drew w1 := ⟨_, rfl⟩
 have hbD : Below w1.heap.size w1 v1 := by rw [hv1]; exact (Below.refl _ _).drew
 have HBv1 := Lib.hid (stepB HBw1.out hbD)
 have HQv1 := Lib.hid (MT.step HQw1.out hbD)
 have HPv1 := Lib.hid (PIn.step HPw1.out hbD)
 clear HBw1 HQw1 HPw1
 have hbd : (fun w' => MT 38 w' w.heap.size (pkC p a)) (World.drew w1) := by rw [← hv1]; exact HQv1.out
 have hSD := HQv1.out
 have HWD := Lib.hid hv1
 clear hv1 hbD
 refine wp_region_held_drew (S := fun w' => MT 38 w' w.heap.size (pkC p a)) (by kernel_rfl) hbd (fun hHeld => ?_)
 rw [← HWD.out]
 clear hHeld
 have hHeld := hSD
 clear hSD hbd HWD
 refine tkP (i := 0) (h := ?_)
 refine tkP (i := 1) (h := ?_)
 refine rdA 2 (h := fun K hK => ?_)
 go_simp
 go_at_call 34
 refine (HU.out v1).mono ?_
 rintro e v2 ⟨rfl, hb⟩
 have HBv2 := Lib.hid (stepB HBv1.out hb)
 have HQv2 := Lib.hid (MT.step HQv1.out hb)
 have HPv2 := Lib.hid (PIn.step HPv1.out hb)
 clear HBv1 HQv1 HPv1
 clear hHeld hb
 go_wp2_with fail
 refine hK.out _ _ HQv2.out (fun hHeld => ?_)
 clear hK K
 try simp only [Act.put, List.setIfInBounds_toArray, List.set]
 refine rdA 3 (h := fun K hK => ?_)
 go_simp
 go_at_call 33
 refine (HS.out v2 HPv2.out).mono ?_
 rintro e v3 ⟨rfl, hb⟩
 have HBv3 := Lib.hid (stepB HBv2.out hb)
 have HQv3 := Lib.hid (MT.step HQv2.out hb)
 have HPv3 := Lib.hid (PIn.step HPv2.out hb)
 clear HBv2 HQv2 HPv2
 clear hHeld hb
 go_wp2_with fail
 refine hK.out _ _ HQv3.out (fun hHeld => ?_)
 clear hK K
 try simp only [Act.put, List.setIfInBounds_toArray, List.set]
 refine tkS (i := 4) (v := .bool false) (h := ?_)
 refine wpAnyH_done (by kernel_rfl) ?_ _
 have d0 : v3.cell? ⟨w.heap.size, 0, none⟩ = some (.int .i64 9) := (HQv3.out.cell 0).trans (by rw [← hk.out]; rfl)
 have d1 : v3.cell? ⟨w.heap.size, 1, none⟩ = some (.int .i64 p.id) := HQv3.out.cell 1
 have d33 : v3.cell? ⟨w.heap.size, 33, none⟩ = some (.slice a.c p.codes.length a.cc) := HQv3.out.cell 33
 go_wp2_with fail
 refine (HC.out v3 HPv3.out).mono ?_
 rintro e w9 ⟨rfl, hb⟩
 have HB9 := Lib.hid (stepB HBv3.out hb)
 clear hb
 go_wp2_with fail
 go_ret
 exact ⟨reti (natc HV2.out.symm), HB9.out⟩
theorem check6_11 (p : Pkt) (a : PA) (w : World) (hw : S1.Okw w) (h : PIn w p a) (hz : PSz p) (_ht : PTx p) (hk0 : p.kind = 11) (hu : sameP p (usedP p) = true) :
 Calls Tryz.prog 14 #[pkV p a] w fun e w' => e = .returned (.int .i64 (checkP p)) ∧ Below w.heap.size w w' := by
 have hk := Lib.hid hk0
 have HU := Lib.hid (fun w => used_any p a w (by omega))
 have HS : Hid (∀ w, PIn w p a → Calls Tryz.prog 33 #[pkV p a, pkV (usedP p) (usedA p a)] w fun e w' => e = .returned (.bool true) ∧ Below w.heap.size w w') := Lib.hid (fun w h => by
  have := sameP_any p (usedP p) a (usedA p a) w h h.used hz hz.used
  rw [hu] at this; exact this)
 have H1 : Hid (∀ w, Calls Tryz.prog 32 #[.int .i64 p.kind, .int .i64 1, .int .i64 14] w fun e w' => e = .returned (.bool true) ∧ w = w') := Lib.hid (fun w => by
  have := within3_any p.kind 1 14 w
  rw [w3_yes (by omega)] at this; exact this)
 have HV := Lib.hid (checkP_in (by omega) hu)
 have HC : Hid (∀ w, PIn w p a → Calls Tryz.prog 43 #[.int .i64 p.id, .slice a.c p.codes.length a.cc, .func (.func 44) #[] #[]] w fun e w' => e = .returned (.int .i64 (listR p.id p.codes codR)) ∧ Below w.heap.size w w') := Lib.hid (fun w h2 => checkListC_any p.id a.c a.cc p.codes w h2.c hz.c)
 generalize checkP p = r at HV ⊢
 unfold pkV at HU HS
 unfold pkV
 obtain ⟨w1, hw1, hb1, hm1⟩ := boxK w p a
 have c0 : w1.cell? ⟨w.heap.size, 0, none⟩ = some (.int .i64 p.kind) := hm1.cell 0
 have HQw1 := Lib.hid hm1
 have HBw1 := Lib.hid hb1
 have HPw1 := Lib.hid (h.step hb1)
 have HW1 := Lib.hid hw1
 have HO := Lib.hid hw
 clear hk0 hu hw h hz _ht hb1 hm1 hw1
 have HV2 : Hid (r = listR p.id p.codes codR) := Lib.hid (HV.out.trans (by unfold bodyR; simp [hk.out]))
 clear HV
 go_enter Tryz.func14, Tryz.ntmps14
 go_upto_region 1 with fail
 rw [← HW1.out]
 go_wp2_with fail
 refine (H1.out w1).mono ?_
 rintro e w' ⟨rfl, rfl⟩
 go_upto_region 3 with fail
 obtain ⟨v1, hv1⟩ : ∃ v1, v1 = World.drew w1 := ⟨_, rfl⟩
 have hbD : Below w1.heap.size w1 v1 := by rw [hv1]; exact (Below.refl _ _).drew
 have HBv1 := Lib.hid (stepB HBw1.out hbD)
 have HQv1 := Lib.hid (MT.step HQw1.out hbD)
 have HPv1 := Lib.hid (PIn.step HPw1.out hbD)
 clear HBw1 HQw1 HPw1
 have hbd : (fun w' => MT 38 w' w.heap.size (pkC p a)) (World.drew w1) := by rw [← hv1]; exact HQv1.out
 have hSD := HQv1.out
 have HWD := Lib.hid hv1
 clear hv1 hbD
 refine wp_region_held_drew (S := fun w' => MT 38 w' w.heap.size (pkC p a)) (by kernel_rfl) hbd (fun hHeld => ?_)
 rw [← HWD.out]
 clear hHeld
 have hHeld := hSD
 clear hSD hbd HWD
 refine tkP (i := 0) (h := ?_)
 refine tkP (i := 1) (h := ?_)
 refine rdA 2 (h := fun K hK => ?_)
 go_simp
 go_at_call 34
 refine (HU.out v1).mono ?_
 rintro e v2 ⟨rfl, hb⟩
 have HBv2 := Lib.hid (stepB HBv1.out hb)
 have HQv2 := Lib.hid (MT.step HQv1.out hb)
 have HPv2 := Lib.hid (PIn.step HPv1.out hb)
 clear HBv1 HQv1 HPv1
 clear hHeld hb
 go_wp2_with fail
 refine hK.out _ _ HQv2.out (fun hHeld => ?_)
 clear hK K
 try simp only [Act.put, List.setIfInBounds_toArray, List.set]
 refine rdA 3 (h := fun K hK => ?_)
 go_simp
 go_at_call 33
 refine (HS.out v2 HPv2.out).mono ?_
 rintro e v3 ⟨rfl, hb⟩
 have HBv3 := Lib.hid (stepB HBv2.out hb)
 have HQv3 := Lib.hid (MT.step HQv2.out hb)
 have HPv3 := Lib.hid (PIn.step HPv2.out hb)
 clear HBv2 HQv2 HPv2
 clear hHeld hb
 go_wp2_with fail
 refine hK.out _ _ HQv3.out (fun hHeld => ?_)
 clear hK K
 try simp only [Act.put, List.setIfInBounds_toArray, List.set]
 refine tkS (i := 4) (v := .bool false) (h := ?_)
 refine wpAnyH_done (by kernel_rfl) ?_ _
 have d0 : v3.cell? ⟨w.heap.size, 0, none⟩ = some (.int .i64 11) := (HQv3.out.cell 0).trans (by rw [← hk.out]; rfl)
 have d1 : v3.cell? ⟨w.heap.size, 1, none⟩ = some (.int .i64 p.id) := HQv3.out.cell 1
 have d33 : v3.cell? ⟨w.heap.size, 33, none⟩ = some (.slice a.c p.codes.length a.cc) := HQv3.out.cell 33
 go_wp2_with fail
 refine (HC.out v3 HPv3.out).mono ?_
 rintro e w9 ⟨rfl, hb⟩
 have HB9 := Lib.hid (stepB HBv3.out hb)
 clear hb
 go_wp2_with fail
 go_ret
 exact ⟨reti (natc HV2.out.symm), HB9.out⟩
theorem check6_14 (p : Pkt) (a : PA) (w : World) (hw : S1.Okw w) (h : PIn w p a) (hz : PSz p) (_ht : PTx p) (hk0 : p.kind = 14) (hu : sameP p (usedP p) = true) :
 Calls Tryz.prog 14 #[pkV p a] w fun e w' => e = .returned (.int .i64 (checkP p)) ∧ Below w.heap.size w w' := by
 have hk := Lib.hid hk0
 have HU := Lib.hid (fun w => used_any p a w (by omega))
 have HS : Hid (∀ w, PIn w p a → Calls Tryz.prog 33 #[pkV p a, pkV (usedP p) (usedA p a)] w fun e w' => e = .returned (.bool true) ∧ Below w.heap.size w w') := Lib.hid (fun w h => by
  have := sameP_any p (usedP p) a (usedA p a) w h h.used hz hz.used
  rw [hu] at this; exact this)
 have H1 : Hid (∀ w, Calls Tryz.prog 32 #[.int .i64 p.kind, .int .i64 1, .int .i64 14] w fun e w' => e = .returned (.bool true) ∧ w = w') := Lib.hid (fun w => by
  have := within3_any p.kind 1 14 w
  rw [w3_yes (by omega)] at this; exact this)
 have HV := Lib.hid (checkP_in (by omega) hu)
 have HC := Lib.hid (fun w => checkCode_any p.code w)
 generalize checkP p = r at HV ⊢
 unfold pkV at HU HS
 unfold pkV
 obtain ⟨w1, hw1, hb1, hm1⟩ := boxK w p a
 have c0 : w1.cell? ⟨w.heap.size, 0, none⟩ = some (.int .i64 p.kind) := hm1.cell 0
 have HQw1 := Lib.hid hm1
 have HBw1 := Lib.hid hb1
 have HPw1 := Lib.hid (h.step hb1)
 have HW1 := Lib.hid hw1
 have HO := Lib.hid hw
 clear hk0 hu hw h hz _ht hb1 hm1 hw1
 have HV2 : Hid (r = codR p.code) := Lib.hid (HV.out.trans (by unfold bodyR; simp [hk.out]))
 clear HV
 go_enter Tryz.func14, Tryz.ntmps14
 go_upto_region 1 with fail
 rw [← HW1.out]
 go_wp2_with fail
 refine (H1.out w1).mono ?_
 rintro e w' ⟨rfl, rfl⟩
 go_upto_region 3 with fail
 obtain ⟨v1, hv1⟩ : ∃ v1, v1 = World.drew w1 := ⟨_, rfl⟩
 have hbD : Below w1.heap.size w1 v1 := by rw [hv1]; exact (Below.refl _ _).drew
 have HBv1 := Lib.hid (stepB HBw1.out hbD)
 have HQv1 := Lib.hid (MT.step HQw1.out hbD)
 have HPv1 := Lib.hid (PIn.step HPw1.out hbD)
 clear HBw1 HQw1 HPw1
 have hbd : (fun w' => MT 38 w' w.heap.size (pkC p a)) (World.drew w1) := by rw [← hv1]; exact HQv1.out
 have hSD := HQv1.out
 have HWD := Lib.hid hv1
 clear hv1 hbD
 refine wp_region_held_drew (S := fun w' => MT 38 w' w.heap.size (pkC p a)) (by kernel_rfl) hbd (fun hHeld => ?_)
 rw [← HWD.out]
 clear hHeld
 have hHeld := hSD
 clear hSD hbd HWD
 refine tkP (i := 0) (h := ?_)
 refine tkP (i := 1) (h := ?_)
 refine rdA 2 (h := fun K hK => ?_)
 go_simp
 go_at_call 34
 refine (HU.out v1).mono ?_
 rintro e v2 ⟨rfl, hb⟩
 have HBv2 := Lib.hid (stepB HBv1.out hb)
 have HQv2 := Lib.hid (MT.step HQv1.out hb)
 have HPv2 := Lib.hid (PIn.step HPv1.out hb)
 clear HBv1 HQv1 HPv1
 clear hHeld hb
 go_wp2_with fail
 refine hK.out _ _ HQv2.out (fun hHeld => ?_)
 clear hK K
 try simp only [Act.put, List.setIfInBounds_toArray, List.set]
 refine rdA 3 (h := fun K hK => ?_)
 go_simp
 go_at_call 33
 refine (HS.out v2 HPv2.out).mono ?_
 rintro e v3 ⟨rfl, hb⟩
 have HBv3 := Lib.hid (stepB HBv2.out hb)
 have HQv3 := Lib.hid (MT.step HQv2.out hb)
 have HPv3 := Lib.hid (PIn.step HPv2.out hb)
 clear HBv2 HQv2 HPv2
 clear hHeld hb
 go_wp2_with fail
 refine hK.out _ _ HQv3.out (fun hHeld => ?_)
 clear hK K
 try simp only [Act.put, List.setIfInBounds_toArray, List.set]
 refine tkS (i := 4) (v := .bool false) (h := ?_)
 refine wpAnyH_done (by kernel_rfl) ?_ _
 have d0 : v3.cell? ⟨w.heap.size, 0, none⟩ = some (.int .i64 14) := (HQv3.out.cell 0).trans (by rw [← hk.out]; rfl)
 have d30 : v3.cell? ⟨w.heap.size, 30, none⟩ = some (.int .i64 p.code) := HQv3.out.cell 30
 go_wp2_with fail
 refine (HC.out v3).mono ?_
 rintro e w' ⟨rfl, rfl⟩
 go_wp2_with fail
 go_ret
 exact ⟨reti (natc HV2.out.symm), HBv3.out⟩
theorem check6_12 (p : Pkt) (a : PA) (w : World) (hw : S1.Okw w) (h : PIn w p a) (hz : PSz p) (_ht : PTx p) (hk0 : p.kind = 12) (hu : sameP p (usedP p) = true) :
 Calls Tryz.prog 14 #[pkV p a] w fun e w' => e = .returned (.int .i64 (checkP p)) ∧ Below w.heap.size w w' := by
 have hk := Lib.hid hk0
 have HU := Lib.hid (fun w => used_any p a w (by omega))
 have HS : Hid (∀ w, PIn w p a → Calls Tryz.prog 33 #[pkV p a, pkV (usedP p) (usedA p a)] w fun e w' => e = .returned (.bool true) ∧ Below w.heap.size w w') := Lib.hid (fun w h => by
  have := sameP_any p (usedP p) a (usedA p a) w h h.used hz hz.used
  rw [hu] at this; exact this)
 have H1 : Hid (∀ w, Calls Tryz.prog 32 #[.int .i64 p.kind, .int .i64 1, .int .i64 14] w fun e w' => e = .returned (.bool true) ∧ w = w') := Lib.hid (fun w => by
  have := within3_any p.kind 1 14 w
  rw [w3_yes (by omega)] at this; exact this)
 have HV := Lib.hid (checkP_in (by omega) hu)
 generalize checkP p = r at HV ⊢
 unfold pkV at HU HS
 unfold pkV
 obtain ⟨w1, hw1, hb1, hm1⟩ := boxK w p a
 have c0 : w1.cell? ⟨w.heap.size, 0, none⟩ = some (.int .i64 p.kind) := hm1.cell 0
 have HQw1 := Lib.hid hm1
 have HBw1 := Lib.hid hb1
 have HPw1 := Lib.hid (h.step hb1)
 have HW1 := Lib.hid hw1
 have HO := Lib.hid hw
 clear hk0 hu hw h hz _ht hb1 hm1 hw1
 have HV2 : Hid (r = 0) := Lib.hid (HV.out.trans (by unfold bodyR; simp [hk.out]))
 clear HV
 go_enter Tryz.func14, Tryz.ntmps14
 go_upto_region 1 with fail
 rw [← HW1.out]
 go_wp2_with fail
 refine (H1.out w1).mono ?_
 rintro e w' ⟨rfl, rfl⟩
 go_upto_region 3 with fail
 obtain ⟨v1, hv1⟩ : ∃ v1, v1 = World.drew w1 := ⟨_, rfl⟩
 have hbD : Below w1.heap.size w1 v1 := by rw [hv1]; exact (Below.refl _ _).drew
 have HBv1 := Lib.hid (stepB HBw1.out hbD)
 have HQv1 := Lib.hid (MT.step HQw1.out hbD)
 have HPv1 := Lib.hid (PIn.step HPw1.out hbD)
 clear HBw1 HQw1 HPw1
 have hbd : (fun w' => MT 38 w' w.heap.size (pkC p a)) (World.drew w1) := by rw [← hv1]; exact HQv1.out
 have hSD := HQv1.out
 have HWD := Lib.hid hv1
 clear hv1 hbD
 refine wp_region_held_drew (S := fun w' => MT 38 w' w.heap.size (pkC p a)) (by kernel_rfl) hbd (fun hHeld => ?_)
 rw [← HWD.out]
 clear hHeld
 have hHeld := hSD
 clear hSD hbd HWD
 refine tkP (i := 0) (h := ?_)
 refine tkP (i := 1) (h := ?_)
 refine rdA 2 (h := fun K hK => ?_)
 go_simp
 go_at_call 34
 refine (HU.out v1).mono ?_
 rintro e v2 ⟨rfl, hb⟩
 have HBv2 := Lib.hid (stepB HBv1.out hb)
 have HQv2 := Lib.hid (MT.step HQv1.out hb)
 have HPv2 := Lib.hid (PIn.step HPv1.out hb)
 clear HBv1 HQv1 HPv1
 clear hHeld hb
 go_wp2_with fail
 refine hK.out _ _ HQv2.out (fun hHeld => ?_)
 clear hK K
 try simp only [Act.put, List.setIfInBounds_toArray, List.set]
 refine rdA 3 (h := fun K hK => ?_)
 go_simp
 go_at_call 33
 refine (HS.out v2 HPv2.out).mono ?_
 rintro e v3 ⟨rfl, hb⟩
 have HBv3 := Lib.hid (stepB HBv2.out hb)
 have HQv3 := Lib.hid (MT.step HQv2.out hb)
 have HPv3 := Lib.hid (PIn.step HPv2.out hb)
 clear HBv2 HQv2 HPv2
 clear hHeld hb
 go_wp2_with fail
 refine hK.out _ _ HQv3.out (fun hHeld => ?_)
 clear hK K
 try simp only [Act.put, List.setIfInBounds_toArray, List.set]
 refine tkS (i := 4) (v := .bool false) (h := ?_)
 refine wpAnyH_done (by kernel_rfl) ?_ _
 have d0 : v3.cell? ⟨w.heap.size, 0, none⟩ = some (.int .i64 12) := (HQv3.out.cell 0).trans (by rw [← hk.out]; rfl)
 go_wp2
 go_ret
 exact ⟨reti (natc HV2.out.symm), HBv3.out⟩
theorem check6_13 (p : Pkt) (a : PA) (w : World) (hw : S1.Okw w) (h : PIn w p a) (hz : PSz p) (_ht : PTx p) (hk0 : p.kind = 13) (hu : sameP p (usedP p) = true) :
 Calls Tryz.prog 14 #[pkV p a] w fun e w' => e = .returned (.int .i64 (checkP p)) ∧ Below w.heap.size w w' := by
 have hk := Lib.hid hk0
 have HU := Lib.hid (fun w => used_any p a w (by omega))
 have HS : Hid (∀ w, PIn w p a → Calls Tryz.prog 33 #[pkV p a, pkV (usedP p) (usedA p a)] w fun e w' => e = .returned (.bool true) ∧ Below w.heap.size w w') := Lib.hid (fun w h => by
  have := sameP_any p (usedP p) a (usedA p a) w h h.used hz hz.used
  rw [hu] at this; exact this)
 have H1 : Hid (∀ w, Calls Tryz.prog 32 #[.int .i64 p.kind, .int .i64 1, .int .i64 14] w fun e w' => e = .returned (.bool true) ∧ w = w') := Lib.hid (fun w => by
  have := within3_any p.kind 1 14 w
  rw [w3_yes (by omega)] at this; exact this)
 have HV := Lib.hid (checkP_in (by omega) hu)
 generalize checkP p = r at HV ⊢
 unfold pkV at HU HS
 unfold pkV
 obtain ⟨w1, hw1, hb1, hm1⟩ := boxK w p a
 have c0 : w1.cell? ⟨w.heap.size, 0, none⟩ = some (.int .i64 p.kind) := hm1.cell 0
 have HQw1 := Lib.hid hm1
 have HBw1 := Lib.hid hb1
 have HPw1 := Lib.hid (h.step hb1)
 have HW1 := Lib.hid hw1
 have HO := Lib.hid hw
 clear hk0 hu hw h hz _ht hb1 hm1 hw1
 have HV2 : Hid (r = 0) := Lib.hid (HV.out.trans (by unfold bodyR; simp [hk.out]))
 clear HV
 go_enter Tryz.func14, Tryz.ntmps14
 go_upto_region 1 with fail
 rw [← HW1.out]
 go_wp2_with fail
 refine (H1.out w1).mono ?_
 rintro e w' ⟨rfl, rfl⟩
 go_upto_region 3 with fail
 obtain ⟨v1, hv1⟩ : ∃ v1, v1 = World.drew w1 := ⟨_, rfl⟩
 have hbD : Below w1.heap.size w1 v1 := by rw [hv1]; exact (Below.refl _ _).drew
 have HBv1 := Lib.hid (stepB HBw1.out hbD)
 have HQv1 := Lib.hid (MT.step HQw1.out hbD)
 have HPv1 := Lib.hid (PIn.step HPw1.out hbD)
 clear HBw1 HQw1 HPw1
 have hbd : (fun w' => MT 38 w' w.heap.size (pkC p a)) (World.drew w1) := by rw [← hv1]; exact HQv1.out
 have hSD := HQv1.out
 have HWD := Lib.hid hv1
 clear hv1 hbD
 refine wp_region_held_drew (S := fun w' => MT 38 w' w.heap.size (pkC p a)) (by kernel_rfl) hbd (fun hHeld => ?_)
 rw [← HWD.out]
 clear hHeld
 have hHeld := hSD
 clear hSD hbd HWD
 refine tkP (i := 0) (h := ?_)
 refine tkP (i := 1) (h := ?_)
 refine rdA 2 (h := fun K hK => ?_)
 go_simp
 go_at_call 34
 refine (HU.out v1).mono ?_
 rintro e v2 ⟨rfl, hb⟩
 have HBv2 := Lib.hid (stepB HBv1.out hb)
 have HQv2 := Lib.hid (MT.step HQv1.out hb)
 have HPv2 := Lib.hid (PIn.step HPv1.out hb)
 clear HBv1 HQv1 HPv1
 clear hHeld hb
 go_wp2_with fail
 refine hK.out _ _ HQv2.out (fun hHeld => ?_)
 clear hK K
 try simp only [Act.put, List.setIfInBounds_toArray, List.set]
 refine rdA 3 (h := fun K hK => ?_)
 go_simp
 go_at_call 33
 refine (HS.out v2 HPv2.out).mono ?_
 rintro e v3 ⟨rfl, hb⟩
 have HBv3 := Lib.hid (stepB HBv2.out hb)
 have HQv3 := Lib.hid (MT.step HQv2.out hb)
 have HPv3 := Lib.hid (PIn.step HPv2.out hb)
 clear HBv2 HQv2 HPv2
 clear hHeld hb
 go_wp2_with fail
 refine hK.out _ _ HQv3.out (fun hHeld => ?_)
 clear hK K
 try simp only [Act.put, List.setIfInBounds_toArray, List.set]
 refine tkS (i := 4) (v := .bool false) (h := ?_)
 refine wpAnyH_done (by kernel_rfl) ?_ _
 have d0 : v3.cell? ⟨w.heap.size, 0, none⟩ = some (.int .i64 13) := (HQv3.out.cell 0).trans (by rw [← hk.out]; rfl)
 go_wp2
 go_ret
 exact ⟨reti (natc HV2.out.symm), HBv3.out⟩
theorem check6_any (p : Pkt) (a : PA) (w : World) (hw : S1.Okw w) (h : PIn w p a) (hz : PSz p) (ht : PTx p) :
 Calls Tryz.prog 14 #[pkV p a] w fun e w' => e = .returned (.int .i64 (checkP p)) ∧ Below w.heap.size w w' := by
 by_cases hr : p.kind < 1 ∨ 14 < p.kind
 · have HV := Lib.hid (checkP_out hr)
   have H1 : Hid (∀ w, Calls Tryz.prog 32 #[.int .i64 p.kind, .int .i64 1, .int .i64 14] w fun e w' => e = .returned (.bool false) ∧ w = w') := Lib.hid (fun w => by
    have := within3_any p.kind 1 14 w
    rw [w3_no hr] at this; exact this)
   generalize checkP p = r at HV ⊢
   unfold pkV
   obtain ⟨w1, hw1, hb1, hm1⟩ := boxK w p a
   have c0 : w1.cell? ⟨w.heap.size, 0, none⟩ = some (.int .i64 p.kind) := hm1.cell 0
   have HQw1 := Lib.hid hm1
   have HBw1 := Lib.hid hb1
   have HPw1 := Lib.hid (h.step hb1)
   have HW1 := Lib.hid hw1
   have HO := Lib.hid hw
   clear hr hw h hz ht hb1 hm1 hw1 HPw1 HO HQw1
   go_enter Tryz.func14, Tryz.ntmps14
   go_upto_region 1 with fail
   rw [← HW1.out]
   go_wp2_with fail
   refine (H1.out w1).mono ?_
   rintro e w' ⟨rfl, rfl⟩
   go_wp2_with fail
   go_ret
   exact ⟨reti (natc HV.out.symm), HBw1.out⟩
 · cases hu : sameP p (usedP p) with
   | false =>
     have HV := Lib.hid (checkP_bad hr hu)
     have HU := Lib.hid (fun w => used_any p a w (by omega))
     have HS : Hid (∀ w, PIn w p a → Calls Tryz.prog 33 #[pkV p a, pkV (usedP p) (usedA p a)] w fun e w' => e = .returned (.bool false) ∧ Below w.heap.size w w') := Lib.hid (fun w h => by
      have := sameP_any p (usedP p) a (usedA p a) w h h.used hz hz.used
      rw [hu] at this; exact this)
     have H1 : Hid (∀ w, Calls Tryz.prog 32 #[.int .i64 p.kind, .int .i64 1, .int .i64 14] w fun e w' => e = .returned (.bool true) ∧ w = w') := Lib.hid (fun w => by
      have := within3_any p.kind 1 14 w
      rw [w3_yes hr] at this; exact this)
     generalize checkP p = r at HV ⊢
     unfold pkV at HU HS
     unfold pkV
     obtain ⟨w1, hw1, hb1, hm1⟩ := boxK w p a
     have c0 : w1.cell? ⟨w.heap.size, 0, none⟩ = some (.int .i64 p.kind) := hm1.cell 0
     have HQw1 := Lib.hid hm1
     have HBw1 := Lib.hid hb1
     have HPw1 := Lib.hid (h.step hb1)
     have HW1 := Lib.hid hw1
     have HO := Lib.hid hw
     clear hr hu hw h hz ht hb1 hm1 hw1 HO
     go_enter Tryz.func14, Tryz.ntmps14
     go_upto_region 1 with fail
     rw [← HW1.out]
     go_wp2_with fail
     refine (H1.out w1).mono ?_
     rintro e w' ⟨rfl, rfl⟩
     go_upto_region 3 with fail
     obtain ⟨v1, hv1⟩ : ∃ v1, v1 = World.drew w1 := ⟨_, rfl⟩
     have hbD : Below w1.heap.size w1 v1 := by rw [hv1]; exact (Below.refl _ _).drew
     have HBv1 := Lib.hid (stepB HBw1.out hbD)
     have HQv1 := Lib.hid (MT.step HQw1.out hbD)
     have HPv1 := Lib.hid (PIn.step HPw1.out hbD)
     clear HBw1 HQw1 HPw1
     have hbd : (fun w' => MT 38 w' w.heap.size (pkC p a)) (World.drew w1) := by rw [← hv1]; exact HQv1.out
     have hSD := HQv1.out
     have HWD := Lib.hid hv1
     clear hv1 hbD
     refine wp_region_held_drew (S := fun w' => MT 38 w' w.heap.size (pkC p a)) (by kernel_rfl) hbd (fun hHeld => ?_)
     rw [← HWD.out]
     clear hHeld
     have hHeld := hSD
     clear hSD hbd HWD
     refine tkP (i := 0) (h := ?_)
     refine tkP (i := 1) (h := ?_)
     refine rdA 2 (h := fun K hK => ?_)
     go_simp
     go_at_call 34
     refine (HU.out v1).mono ?_
     rintro e v2 ⟨rfl, hb⟩
     have HBv2 := Lib.hid (stepB HBv1.out hb)
     have HQv2 := Lib.hid (MT.step HQv1.out hb)
     have HPv2 := Lib.hid (PIn.step HPv1.out hb)
     clear HBv1 HQv1 HPv1
     clear hHeld hb
     go_wp2_with fail
     refine hK.out _ _ HQv2.out (fun hHeld => ?_)
     clear hK K
     try simp only [Act.put, List.setIfInBounds_toArray, List.set]
     refine rdA 3 (h := fun K hK => ?_)
     go_simp
     go_at_call 33
     refine (HS.out v2 HPv2.out).mono ?_
     rintro e v3 ⟨rfl, hb⟩
     have HBv3 := Lib.hid (stepB HBv2.out hb)
     have HQv3 := Lib.hid (MT.step HQv2.out hb)
     have HPv3 := Lib.hid (PIn.step HPv2.out hb)
     clear HBv2 HQv2 HPv2
     clear hHeld hb
     go_wp2_with fail
     refine hK.out _ _ HQv3.out (fun hHeld => ?_)
     clear hK K
     try simp only [Act.put, List.setIfInBounds_toArray, List.set]
     refine tkS (i := 4) (v := .bool true) (h := ?_)
     refine wpAnyH_done (by kernel_rfl) ?_ _
     go_wp2
     go_ret
     exact ⟨reti (natc HV.out.symm), HBv3.out⟩
   | true =>
     have hk : p.kind = 1 ∨ p.kind = 2 ∨ p.kind = 3 ∨ p.kind = 4 ∨ p.kind = 5 ∨ p.kind = 6 ∨ p.kind = 7 ∨ p.kind = 8 ∨ p.kind = 9 ∨ p.kind = 10 ∨ p.kind = 11 ∨ p.kind = 12 ∨ p.kind = 13 ∨ p.kind = 14 := by omega
     rcases hk with hk | hk | hk | hk | hk | hk | hk | hk | hk | hk | hk | hk | hk | hk
     · exact check6_1 p a w hw h hz ht hk hu
     · exact check6_2 p a w hw h hz ht hk hu
     · exact check6_3 p a w hw h hz ht hk hu
     · exact check6_4 p a w hw h hz ht hk hu
     · exact check6_5 p a w hw h hz ht hk hu
     · exact check6_6 p a w hw h hz ht hk hu
     · exact check6_7 p a w hw h hz ht hk hu
     · exact check6_8 p a w hw h hz ht hk hu
     · exact check6_9 p a w hw h hz ht hk hu
     · exact check6_10 p a w hw h hz ht hk hu
     · exact check6_11 p a w hw h hz ht hk hu
     · exact check6_12 p a w hw h hz ht hk hu
     · exact check6_13 p a w hw h hz ht hk hu
     · exact check6_14 p a w hw h hz ht hk hu

end Go.Proofs.YtdkegoaflabjoaaGreatDoor
