/-
What used of packet hands back: the packet with the fields alone that its kind uses. Conditions: none.
-/
import Derived.Test.YtdkegoaflabjoaaGreatDoorMbx2
import Derived.Test.YtdkegoaflabjoaaGreatDoorChkL
import Derived.Deep.RegionHeld3
set_option maxHeartbeats 8000000
set_option maxRecDepth 50000
namespace Go.Proofs.YtdkegoaflabjoaaGreatDoor
open Go.RowKit

def zC (k : Int) : List Value := pkC { Pkt.zero with kind := k } PA.zero
theorem zC_len (k : Int) : (zC k).length = 34 := rfl
theorem oneSz : ∀ (t : TypeId), t ∈ [3, 4, 9, 34, 35, 36] → (Tryz.prog.info? t).map (·.size) = some 1 := by
 intro t ht
 simp only [List.mem_cons, List.not_mem_nil, or_false] at ht
 rcases ht with rfl | rfl | rfl | rfl | rfl | rfl <;> kernel_rfl
theorem zero_new (w : World) : MT 38 (w.alloc (.cells #[.int .i64 0, .int .i64 0, .bool false, .string ⟨#[]⟩, .string ⟨#[]⟩, .int .i64 0, .bool false, .int .i64 0, .int .i64 0, .string ⟨#[]⟩, .int .i64 0, .slice none 0 0, .string ⟨#[]⟩, .string ⟨#[]⟩, .bool false, .int .i64 0, .int .i64 0, .int .i64 0, .bool false, .int .i64 0, .string ⟨#[]⟩, .string ⟨#[]⟩, .int .i64 0, .bool false, .int .i64 0, .int .i64 0, .string ⟨#[]⟩, .int .i64 0, .slice none 0 0, .bool false, .int .i64 0, .slice none 0 0, .slice none 0 0, .slice none 0 0] 38)) w.heap.size (pkC Pkt.zero PA.zero) := MT.new w _ (pkC Pkt.zero PA.zero)
theorem msg_cells (m : Msg) (A : Option Addr) (c : Nat) : (msgV m A c).cells = (msgC m A c).toArray := rfl
theorem one_cells {vs : List Value} (h : vs.all (fun v => v.oneCell') = true) : ∀ u ∈ vs, u.oneCell' = true := fun u hu => List.all_eq_true.1 h u hu
theorem putC_all (vs cs : List Value) (h : cs.length = vs.length) : putC vs 0 cs = cs := by unfold putC; rw [Nat.zero_add, h, List.drop_length]; simp
theorem mtAll {T : TypeId} {w : World} {g : Nat} {x y : Pkt} {a b : PA} (h : MT T w g (putC (pkC x a) 0 (pkC y b))) : MT T w g (pkC y b) := by rw [putC_all (pkC x a) (pkC y b) rfl] at h; exact h
theorem used1 (p : Pkt) (a : PA) (w : World) (hk0 : p.kind = 1) :
 Calls Tryz.prog 34 #[pkV p a] w fun e w' => e = .returned (pkV (usedP p) (usedA p a)) ∧ Below w.heap.size w w' := by
 unfold pkV
 have k0 : (pkC p a)[0]? = some (.int .i64 1) := by rw [← hk0]; rfl
 have k0z := Lib.hid k0
 have hk := Lib.hid hk0
 clear hk0
 go_enter Tryz.func34, Tryz.ntmps34
 go_upto_region 1 with fail
 refine name_world (C := fun w1 => Code.wp _ _ _ _ w1) ((w.alloc (.cells (pkC p a).toArray 38)).alloc (.cells (pkC Pkt.zero PA.zero).toArray 38)) ?_
 rintro w0 hw0
 obtain ⟨b1, b2, b3⟩ := two hw0
 have hU0 : w.heap.size + 1 < w0.heap.size := b3.lt
 have k0w : w0.cell? ⟨w.heap.size, 0, none⟩ = some (.int .i64 1) := (b2.cell 0).trans k0
 have HBw0 := Lib.hid b1
 have HQw0 := Lib.hid b2
 have HTw0 := Lib.hid b3
 clear b1 b2 b3 hw0 k0
 go_upto_region 4 with (refine wpList_store_blk (by rfl) 38 (.tmp 3) (.tmp 6) rfl rfl w0.heap.size 0 34 rfl (.agg (zC 1).toArray) rfl 38 (pkC Pkt.zero PA.zero) (zC 1) (zero_new w0) rfl rfl info33 (by rw [pkC_len]; decide) (one_cells rfl) ?_; rintro w1 hM hoth hbel; have HQw1 : Hid (MT 38 w1 (w.heap.size) (pkC p a)) := Lib.hid (hoth _ _ _ (by omega) (HQw0.out.alloc _)); have HTw1 : Hid (MT 38 w1 (w.heap.size + 1) (pkC Pkt.zero PA.zero)) := Lib.hid (hoth _ _ _ (by omega) (HTw0.out.alloc _)); have HUw1 : Hid (MT 38 w1 (w0.heap.size) (zC 1)) := Lib.hid (by rw [putC_all (pkC Pkt.zero PA.zero) (zC 1) rfl] at hM; exact hM); have HBw1 : Hid (Below w.heap.size w w1) := Lib.hid (hbel _ _ (by omega) (HBw0.out.alloc (by omega) _)); have k0v : w1.cell? ⟨w.heap.size, 0, none⟩ = some (.int .i64 1) := (HQw1.out.cell 0).trans k0z.out; clear hM hoth hbel HQw0 HTw0 HBw0 k0w)
 have HLw1 := Lib.hid (zC_len 1)
 obtain ⟨v1, hv1⟩ : ∃ v1, v1 = World.drew w1 := ⟨_, rfl⟩
 have hbD : Below w1.heap.size w1 v1 := by rw [hv1]; exact (Below.refl _ _).drew
 have HBv1 : Hid (Below w.heap.size w v1) := Lib.hid (stepB HBw1.out hbD)
 have HQv1 : Hid (MT 38 v1 (w.heap.size) (pkC p a)) := Lib.hid (MT.step HQw1.out hbD)
 have HTv1 : Hid (MT 38 v1 (w.heap.size + 1) (pkC Pkt.zero PA.zero)) := Lib.hid (MT.step HTw1.out hbD)
 have HUv1 : Hid (MT 38 v1 (w0.heap.size) (zC 1)) := Lib.hid (MT.step HUw1.out hbD)
 have HLv1 : Hid ((zC 1).length = 34) := Lib.hid (HLw1.out)
 clear HBw1 HQw1 HTw1 HUw1 HLw1
 have hbd : (fun w' => MT 38 w' (w.heap.size) (pkC p a)) (World.drew w1) := by rw [← hv1]; exact HQv1.out
 have hSD := HQv1.out
 have HWD := Lib.hid hv1
 clear hv1 hbD
 refine wp_region_held_drew (S := fun w' => MT 38 w' (w.heap.size) (pkC p a)) (by kernel_rfl) hbd (fun hHeld => ?_)
 rw [← HWD.out]
 clear hHeld
 have hHeld := hSD
 clear hSD hbd HWD
 refine tkS (i := 0) (v := .pointer (some ⟨w.heap.size, 12, none⟩)) (h := ?_)
 refine tkA (i := 1) (v := .string p.client) (y := Or.inl ⟨by rfl, fun wS hSw => by (try dsimp only at hSw); have cS : wS.cell? ⟨w.heap.size, 12, none⟩ = some (.string p.client) := hSw.cell 12; clear hSw; go_simp⟩) (h := ?_)
 refine tkS (i := 2) (v := .pointer (some ⟨w.heap.size, 13, none⟩)) (h := ?_)
 refine tkA (i := 3) (v := .string p.user) (y := Or.inl ⟨by rfl, fun wS hSw => by (try dsimp only at hSw); have cS : wS.cell? ⟨w.heap.size, 13, none⟩ = some (.string p.user) := hSw.cell 13; clear hSw; go_simp⟩) (h := ?_)
 refine tkS (i := 4) (v := .pointer (some ⟨w.heap.size, 14, none⟩)) (h := ?_)
 refine tkA (i := 5) (v := .bool p.clean) (y := Or.inl ⟨by rfl, fun wS hSw => by (try dsimp only at hSw); have cS : wS.cell? ⟨w.heap.size, 14, none⟩ = some (.bool p.clean) := hSw.cell 14; clear hSw; go_simp⟩) (h := ?_)
 refine tkS (i := 6) (v := .pointer (some ⟨w0.heap.size, 12, none⟩)) (h := ?_)
 refine rdA 7 (h := fun K hK => ?_)
 refine wp_store_blk 9 _ _ rfl rfl (w0.heap.size) 12 1 (by go_simp) (.string p.client) (by go_simp) 38 (zC 1) ([.string p.client]) HUv1.out rfl rfl (oneSz _ (by simp)) (by rw [HLv1.out]; show 12 + 1 ≤ 34; decide) (one_cells rfl) ?_
 rintro v2 hM hoth hbel
 have HQv2 : Hid (MT 38 v2 (w.heap.size) (pkC p a)) := Lib.hid (hoth _ _ _ (by omega) HQv1.out)
 have HTv2 : Hid (MT 38 v2 (w.heap.size + 1) (pkC Pkt.zero PA.zero)) := Lib.hid (hoth _ _ _ (by omega) HTv1.out)
 have HUv2 : Hid (MT 38 v2 (w0.heap.size) (putC (zC 1) 12 ([.string p.client]))) := Lib.hid hM
 have HLv2 : Hid ((putC (zC 1) 12 ([.string p.client])).length = 34) := Lib.hid ((putC_len (by rw [HLv1.out]; show 12 + 1 ≤ 34; decide)).trans HLv1.out)
 have HBv2 : Hid (Below w.heap.size w v2) := Lib.hid (hbel _ _ (by omega) HBv1.out)
 clear hM hoth hbel HQv1 HTv1 HUv1 HLv1 HBv1
 clear hHeld
 refine hK.out _ _ HQv2.out (fun hHeld => ?_)
 clear hK K
 try simp only [Act.put, List.setIfInBounds_toArray, List.set]
 refine tkS (i := 8) (v := .pointer (some ⟨w0.heap.size, 13, none⟩)) (h := ?_)
 refine rdA 9 (h := fun K hK => ?_)
 refine wp_store_blk 9 _ _ rfl rfl (w0.heap.size) 13 1 (by go_simp) (.string p.user) (by go_simp) 38 (putC (zC 1) 12 ([.string p.client])) ([.string p.user]) HUv2.out rfl rfl (oneSz _ (by simp)) (by rw [HLv2.out]; show 13 + 1 ≤ 34; decide) (one_cells rfl) ?_
 rintro v3 hM hoth hbel
 have HQv3 : Hid (MT 38 v3 (w.heap.size) (pkC p a)) := Lib.hid (hoth _ _ _ (by omega) HQv2.out)
 have HTv3 : Hid (MT 38 v3 (w.heap.size + 1) (pkC Pkt.zero PA.zero)) := Lib.hid (hoth _ _ _ (by omega) HTv2.out)
 have HUv3 : Hid (MT 38 v3 (w0.heap.size) (putC (putC (zC 1) 12 ([.string p.client])) 13 ([.string p.user]))) := Lib.hid hM
 have HLv3 : Hid ((putC (putC (zC 1) 12 ([.string p.client])) 13 ([.string p.user])).length = 34) := Lib.hid ((putC_len (by rw [HLv2.out]; show 13 + 1 ≤ 34; decide)).trans HLv2.out)
 have HBv3 : Hid (Below w.heap.size w v3) := Lib.hid (hbel _ _ (by omega) HBv2.out)
 clear hM hoth hbel HQv2 HTv2 HUv2 HLv2 HBv2
 clear hHeld
 refine hK.out _ _ HQv3.out (fun hHeld => ?_)
 clear hK K
 try simp only [Act.put, List.setIfInBounds_toArray, List.set]
 refine tkS (i := 10) (v := .pointer (some ⟨w0.heap.size, 14, none⟩)) (h := ?_)
 refine rdA 11 (h := fun K hK => ?_)
 refine wp_store_blk 4 _ _ rfl rfl (w0.heap.size) 14 1 (by go_simp) (.bool p.clean) (by go_simp) 38 (putC (putC (zC 1) 12 ([.string p.client])) 13 ([.string p.user])) ([.bool p.clean]) HUv3.out rfl rfl (oneSz _ (by simp)) (by rw [HLv3.out]; show 14 + 1 ≤ 34; decide) (one_cells rfl) ?_
 rintro v4 hM hoth hbel
 have HQv4 : Hid (MT 38 v4 (w.heap.size) (pkC p a)) := Lib.hid (hoth _ _ _ (by omega) HQv3.out)
 have HTv4 : Hid (MT 38 v4 (w.heap.size + 1) (pkC Pkt.zero PA.zero)) := Lib.hid (hoth _ _ _ (by omega) HTv3.out)
 have HUv4 : Hid (MT 38 v4 (w0.heap.size) (putC (putC (putC (zC 1) 12 ([.string p.client])) 13 ([.string p.user])) 14 ([.bool p.clean]))) := Lib.hid hM
 have HLv4 : Hid ((putC (putC (putC (zC 1) 12 ([.string p.client])) 13 ([.string p.user])) 14 ([.bool p.clean])).length = 34) := Lib.hid ((putC_len (by rw [HLv3.out]; show 14 + 1 ≤ 34; decide)).trans HLv3.out)
 have HBv4 : Hid (Below w.heap.size w v4) := Lib.hid (hbel _ _ (by omega) HBv3.out)
 clear hM hoth hbel HQv3 HTv3 HUv3 HLv3 HBv3
 clear hHeld
 refine hK.out _ _ HQv4.out (fun hHeld => ?_)
 clear hK K
 try simp only [Act.put, List.setIfInBounds_toArray, List.set]
 refine wpAnyH_done (by kernel_rfl) ?_ _
 go_upto_region 5 with fail
 obtain ⟨v5, hv5⟩ : ∃ v5, v5 = World.drew v4 := ⟨_, rfl⟩
 have hbD : Below v4.heap.size v4 v5 := by rw [hv5]; exact (Below.refl _ _).drew
 have HBv5 : Hid (Below w.heap.size w v5) := Lib.hid (stepB HBv4.out hbD)
 have HQv5 : Hid (MT 38 v5 (w.heap.size) (pkC p a)) := Lib.hid (MT.step HQv4.out hbD)
 have HTv5 : Hid (MT 38 v5 (w.heap.size + 1) (pkC Pkt.zero PA.zero)) := Lib.hid (MT.step HTv4.out hbD)
 have HUv5 : Hid (MT 38 v5 (w0.heap.size) (putC (putC (putC (zC 1) 12 ([.string p.client])) 13 ([.string p.user])) 14 ([.bool p.clean]))) := Lib.hid (MT.step HUv4.out hbD)
 have HLv5 : Hid ((putC (putC (putC (zC 1) 12 ([.string p.client])) 13 ([.string p.user])) 14 ([.bool p.clean])).length = 34) := Lib.hid (HLv4.out)
 clear HBv4 HQv4 HTv4 HUv4 HLv4
 have hbd : (fun w' => MT 38 w' (w.heap.size) (pkC p a)) (World.drew v4) := by rw [← hv5]; exact HQv5.out
 have hSD := HQv5.out
 have HWD := Lib.hid hv5
 clear hv5 hbD
 refine wp_region_held_drew (S := fun w' => MT 38 w' (w.heap.size) (pkC p a)) (by kernel_rfl) hbd (fun hHeld => ?_)
 rw [← HWD.out]
 clear hHeld
 have hHeld := hSD
 clear hSD hbd HWD
 refine tkS (i := 0) (v := .pointer (some ⟨w.heap.size, 15, none⟩)) (h := ?_)
 refine tkA (i := 1) (v := .int .i64 p.keep) (y := Or.inl ⟨by rfl, fun wS hSw => by (try dsimp only at hSw); have cS : wS.cell? ⟨w.heap.size, 15, none⟩ = some (.int .i64 p.keep) := hSw.cell 15; clear hSw; go_simp⟩) (h := ?_)
 refine tkS (i := 2) (v := .pointer (some ⟨w.heap.size, 16, none⟩)) (h := ?_)
 refine tkA (i := 3) (v := .int .i64 p.expiry) (y := Or.inl ⟨by rfl, fun wS hSw => by (try dsimp only at hSw); have cS : wS.cell? ⟨w.heap.size, 16, none⟩ = some (.int .i64 p.expiry) := hSw.cell 16; clear hSw; go_simp⟩) (h := ?_)
 refine tkS (i := 4) (v := .pointer (some ⟨w.heap.size, 17, none⟩)) (h := ?_)
 refine tkA (i := 5) (v := .int .i64 p.window) (y := Or.inl ⟨by rfl, fun wS hSw => by (try dsimp only at hSw); have cS : wS.cell? ⟨w.heap.size, 17, none⟩ = some (.int .i64 p.window) := hSw.cell 17; clear hSw; go_simp⟩) (h := ?_)
 refine tkS (i := 6) (v := .pointer (some ⟨w.heap.size, 18, none⟩)) (h := ?_)
 refine tkA (i := 7) (v := wlV p a) (y := Or.inl ⟨by rfl, fun wS hSw => by (try dsimp only at hSw); exact exec_load 33 _ rfl ⟨w.heap.size, 18, none⟩ (by go_simp) _ (run_load_part wS w.heap.size 18 11 38 33 _ (0, 0) _ hSw Tryz.underlying33 rfl info28 (by rw [pkC_len]; decide))⟩) (h := ?_)
 refine tkS (i := 8) (v := .pointer (some ⟨w0.heap.size, 15, none⟩)) (h := ?_)
 refine rdA 9 (h := fun K hK => ?_)
 refine wp_store_blk 3 _ _ rfl rfl (w0.heap.size) 15 1 (by go_simp) (.int .i64 p.keep) (by go_simp) 38 (putC (putC (putC (zC 1) 12 ([.string p.client])) 13 ([.string p.user])) 14 ([.bool p.clean])) ([.int .i64 p.keep]) HUv5.out rfl rfl (oneSz _ (by simp)) (by rw [HLv5.out]; show 15 + 1 ≤ 34; decide) (one_cells rfl) ?_
 rintro v6 hM hoth hbel
 have HQv6 : Hid (MT 38 v6 (w.heap.size) (pkC p a)) := Lib.hid (hoth _ _ _ (by omega) HQv5.out)
 have HTv6 : Hid (MT 38 v6 (w.heap.size + 1) (pkC Pkt.zero PA.zero)) := Lib.hid (hoth _ _ _ (by omega) HTv5.out)
 have HUv6 : Hid (MT 38 v6 (w0.heap.size) (putC (putC (putC (putC (zC 1) 12 ([.string p.client])) 13 ([.string p.user])) 14 ([.bool p.clean])) 15 ([.int .i64 p.keep]))) := Lib.hid hM
 have HLv6 : Hid ((putC (putC (putC (putC (zC 1) 12 ([.string p.client])) 13 ([.string p.user])) 14 ([.bool p.clean])) 15 ([.int .i64 p.keep])).length = 34) := Lib.hid ((putC_len (by rw [HLv5.out]; show 15 + 1 ≤ 34; decide)).trans HLv5.out)
 have HBv6 : Hid (Below w.heap.size w v6) := Lib.hid (hbel _ _ (by omega) HBv5.out)
 clear hM hoth hbel HQv5 HTv5 HUv5 HLv5 HBv5
 clear hHeld
 refine hK.out _ _ HQv6.out (fun hHeld => ?_)
 clear hK K
 try simp only [Act.put, List.setIfInBounds_toArray, List.set]
 refine tkS (i := 10) (v := .pointer (some ⟨w0.heap.size, 16, none⟩)) (h := ?_)
 refine rdA 11 (h := fun K hK => ?_)
 refine wp_store_blk 3 _ _ rfl rfl (w0.heap.size) 16 1 (by go_simp) (.int .i64 p.expiry) (by go_simp) 38 (putC (putC (putC (putC (zC 1) 12 ([.string p.client])) 13 ([.string p.user])) 14 ([.bool p.clean])) 15 ([.int .i64 p.keep])) ([.int .i64 p.expiry]) HUv6.out rfl rfl (oneSz _ (by simp)) (by rw [HLv6.out]; show 16 + 1 ≤ 34; decide) (one_cells rfl) ?_
 rintro v7 hM hoth hbel
 have HQv7 : Hid (MT 38 v7 (w.heap.size) (pkC p a)) := Lib.hid (hoth _ _ _ (by omega) HQv6.out)
 have HTv7 : Hid (MT 38 v7 (w.heap.size + 1) (pkC Pkt.zero PA.zero)) := Lib.hid (hoth _ _ _ (by omega) HTv6.out)
 have HUv7 : Hid (MT 38 v7 (w0.heap.size) (putC (putC (putC (putC (putC (zC 1) 12 ([.string p.client])) 13 ([.string p.user])) 14 ([.bool p.clean])) 15 ([.int .i64 p.keep])) 16 ([.int .i64 p.expiry]))) := Lib.hid hM
 have HLv7 : Hid ((putC (putC (putC (putC (putC (zC 1) 12 ([.string p.client])) 13 ([.string p.user])) 14 ([.bool p.clean])) 15 ([.int .i64 p.keep])) 16 ([.int .i64 p.expiry])).length = 34) := Lib.hid ((putC_len (by rw [HLv6.out]; show 16 + 1 ≤ 34; decide)).trans HLv6.out)
 have HBv7 : Hid (Below w.heap.size w v7) := Lib.hid (hbel _ _ (by omega) HBv6.out)
 clear hM hoth hbel HQv6 HTv6 HUv6 HLv6 HBv6
 clear hHeld
 refine hK.out _ _ HQv7.out (fun hHeld => ?_)
 clear hK K
 try simp only [Act.put, List.setIfInBounds_toArray, List.set]
 refine tkS (i := 12) (v := .pointer (some ⟨w0.heap.size, 17, none⟩)) (h := ?_)
 refine rdA 13 (h := fun K hK => ?_)
 refine wp_store_blk 3 _ _ rfl rfl (w0.heap.size) 17 1 (by go_simp) (.int .i64 p.window) (by go_simp) 38 (putC (putC (putC (putC (putC (zC 1) 12 ([.string p.client])) 13 ([.string p.user])) 14 ([.bool p.clean])) 15 ([.int .i64 p.keep])) 16 ([.int .i64 p.expiry])) ([.int .i64 p.window]) HUv7.out rfl rfl (oneSz _ (by simp)) (by rw [HLv7.out]; show 17 + 1 ≤ 34; decide) (one_cells rfl) ?_
 rintro v8 hM hoth hbel
 have HQv8 : Hid (MT 38 v8 (w.heap.size) (pkC p a)) := Lib.hid (hoth _ _ _ (by omega) HQv7.out)
 have HTv8 : Hid (MT 38 v8 (w.heap.size + 1) (pkC Pkt.zero PA.zero)) := Lib.hid (hoth _ _ _ (by omega) HTv7.out)
 have HUv8 : Hid (MT 38 v8 (w0.heap.size) (putC (putC (putC (putC (putC (putC (zC 1) 12 ([.string p.client])) 13 ([.string p.user])) 14 ([.bool p.clean])) 15 ([.int .i64 p.keep])) 16 ([.int .i64 p.expiry])) 17 ([.int .i64 p.window]))) := Lib.hid hM
 have HLv8 : Hid ((putC (putC (putC (putC (putC (putC (zC 1) 12 ([.string p.client])) 13 ([.string p.user])) 14 ([.bool p.clean])) 15 ([.int .i64 p.keep])) 16 ([.int .i64 p.expiry])) 17 ([.int .i64 p.window])).length = 34) := Lib.hid ((putC_len (by rw [HLv7.out]; show 17 + 1 ≤ 34; decide)).trans HLv7.out)
 have HBv8 : Hid (Below w.heap.size w v8) := Lib.hid (hbel _ _ (by omega) HBv7.out)
 clear hM hoth hbel HQv7 HTv7 HUv7 HLv7 HBv7
 clear hHeld
 refine hK.out _ _ HQv8.out (fun hHeld => ?_)
 clear hK K
 try simp only [Act.put, List.setIfInBounds_toArray, List.set]
 refine tkS (i := 14) (v := .pointer (some ⟨w0.heap.size, 18, none⟩)) (h := ?_)
 refine rdA 15 (h := fun K hK => ?_)
 refine wp_store_blk 33 _ _ rfl rfl (w0.heap.size) 18 11 (by go_simp) (wlV p a) (by go_simp) 38 (putC (putC (putC (putC (putC (putC (zC 1) 12 ([.string p.client])) 13 ([.string p.user])) 14 ([.bool p.clean])) 15 ([.int .i64 p.keep])) 16 ([.int .i64 p.expiry])) 17 ([.int .i64 p.window])) (wlC p a) HUv8.out rfl rfl info28 (by rw [HLv8.out]; show 18 + 11 ≤ 34; decide) (one_cells rfl) ?_
 rintro v9 hM hoth hbel
 have HQv9 : Hid (MT 38 v9 (w.heap.size) (pkC p a)) := Lib.hid (hoth _ _ _ (by omega) HQv8.out)
 have HTv9 : Hid (MT 38 v9 (w.heap.size + 1) (pkC Pkt.zero PA.zero)) := Lib.hid (hoth _ _ _ (by omega) HTv8.out)
 have HUv9 : Hid (MT 38 v9 (w0.heap.size) (putC (putC (putC (putC (putC (putC (putC (zC 1) 12 ([.string p.client])) 13 ([.string p.user])) 14 ([.bool p.clean])) 15 ([.int .i64 p.keep])) 16 ([.int .i64 p.expiry])) 17 ([.int .i64 p.window])) 18 (wlC p a))) := Lib.hid hM
 have HLv9 : Hid ((putC (putC (putC (putC (putC (putC (putC (zC 1) 12 ([.string p.client])) 13 ([.string p.user])) 14 ([.bool p.clean])) 15 ([.int .i64 p.keep])) 16 ([.int .i64 p.expiry])) 17 ([.int .i64 p.window])) 18 (wlC p a)).length = 34) := Lib.hid ((putC_len (by rw [HLv8.out]; show 18 + 11 ≤ 34; decide)).trans HLv8.out)
 have HBv9 : Hid (Below w.heap.size w v9) := Lib.hid (hbel _ _ (by omega) HBv8.out)
 clear hM hoth hbel HQv8 HTv8 HUv8 HLv8 HBv8
 clear hHeld
 refine hK.out _ _ HQv9.out (fun hHeld => ?_)
 clear hK K
 try simp only [Act.put, List.setIfInBounds_toArray, List.set]
 refine wpAnyH_done (by kernel_rfl) ?_ _
 have HE : Hid (putC (putC (putC (putC (putC (putC (putC (zC 1) 12 ([.string p.client])) 13 ([.string p.user])) 14 ([.bool p.clean])) 15 ([.int .i64 p.keep])) 16 ([.int .i64 p.expiry])) 17 ([.int .i64 p.window])) 18 (wlC p a) = pkC (usedP p) (usedA p a)) := Lib.hid (by unfold usedP usedA; simp only [hk.out]; rfl)
 have HU9 : Hid (MT 38 v9 (w0.heap.size) (pkC (usedP p) (usedA p a))) := Lib.hid (by have := HUv9.out; rw [HE.out] at this; exact this)
 go_wp2_with (first | (refine wpList_load_all (by rfl) 38 (.tmp 3) rfl (w0.heap.size) rfl 38 _ (0, 0) _ HU9.out Tryz.underlying38 rfl info33 ?_) | (refine wpList_store_blk (by rfl) 38 (.tmp 2) (.tmp 89) rfl rfl (w.heap.size + 1) 0 34 rfl (.agg (pkC (usedP p) (usedA p a)).toArray) rfl 38 (pkC Pkt.zero PA.zero) (pkC (usedP p) (usedA p a)) HTv9.out rfl rfl info33 (by rw [pkC_len]; decide) (one_cells rfl) ?_; rintro w9 hM _ hbel; have HM9 := Lib.hid hM; have HB9 := Lib.hid (hbel _ _ (by omega) HBv9.out); clear hM hbel))
 exact bodyPost_ret (v := .agg (pkC (usedP p) (usedA p a)).toArray) (results_cell_row rfl _ _ (w.heap.size + 1) 38 _ (0, 0) _ rfl (mtAll HM9.out) Tryz.underlying38 rfl info33) rfl ⟨rfl, HB9.out⟩
theorem used4 (p : Pkt) (a : PA) (w : World) (hk0 : p.kind = 4) :
 Calls Tryz.prog 34 #[pkV p a] w fun e w' => e = .returned (pkV (usedP p) (usedA p a)) ∧ Below w.heap.size w w' := by
 unfold pkV
 have k0 : (pkC p a)[0]? = some (.int .i64 4) := by rw [← hk0]; rfl
 have k0z := Lib.hid k0
 have hk := Lib.hid hk0
 clear hk0
 go_enter Tryz.func34, Tryz.ntmps34
 go_upto_region 1 with fail
 refine name_world (C := fun w1 => Code.wp _ _ _ _ w1) ((w.alloc (.cells (pkC p a).toArray 38)).alloc (.cells (pkC Pkt.zero PA.zero).toArray 38)) ?_
 rintro w0 hw0
 obtain ⟨b1, b2, b3⟩ := two hw0
 have hU0 : w.heap.size + 1 < w0.heap.size := b3.lt
 have k0w : w0.cell? ⟨w.heap.size, 0, none⟩ = some (.int .i64 4) := (b2.cell 0).trans k0
 have HBw0 := Lib.hid b1
 have HQw0 := Lib.hid b2
 have HTw0 := Lib.hid b3
 clear b1 b2 b3 hw0 k0
 go_upto_region 14 with (refine wpList_store_blk (by rfl) 38 (.tmp 3) (.tmp 6) rfl rfl w0.heap.size 0 34 rfl (.agg (zC 4).toArray) rfl 38 (pkC Pkt.zero PA.zero) (zC 4) (zero_new w0) rfl rfl info33 (by rw [pkC_len]; decide) (one_cells rfl) ?_; rintro w1 hM hoth hbel; have HQw1 : Hid (MT 38 w1 (w.heap.size) (pkC p a)) := Lib.hid (hoth _ _ _ (by omega) (HQw0.out.alloc _)); have HTw1 : Hid (MT 38 w1 (w.heap.size + 1) (pkC Pkt.zero PA.zero)) := Lib.hid (hoth _ _ _ (by omega) (HTw0.out.alloc _)); have HUw1 : Hid (MT 38 w1 (w0.heap.size) (zC 4)) := Lib.hid (by rw [putC_all (pkC Pkt.zero PA.zero) (zC 4) rfl] at hM; exact hM); have HBw1 : Hid (Below w.heap.size w w1) := Lib.hid (hbel _ _ (by omega) (HBw0.out.alloc (by omega) _)); have k0v : w1.cell? ⟨w.heap.size, 0, none⟩ = some (.int .i64 4) := (HQw1.out.cell 0).trans k0z.out; clear hM hoth hbel HQw0 HTw0 HBw0 k0w)
 have HLw1 := Lib.hid (zC_len 4)
 have k1v : w1.cell? ⟨w.heap.size, 1, none⟩ = some (.int .i64 p.id) := HQw1.out.cell 1
 go_upto_region 24 with (refine wpList_store_blk (by rfl) 3 (.tmp 58) (.tmp 57) rfl rfl (w0.heap.size) 1 1 rfl (.int .i64 p.id) rfl 38 (zC 4) ([.int .i64 p.id]) HUw1.out rfl rfl (oneSz _ (by simp)) (by rw [HLw1.out]; decide) (one_cells rfl) ?_; rintro w2 hM hoth hbel; have HTw2 : Hid (MT 38 w2 (w.heap.size + 1) (pkC Pkt.zero PA.zero)) := Lib.hid (hoth _ _ _ (by omega) HTw1.out); have HUw2 : Hid (MT 38 w2 (w0.heap.size) (putC (zC 4) 1 ([.int .i64 p.id]))) := Lib.hid hM; have HBw2 : Hid (Below w.heap.size w w2) := Lib.hid (hbel _ _ (by omega) HBw1.out); clear hM hoth hbel)
 have HE : Hid (putC (zC 4) 1 ([.int .i64 p.id]) = pkC (usedP p) (usedA p a)) := Lib.hid (by unfold usedP usedA; simp only [hk.out]; rfl)
 have HU9 : Hid (MT 38 w2 (w0.heap.size) (pkC (usedP p) (usedA p a))) := Lib.hid (by have := HUw2.out; rw [HE.out] at this; exact this)
 go_wp2_with (first | (refine wpList_load_all (by rfl) 38 (.tmp 3) rfl (w0.heap.size) rfl 38 _ (0, 0) _ HU9.out Tryz.underlying38 rfl info33 ?_) | (refine wpList_store_blk (by rfl) 38 (.tmp 2) (.tmp 89) rfl rfl (w.heap.size + 1) 0 34 rfl (.agg (pkC (usedP p) (usedA p a)).toArray) rfl 38 (pkC Pkt.zero PA.zero) (pkC (usedP p) (usedA p a)) HTw2.out rfl rfl info33 (by rw [pkC_len]; decide) (one_cells rfl) ?_; rintro w9 hM _ hbel; have HM9 := Lib.hid hM; have HB9 := Lib.hid (hbel _ _ (by omega) HBw2.out); clear hM hbel))
 exact bodyPost_ret (v := .agg (pkC (usedP p) (usedA p a)).toArray) (results_cell_row rfl _ _ (w.heap.size + 1) 38 _ (0, 0) _ rfl (mtAll HM9.out) Tryz.underlying38 rfl info33) rfl ⟨rfl, HB9.out⟩
theorem used5 (p : Pkt) (a : PA) (w : World) (hk0 : p.kind = 5) :
 Calls Tryz.prog 34 #[pkV p a] w fun e w' => e = .returned (pkV (usedP p) (usedA p a)) ∧ Below w.heap.size w w' := by
 unfold pkV
 have k0 : (pkC p a)[0]? = some (.int .i64 5) := by rw [← hk0]; rfl
 have k0z := Lib.hid k0
 have hk := Lib.hid hk0
 clear hk0
 go_enter Tryz.func34, Tryz.ntmps34
 go_upto_region 1 with fail
 refine name_world (C := fun w1 => Code.wp _ _ _ _ w1) ((w.alloc (.cells (pkC p a).toArray 38)).alloc (.cells (pkC Pkt.zero PA.zero).toArray 38)) ?_
 rintro w0 hw0
 obtain ⟨b1, b2, b3⟩ := two hw0
 have hU0 : w.heap.size + 1 < w0.heap.size := b3.lt
 have k0w : w0.cell? ⟨w.heap.size, 0, none⟩ = some (.int .i64 5) := (b2.cell 0).trans k0
 have HBw0 := Lib.hid b1
 have HQw0 := Lib.hid b2
 have HTw0 := Lib.hid b3
 clear b1 b2 b3 hw0 k0
 go_upto_region 14 with (refine wpList_store_blk (by rfl) 38 (.tmp 3) (.tmp 6) rfl rfl w0.heap.size 0 34 rfl (.agg (zC 5).toArray) rfl 38 (pkC Pkt.zero PA.zero) (zC 5) (zero_new w0) rfl rfl info33 (by rw [pkC_len]; decide) (one_cells rfl) ?_; rintro w1 hM hoth hbel; have HQw1 : Hid (MT 38 w1 (w.heap.size) (pkC p a)) := Lib.hid (hoth _ _ _ (by omega) (HQw0.out.alloc _)); have HTw1 : Hid (MT 38 w1 (w.heap.size + 1) (pkC Pkt.zero PA.zero)) := Lib.hid (hoth _ _ _ (by omega) (HTw0.out.alloc _)); have HUw1 : Hid (MT 38 w1 (w0.heap.size) (zC 5)) := Lib.hid (by rw [putC_all (pkC Pkt.zero PA.zero) (zC 5) rfl] at hM; exact hM); have HBw1 : Hid (Below w.heap.size w w1) := Lib.hid (hbel _ _ (by omega) (HBw0.out.alloc (by omega) _)); have k0v : w1.cell? ⟨w.heap.size, 0, none⟩ = some (.int .i64 5) := (HQw1.out.cell 0).trans k0z.out; clear hM hoth hbel HQw0 HTw0 HBw0 k0w)
 have HLw1 := Lib.hid (zC_len 5)
 have k1v : w1.cell? ⟨w.heap.size, 1, none⟩ = some (.int .i64 p.id) := HQw1.out.cell 1
 go_upto_region 24 with (refine wpList_store_blk (by rfl) 3 (.tmp 58) (.tmp 57) rfl rfl (w0.heap.size) 1 1 rfl (.int .i64 p.id) rfl 38 (zC 5) ([.int .i64 p.id]) HUw1.out rfl rfl (oneSz _ (by simp)) (by rw [HLw1.out]; decide) (one_cells rfl) ?_; rintro w2 hM hoth hbel; have HTw2 : Hid (MT 38 w2 (w.heap.size + 1) (pkC Pkt.zero PA.zero)) := Lib.hid (hoth _ _ _ (by omega) HTw1.out); have HUw2 : Hid (MT 38 w2 (w0.heap.size) (putC (zC 5) 1 ([.int .i64 p.id]))) := Lib.hid hM; have HBw2 : Hid (Below w.heap.size w w2) := Lib.hid (hbel _ _ (by omega) HBw1.out); clear hM hoth hbel)
 have HE : Hid (putC (zC 5) 1 ([.int .i64 p.id]) = pkC (usedP p) (usedA p a)) := Lib.hid (by unfold usedP usedA; simp only [hk.out]; rfl)
 have HU9 : Hid (MT 38 w2 (w0.heap.size) (pkC (usedP p) (usedA p a))) := Lib.hid (by have := HUw2.out; rw [HE.out] at this; exact this)
 go_wp2_with (first | (refine wpList_load_all (by rfl) 38 (.tmp 3) rfl (w0.heap.size) rfl 38 _ (0, 0) _ HU9.out Tryz.underlying38 rfl info33 ?_) | (refine wpList_store_blk (by rfl) 38 (.tmp 2) (.tmp 89) rfl rfl (w.heap.size + 1) 0 34 rfl (.agg (pkC (usedP p) (usedA p a)).toArray) rfl 38 (pkC Pkt.zero PA.zero) (pkC (usedP p) (usedA p a)) HTw2.out rfl rfl info33 (by rw [pkC_len]; decide) (one_cells rfl) ?_; rintro w9 hM _ hbel; have HM9 := Lib.hid hM; have HB9 := Lib.hid (hbel _ _ (by omega) HBw2.out); clear hM hbel))
 exact bodyPost_ret (v := .agg (pkC (usedP p) (usedA p a)).toArray) (results_cell_row rfl _ _ (w.heap.size + 1) 38 _ (0, 0) _ rfl (mtAll HM9.out) Tryz.underlying38 rfl info33) rfl ⟨rfl, HB9.out⟩
theorem used6 (p : Pkt) (a : PA) (w : World) (hk0 : p.kind = 6) :
 Calls Tryz.prog 34 #[pkV p a] w fun e w' => e = .returned (pkV (usedP p) (usedA p a)) ∧ Below w.heap.size w w' := by
 unfold pkV
 have k0 : (pkC p a)[0]? = some (.int .i64 6) := by rw [← hk0]; rfl
 have k0z := Lib.hid k0
 have hk := Lib.hid hk0
 clear hk0
 go_enter Tryz.func34, Tryz.ntmps34
 go_upto_region 1 with fail
 refine name_world (C := fun w1 => Code.wp _ _ _ _ w1) ((w.alloc (.cells (pkC p a).toArray 38)).alloc (.cells (pkC Pkt.zero PA.zero).toArray 38)) ?_
 rintro w0 hw0
 obtain ⟨b1, b2, b3⟩ := two hw0
 have hU0 : w.heap.size + 1 < w0.heap.size := b3.lt
 have k0w : w0.cell? ⟨w.heap.size, 0, none⟩ = some (.int .i64 6) := (b2.cell 0).trans k0
 have HBw0 := Lib.hid b1
 have HQw0 := Lib.hid b2
 have HTw0 := Lib.hid b3
 clear b1 b2 b3 hw0 k0
 go_upto_region 14 with (refine wpList_store_blk (by rfl) 38 (.tmp 3) (.tmp 6) rfl rfl w0.heap.size 0 34 rfl (.agg (zC 6).toArray) rfl 38 (pkC Pkt.zero PA.zero) (zC 6) (zero_new w0) rfl rfl info33 (by rw [pkC_len]; decide) (one_cells rfl) ?_; rintro w1 hM hoth hbel; have HQw1 : Hid (MT 38 w1 (w.heap.size) (pkC p a)) := Lib.hid (hoth _ _ _ (by omega) (HQw0.out.alloc _)); have HTw1 : Hid (MT 38 w1 (w.heap.size + 1) (pkC Pkt.zero PA.zero)) := Lib.hid (hoth _ _ _ (by omega) (HTw0.out.alloc _)); have HUw1 : Hid (MT 38 w1 (w0.heap.size) (zC 6)) := Lib.hid (by rw [putC_all (pkC Pkt.zero PA.zero) (zC 6) rfl] at hM; exact hM); have HBw1 : Hid (Below w.heap.size w w1) := Lib.hid (hbel _ _ (by omega) (HBw0.out.alloc (by omega) _)); have k0v : w1.cell? ⟨w.heap.size, 0, none⟩ = some (.int .i64 6) := (HQw1.out.cell 0).trans k0z.out; clear hM hoth hbel HQw0 HTw0 HBw0 k0w)
 have HLw1 := Lib.hid (zC_len 6)
 have k1v : w1.cell? ⟨w.heap.size, 1, none⟩ = some (.int .i64 p.id) := HQw1.out.cell 1
 go_upto_region 24 with (refine wpList_store_blk (by rfl) 3 (.tmp 58) (.tmp 57) rfl rfl (w0.heap.size) 1 1 rfl (.int .i64 p.id) rfl 38 (zC 6) ([.int .i64 p.id]) HUw1.out rfl rfl (oneSz _ (by simp)) (by rw [HLw1.out]; decide) (one_cells rfl) ?_; rintro w2 hM hoth hbel; have HTw2 : Hid (MT 38 w2 (w.heap.size + 1) (pkC Pkt.zero PA.zero)) := Lib.hid (hoth _ _ _ (by omega) HTw1.out); have HUw2 : Hid (MT 38 w2 (w0.heap.size) (putC (zC 6) 1 ([.int .i64 p.id]))) := Lib.hid hM; have HBw2 : Hid (Below w.heap.size w w2) := Lib.hid (hbel _ _ (by omega) HBw1.out); clear hM hoth hbel)
 have HE : Hid (putC (zC 6) 1 ([.int .i64 p.id]) = pkC (usedP p) (usedA p a)) := Lib.hid (by unfold usedP usedA; simp only [hk.out]; rfl)
 have HU9 : Hid (MT 38 w2 (w0.heap.size) (pkC (usedP p) (usedA p a))) := Lib.hid (by have := HUw2.out; rw [HE.out] at this; exact this)
 go_wp2_with (first | (refine wpList_load_all (by rfl) 38 (.tmp 3) rfl (w0.heap.size) rfl 38 _ (0, 0) _ HU9.out Tryz.underlying38 rfl info33 ?_) | (refine wpList_store_blk (by rfl) 38 (.tmp 2) (.tmp 89) rfl rfl (w.heap.size + 1) 0 34 rfl (.agg (pkC (usedP p) (usedA p a)).toArray) rfl 38 (pkC Pkt.zero PA.zero) (pkC (usedP p) (usedA p a)) HTw2.out rfl rfl info33 (by rw [pkC_len]; decide) (one_cells rfl) ?_; rintro w9 hM _ hbel; have HM9 := Lib.hid hM; have HB9 := Lib.hid (hbel _ _ (by omega) HBw2.out); clear hM hbel))
 exact bodyPost_ret (v := .agg (pkC (usedP p) (usedA p a)).toArray) (results_cell_row rfl _ _ (w.heap.size + 1) 38 _ (0, 0) _ rfl (mtAll HM9.out) Tryz.underlying38 rfl info33) rfl ⟨rfl, HB9.out⟩
theorem used7 (p : Pkt) (a : PA) (w : World) (hk0 : p.kind = 7) :
 Calls Tryz.prog 34 #[pkV p a] w fun e w' => e = .returned (pkV (usedP p) (usedA p a)) ∧ Below w.heap.size w w' := by
 unfold pkV
 have k0 : (pkC p a)[0]? = some (.int .i64 7) := by rw [← hk0]; rfl
 have k0z := Lib.hid k0
 have hk := Lib.hid hk0
 clear hk0
 go_enter Tryz.func34, Tryz.ntmps34
 go_upto_region 1 with fail
 refine name_world (C := fun w1 => Code.wp _ _ _ _ w1) ((w.alloc (.cells (pkC p a).toArray 38)).alloc (.cells (pkC Pkt.zero PA.zero).toArray 38)) ?_
 rintro w0 hw0
 obtain ⟨b1, b2, b3⟩ := two hw0
 have hU0 : w.heap.size + 1 < w0.heap.size := b3.lt
 have k0w : w0.cell? ⟨w.heap.size, 0, none⟩ = some (.int .i64 7) := (b2.cell 0).trans k0
 have HBw0 := Lib.hid b1
 have HQw0 := Lib.hid b2
 have HTw0 := Lib.hid b3
 clear b1 b2 b3 hw0 k0
 go_upto_region 14 with (refine wpList_store_blk (by rfl) 38 (.tmp 3) (.tmp 6) rfl rfl w0.heap.size 0 34 rfl (.agg (zC 7).toArray) rfl 38 (pkC Pkt.zero PA.zero) (zC 7) (zero_new w0) rfl rfl info33 (by rw [pkC_len]; decide) (one_cells rfl) ?_; rintro w1 hM hoth hbel; have HQw1 : Hid (MT 38 w1 (w.heap.size) (pkC p a)) := Lib.hid (hoth _ _ _ (by omega) (HQw0.out.alloc _)); have HTw1 : Hid (MT 38 w1 (w.heap.size + 1) (pkC Pkt.zero PA.zero)) := Lib.hid (hoth _ _ _ (by omega) (HTw0.out.alloc _)); have HUw1 : Hid (MT 38 w1 (w0.heap.size) (zC 7)) := Lib.hid (by rw [putC_all (pkC Pkt.zero PA.zero) (zC 7) rfl] at hM; exact hM); have HBw1 : Hid (Below w.heap.size w w1) := Lib.hid (hbel _ _ (by omega) (HBw0.out.alloc (by omega) _)); have k0v : w1.cell? ⟨w.heap.size, 0, none⟩ = some (.int .i64 7) := (HQw1.out.cell 0).trans k0z.out; clear hM hoth hbel HQw0 HTw0 HBw0 k0w)
 have HLw1 := Lib.hid (zC_len 7)
 have k1v : w1.cell? ⟨w.heap.size, 1, none⟩ = some (.int .i64 p.id) := HQw1.out.cell 1
 go_upto_region 24 with (refine wpList_store_blk (by rfl) 3 (.tmp 58) (.tmp 57) rfl rfl (w0.heap.size) 1 1 rfl (.int .i64 p.id) rfl 38 (zC 7) ([.int .i64 p.id]) HUw1.out rfl rfl (oneSz _ (by simp)) (by rw [HLw1.out]; decide) (one_cells rfl) ?_; rintro w2 hM hoth hbel; have HTw2 : Hid (MT 38 w2 (w.heap.size + 1) (pkC Pkt.zero PA.zero)) := Lib.hid (hoth _ _ _ (by omega) HTw1.out); have HUw2 : Hid (MT 38 w2 (w0.heap.size) (putC (zC 7) 1 ([.int .i64 p.id]))) := Lib.hid hM; have HBw2 : Hid (Below w.heap.size w w2) := Lib.hid (hbel _ _ (by omega) HBw1.out); clear hM hoth hbel)
 have HE : Hid (putC (zC 7) 1 ([.int .i64 p.id]) = pkC (usedP p) (usedA p a)) := Lib.hid (by unfold usedP usedA; simp only [hk.out]; rfl)
 have HU9 : Hid (MT 38 w2 (w0.heap.size) (pkC (usedP p) (usedA p a))) := Lib.hid (by have := HUw2.out; rw [HE.out] at this; exact this)
 go_wp2_with (first | (refine wpList_load_all (by rfl) 38 (.tmp 3) rfl (w0.heap.size) rfl 38 _ (0, 0) _ HU9.out Tryz.underlying38 rfl info33 ?_) | (refine wpList_store_blk (by rfl) 38 (.tmp 2) (.tmp 89) rfl rfl (w.heap.size + 1) 0 34 rfl (.agg (pkC (usedP p) (usedA p a)).toArray) rfl 38 (pkC Pkt.zero PA.zero) (pkC (usedP p) (usedA p a)) HTw2.out rfl rfl info33 (by rw [pkC_len]; decide) (one_cells rfl) ?_; rintro w9 hM _ hbel; have HM9 := Lib.hid hM; have HB9 := Lib.hid (hbel _ _ (by omega) HBw2.out); clear hM hbel))
 exact bodyPost_ret (v := .agg (pkC (usedP p) (usedA p a)).toArray) (results_cell_row rfl _ _ (w.heap.size + 1) 38 _ (0, 0) _ rfl (mtAll HM9.out) Tryz.underlying38 rfl info33) rfl ⟨rfl, HB9.out⟩
theorem used14 (p : Pkt) (a : PA) (w : World) (hk0 : p.kind = 14) :
 Calls Tryz.prog 34 #[pkV p a] w fun e w' => e = .returned (pkV (usedP p) (usedA p a)) ∧ Below w.heap.size w w' := by
 unfold pkV
 have k0 : (pkC p a)[0]? = some (.int .i64 14) := by rw [← hk0]; rfl
 have k0z := Lib.hid k0
 have hk := Lib.hid hk0
 clear hk0
 go_enter Tryz.func34, Tryz.ntmps34
 go_upto_region 1 with fail
 refine name_world (C := fun w1 => Code.wp _ _ _ _ w1) ((w.alloc (.cells (pkC p a).toArray 38)).alloc (.cells (pkC Pkt.zero PA.zero).toArray 38)) ?_
 rintro w0 hw0
 obtain ⟨b1, b2, b3⟩ := two hw0
 have hU0 : w.heap.size + 1 < w0.heap.size := b3.lt
 have k0w : w0.cell? ⟨w.heap.size, 0, none⟩ = some (.int .i64 14) := (b2.cell 0).trans k0
 have HBw0 := Lib.hid b1
 have HQw0 := Lib.hid b2
 have HTw0 := Lib.hid b3
 clear b1 b2 b3 hw0 k0
 go_upto_region 23 with (refine wpList_store_blk (by rfl) 38 (.tmp 3) (.tmp 6) rfl rfl w0.heap.size 0 34 rfl (.agg (zC 14).toArray) rfl 38 (pkC Pkt.zero PA.zero) (zC 14) (zero_new w0) rfl rfl info33 (by rw [pkC_len]; decide) (one_cells rfl) ?_; rintro w1 hM hoth hbel; have HQw1 : Hid (MT 38 w1 (w.heap.size) (pkC p a)) := Lib.hid (hoth _ _ _ (by omega) (HQw0.out.alloc _)); have HTw1 : Hid (MT 38 w1 (w.heap.size + 1) (pkC Pkt.zero PA.zero)) := Lib.hid (hoth _ _ _ (by omega) (HTw0.out.alloc _)); have HUw1 : Hid (MT 38 w1 (w0.heap.size) (zC 14)) := Lib.hid (by rw [putC_all (pkC Pkt.zero PA.zero) (zC 14) rfl] at hM; exact hM); have HBw1 : Hid (Below w.heap.size w w1) := Lib.hid (hbel _ _ (by omega) (HBw0.out.alloc (by omega) _)); have k0v : w1.cell? ⟨w.heap.size, 0, none⟩ = some (.int .i64 14) := (HQw1.out.cell 0).trans k0z.out; clear hM hoth hbel HQw0 HTw0 HBw0 k0w)
 have HLw1 := Lib.hid (zC_len 14)
 have k30v : w1.cell? ⟨w.heap.size, 30, none⟩ = some (.int .i64 p.code) := HQw1.out.cell 30
 go_upto_region 24 with (refine wpList_store_blk (by rfl) 3 (.tmp 88) (.tmp 87) rfl rfl (w0.heap.size) 30 1 rfl (.int .i64 p.code) rfl 38 (zC 14) ([.int .i64 p.code]) HUw1.out rfl rfl (oneSz _ (by simp)) (by rw [HLw1.out]; decide) (one_cells rfl) ?_; rintro w2 hM hoth hbel; have HTw2 : Hid (MT 38 w2 (w.heap.size + 1) (pkC Pkt.zero PA.zero)) := Lib.hid (hoth _ _ _ (by omega) HTw1.out); have HUw2 : Hid (MT 38 w2 (w0.heap.size) (putC (zC 14) 30 ([.int .i64 p.code]))) := Lib.hid hM; have HBw2 : Hid (Below w.heap.size w w2) := Lib.hid (hbel _ _ (by omega) HBw1.out); clear hM hoth hbel)
 have HE : Hid (putC (zC 14) 30 ([.int .i64 p.code]) = pkC (usedP p) (usedA p a)) := Lib.hid (by unfold usedP usedA; simp only [hk.out]; rfl)
 have HU9 : Hid (MT 38 w2 (w0.heap.size) (pkC (usedP p) (usedA p a))) := Lib.hid (by have := HUw2.out; rw [HE.out] at this; exact this)
 go_wp2_with (first | (refine wpList_load_all (by rfl) 38 (.tmp 3) rfl (w0.heap.size) rfl 38 _ (0, 0) _ HU9.out Tryz.underlying38 rfl info33 ?_) | (refine wpList_store_blk (by rfl) 38 (.tmp 2) (.tmp 89) rfl rfl (w.heap.size + 1) 0 34 rfl (.agg (pkC (usedP p) (usedA p a)).toArray) rfl 38 (pkC Pkt.zero PA.zero) (pkC (usedP p) (usedA p a)) HTw2.out rfl rfl info33 (by rw [pkC_len]; decide) (one_cells rfl) ?_; rintro w9 hM _ hbel; have HM9 := Lib.hid hM; have HB9 := Lib.hid (hbel _ _ (by omega) HBw2.out); clear hM hbel))
 exact bodyPost_ret (v := .agg (pkC (usedP p) (usedA p a)).toArray) (results_cell_row rfl _ _ (w.heap.size + 1) 38 _ (0, 0) _ rfl (mtAll HM9.out) Tryz.underlying38 rfl info33) rfl ⟨rfl, HB9.out⟩
theorem used12 (p : Pkt) (a : PA) (w : World) (hk0 : p.kind = 12) :
 Calls Tryz.prog 34 #[pkV p a] w fun e w' => e = .returned (pkV (usedP p) (usedA p a)) ∧ Below w.heap.size w w' := by
 unfold pkV
 have k0 : (pkC p a)[0]? = some (.int .i64 12) := by rw [← hk0]; rfl
 have k0z := Lib.hid k0
 have hk := Lib.hid hk0
 clear hk0
 go_enter Tryz.func34, Tryz.ntmps34
 go_upto_region 1 with fail
 refine name_world (C := fun w1 => Code.wp _ _ _ _ w1) ((w.alloc (.cells (pkC p a).toArray 38)).alloc (.cells (pkC Pkt.zero PA.zero).toArray 38)) ?_
 rintro w0 hw0
 obtain ⟨b1, b2, b3⟩ := two hw0
 have hU0 : w.heap.size + 1 < w0.heap.size := b3.lt
 have k0w : w0.cell? ⟨w.heap.size, 0, none⟩ = some (.int .i64 12) := (b2.cell 0).trans k0
 have HBw0 := Lib.hid b1
 have HQw0 := Lib.hid b2
 have HTw0 := Lib.hid b3
 clear b1 b2 b3 hw0 k0
 go_upto_region 24 with (refine wpList_store_blk (by rfl) 38 (.tmp 3) (.tmp 6) rfl rfl w0.heap.size 0 34 rfl (.agg (zC 12).toArray) rfl 38 (pkC Pkt.zero PA.zero) (zC 12) (zero_new w0) rfl rfl info33 (by rw [pkC_len]; decide) (one_cells rfl) ?_; rintro w1 hM hoth hbel; have HQw1 : Hid (MT 38 w1 (w.heap.size) (pkC p a)) := Lib.hid (hoth _ _ _ (by omega) (HQw0.out.alloc _)); have HTw1 : Hid (MT 38 w1 (w.heap.size + 1) (pkC Pkt.zero PA.zero)) := Lib.hid (hoth _ _ _ (by omega) (HTw0.out.alloc _)); have HUw1 : Hid (MT 38 w1 (w0.heap.size) (zC 12)) := Lib.hid (by rw [putC_all (pkC Pkt.zero PA.zero) (zC 12) rfl] at hM; exact hM); have HBw1 : Hid (Below w.heap.size w w1) := Lib.hid (hbel _ _ (by omega) (HBw0.out.alloc (by omega) _)); have k0v : w1.cell? ⟨w.heap.size, 0, none⟩ = some (.int .i64 12) := (HQw1.out.cell 0).trans k0z.out; clear hM hoth hbel HQw0 HTw0 HBw0 k0w)
 have HLw1 := Lib.hid (zC_len 12)
 have HE : Hid (zC 12 = pkC (usedP p) (usedA p a)) := Lib.hid (by unfold usedP usedA; simp only [hk.out]; rfl)
 have HU9 : Hid (MT 38 w1 (w0.heap.size) (pkC (usedP p) (usedA p a))) := Lib.hid (by have := HUw1.out; rw [HE.out] at this; exact this)
 go_wp2_with (first | (refine wpList_load_all (by rfl) 38 (.tmp 3) rfl (w0.heap.size) rfl 38 _ (0, 0) _ HU9.out Tryz.underlying38 rfl info33 ?_) | (refine wpList_store_blk (by rfl) 38 (.tmp 2) (.tmp 89) rfl rfl (w.heap.size + 1) 0 34 rfl (.agg (pkC (usedP p) (usedA p a)).toArray) rfl 38 (pkC Pkt.zero PA.zero) (pkC (usedP p) (usedA p a)) HTw1.out rfl rfl info33 (by rw [pkC_len]; decide) (one_cells rfl) ?_; rintro w9 hM _ hbel; have HM9 := Lib.hid hM; have HB9 := Lib.hid (hbel _ _ (by omega) HBw1.out); clear hM hbel))
 exact bodyPost_ret (v := .agg (pkC (usedP p) (usedA p a)).toArray) (results_cell_row rfl _ _ (w.heap.size + 1) 38 _ (0, 0) _ rfl (mtAll HM9.out) Tryz.underlying38 rfl info33) rfl ⟨rfl, HB9.out⟩
theorem used13 (p : Pkt) (a : PA) (w : World) (hk0 : p.kind = 13) :
 Calls Tryz.prog 34 #[pkV p a] w fun e w' => e = .returned (pkV (usedP p) (usedA p a)) ∧ Below w.heap.size w w' := by
 unfold pkV
 have k0 : (pkC p a)[0]? = some (.int .i64 13) := by rw [← hk0]; rfl
 have k0z := Lib.hid k0
 have hk := Lib.hid hk0
 clear hk0
 go_enter Tryz.func34, Tryz.ntmps34
 go_upto_region 1 with fail
 refine name_world (C := fun w1 => Code.wp _ _ _ _ w1) ((w.alloc (.cells (pkC p a).toArray 38)).alloc (.cells (pkC Pkt.zero PA.zero).toArray 38)) ?_
 rintro w0 hw0
 obtain ⟨b1, b2, b3⟩ := two hw0
 have hU0 : w.heap.size + 1 < w0.heap.size := b3.lt
 have k0w : w0.cell? ⟨w.heap.size, 0, none⟩ = some (.int .i64 13) := (b2.cell 0).trans k0
 have HBw0 := Lib.hid b1
 have HQw0 := Lib.hid b2
 have HTw0 := Lib.hid b3
 clear b1 b2 b3 hw0 k0
 go_upto_region 24 with (refine wpList_store_blk (by rfl) 38 (.tmp 3) (.tmp 6) rfl rfl w0.heap.size 0 34 rfl (.agg (zC 13).toArray) rfl 38 (pkC Pkt.zero PA.zero) (zC 13) (zero_new w0) rfl rfl info33 (by rw [pkC_len]; decide) (one_cells rfl) ?_; rintro w1 hM hoth hbel; have HQw1 : Hid (MT 38 w1 (w.heap.size) (pkC p a)) := Lib.hid (hoth _ _ _ (by omega) (HQw0.out.alloc _)); have HTw1 : Hid (MT 38 w1 (w.heap.size + 1) (pkC Pkt.zero PA.zero)) := Lib.hid (hoth _ _ _ (by omega) (HTw0.out.alloc _)); have HUw1 : Hid (MT 38 w1 (w0.heap.size) (zC 13)) := Lib.hid (by rw [putC_all (pkC Pkt.zero PA.zero) (zC 13) rfl] at hM; exact hM); have HBw1 : Hid (Below w.heap.size w w1) := Lib.hid (hbel _ _ (by omega) (HBw0.out.alloc (by omega) _)); have k0v : w1.cell? ⟨w.heap.size, 0, none⟩ = some (.int .i64 13) := (HQw1.out.cell 0).trans k0z.out; clear hM hoth hbel HQw0 HTw0 HBw0 k0w)
 have HLw1 := Lib.hid (zC_len 13)
 have HE : Hid (zC 13 = pkC (usedP p) (usedA p a)) := Lib.hid (by unfold usedP usedA; simp only [hk.out]; rfl)
 have HU9 : Hid (MT 38 w1 (w0.heap.size) (pkC (usedP p) (usedA p a))) := Lib.hid (by have := HUw1.out; rw [HE.out] at this; exact this)
 go_wp2_with (first | (refine wpList_load_all (by rfl) 38 (.tmp 3) rfl (w0.heap.size) rfl 38 _ (0, 0) _ HU9.out Tryz.underlying38 rfl info33 ?_) | (refine wpList_store_blk (by rfl) 38 (.tmp 2) (.tmp 89) rfl rfl (w.heap.size + 1) 0 34 rfl (.agg (pkC (usedP p) (usedA p a)).toArray) rfl 38 (pkC Pkt.zero PA.zero) (pkC (usedP p) (usedA p a)) HTw1.out rfl rfl info33 (by rw [pkC_len]; decide) (one_cells rfl) ?_; rintro w9 hM _ hbel; have HM9 := Lib.hid hM; have HB9 := Lib.hid (hbel _ _ (by omega) HBw1.out); clear hM hbel))
 exact bodyPost_ret (v := .agg (pkC (usedP p) (usedA p a)).toArray) (results_cell_row rfl _ _ (w.heap.size + 1) 38 _ (0, 0) _ rfl (mtAll HM9.out) Tryz.underlying38 rfl info33) rfl ⟨rfl, HB9.out⟩
theorem used2 (p : Pkt) (a : PA) (w : World) (hk0 : p.kind = 2) :
 Calls Tryz.prog 34 #[pkV p a] w fun e w' => e = .returned (pkV (usedP p) (usedA p a)) ∧ Below w.heap.size w w' := by
 unfold pkV
 have k0 : (pkC p a)[0]? = some (.int .i64 2) := by rw [← hk0]; rfl
 have k0z := Lib.hid k0
 have hk := Lib.hid hk0
 clear hk0
 go_enter Tryz.func34, Tryz.ntmps34
 go_upto_region 1 with fail
 refine name_world (C := fun w1 => Code.wp _ _ _ _ w1) ((w.alloc (.cells (pkC p a).toArray 38)).alloc (.cells (pkC Pkt.zero PA.zero).toArray 38)) ?_
 rintro w0 hw0
 obtain ⟨b1, b2, b3⟩ := two hw0
 have hU0 : w.heap.size + 1 < w0.heap.size := b3.lt
 have k0w : w0.cell? ⟨w.heap.size, 0, none⟩ = some (.int .i64 2) := (b2.cell 0).trans k0
 have HBw0 := Lib.hid b1
 have HQw0 := Lib.hid b2
 have HTw0 := Lib.hid b3
 clear b1 b2 b3 hw0 k0
 go_upto_region 7 with (refine wpList_store_blk (by rfl) 38 (.tmp 3) (.tmp 6) rfl rfl w0.heap.size 0 34 rfl (.agg (zC 2).toArray) rfl 38 (pkC Pkt.zero PA.zero) (zC 2) (zero_new w0) rfl rfl info33 (by rw [pkC_len]; decide) (one_cells rfl) ?_; rintro w1 hM hoth hbel; have HQw1 : Hid (MT 38 w1 (w.heap.size) (pkC p a)) := Lib.hid (hoth _ _ _ (by omega) (HQw0.out.alloc _)); have HTw1 : Hid (MT 38 w1 (w.heap.size + 1) (pkC Pkt.zero PA.zero)) := Lib.hid (hoth _ _ _ (by omega) (HTw0.out.alloc _)); have HUw1 : Hid (MT 38 w1 (w0.heap.size) (zC 2)) := Lib.hid (by rw [putC_all (pkC Pkt.zero PA.zero) (zC 2) rfl] at hM; exact hM); have HBw1 : Hid (Below w.heap.size w w1) := Lib.hid (hbel _ _ (by omega) (HBw0.out.alloc (by omega) _)); have k0v : w1.cell? ⟨w.heap.size, 0, none⟩ = some (.int .i64 2) := (HQw1.out.cell 0).trans k0z.out; clear hM hoth hbel HQw0 HTw0 HBw0 k0w)
 have HLw1 := Lib.hid (zC_len 2)
 obtain ⟨v1, hv1⟩ : ∃ v1, v1 = World.drew w1 := ⟨_, rfl⟩
 have hbD : Below w1.heap.size w1 v1 := by rw [hv1]; exact (Below.refl _ _).drew
 have HBv1 : Hid (Below w.heap.size w v1) := Lib.hid (stepB HBw1.out hbD)
 have HQv1 : Hid (MT 38 v1 (w.heap.size) (pkC p a)) := Lib.hid (MT.step HQw1.out hbD)
 have HTv1 : Hid (MT 38 v1 (w.heap.size + 1) (pkC Pkt.zero PA.zero)) := Lib.hid (MT.step HTw1.out hbD)
 have HUv1 : Hid (MT 38 v1 (w0.heap.size) (zC 2)) := Lib.hid (MT.step HUw1.out hbD)
 have HLv1 : Hid ((zC 2).length = 34) := Lib.hid (HLw1.out)
 clear HBw1 HQw1 HTw1 HUw1 HLw1
 have hbd : (fun w' => MT 38 w' (w.heap.size) (pkC p a)) (World.drew w1) := by rw [← hv1]; exact HQv1.out
 have hSD := HQv1.out
 have HWD := Lib.hid hv1
 clear hv1 hbD
 refine wp_region_held_drew (S := fun w' => MT 38 w' (w.heap.size) (pkC p a)) (by kernel_rfl) hbd (fun hHeld => ?_)
 rw [← HWD.out]
 clear hHeld
 have hHeld := hSD
 clear hSD hbd HWD
 refine tkS (i := 0) (v := .pointer (some ⟨w.heap.size, 29, none⟩)) (h := ?_)
 refine tkA (i := 1) (v := .bool p.present) (y := Or.inl ⟨by rfl, fun wS hSw => by (try dsimp only at hSw); have cS : wS.cell? ⟨w.heap.size, 29, none⟩ = some (.bool p.present) := hSw.cell 29; clear hSw; go_simp⟩) (h := ?_)
 refine tkS (i := 2) (v := .pointer (some ⟨w.heap.size, 30, none⟩)) (h := ?_)
 refine tkA (i := 3) (v := .int .i64 p.code) (y := Or.inl ⟨by rfl, fun wS hSw => by (try dsimp only at hSw); have cS : wS.cell? ⟨w.heap.size, 30, none⟩ = some (.int .i64 p.code) := hSw.cell 30; clear hSw; go_simp⟩) (h := ?_)
 refine tkS (i := 4) (v := .pointer (some ⟨w0.heap.size, 29, none⟩)) (h := ?_)
 refine rdA 5 (h := fun K hK => ?_)
 refine wp_store_blk 4 _ _ rfl rfl (w0.heap.size) 29 1 (by go_simp) (.bool p.present) (by go_simp) 38 (zC 2) ([.bool p.present]) HUv1.out rfl rfl (oneSz _ (by simp)) (by rw [HLv1.out]; show 29 + 1 ≤ 34; decide) (one_cells rfl) ?_
 rintro v2 hM hoth hbel
 have HQv2 : Hid (MT 38 v2 (w.heap.size) (pkC p a)) := Lib.hid (hoth _ _ _ (by omega) HQv1.out)
 have HTv2 : Hid (MT 38 v2 (w.heap.size + 1) (pkC Pkt.zero PA.zero)) := Lib.hid (hoth _ _ _ (by omega) HTv1.out)
 have HUv2 : Hid (MT 38 v2 (w0.heap.size) (putC (zC 2) 29 ([.bool p.present]))) := Lib.hid hM
 have HLv2 : Hid ((putC (zC 2) 29 ([.bool p.present])).length = 34) := Lib.hid ((putC_len (by rw [HLv1.out]; show 29 + 1 ≤ 34; decide)).trans HLv1.out)
 have HBv2 : Hid (Below w.heap.size w v2) := Lib.hid (hbel _ _ (by omega) HBv1.out)
 clear hM hoth hbel HQv1 HTv1 HUv1 HLv1 HBv1
 clear hHeld
 refine hK.out _ _ HQv2.out (fun hHeld => ?_)
 clear hK K
 try simp only [Act.put, List.setIfInBounds_toArray, List.set]
 refine tkS (i := 6) (v := .pointer (some ⟨w0.heap.size, 30, none⟩)) (h := ?_)
 refine rdA 7 (h := fun K hK => ?_)
 refine wp_store_blk 3 _ _ rfl rfl (w0.heap.size) 30 1 (by go_simp) (.int .i64 p.code) (by go_simp) 38 (putC (zC 2) 29 ([.bool p.present])) ([.int .i64 p.code]) HUv2.out rfl rfl (oneSz _ (by simp)) (by rw [HLv2.out]; show 30 + 1 ≤ 34; decide) (one_cells rfl) ?_
 rintro v3 hM hoth hbel
 have HQv3 : Hid (MT 38 v3 (w.heap.size) (pkC p a)) := Lib.hid (hoth _ _ _ (by omega) HQv2.out)
 have HTv3 : Hid (MT 38 v3 (w.heap.size + 1) (pkC Pkt.zero PA.zero)) := Lib.hid (hoth _ _ _ (by omega) HTv2.out)
 have HUv3 : Hid (MT 38 v3 (w0.heap.size) (putC (putC (zC 2) 29 ([.bool p.present])) 30 ([.int .i64 p.code]))) := Lib.hid hM
 have HLv3 : Hid ((putC (putC (zC 2) 29 ([.bool p.present])) 30 ([.int .i64 p.code])).length = 34) := Lib.hid ((putC_len (by rw [HLv2.out]; show 30 + 1 ≤ 34; decide)).trans HLv2.out)
 have HBv3 : Hid (Below w.heap.size w v3) := Lib.hid (hbel _ _ (by omega) HBv2.out)
 clear hM hoth hbel HQv2 HTv2 HUv2 HLv2 HBv2
 clear hHeld
 refine hK.out _ _ HQv3.out (fun hHeld => ?_)
 clear hK K
 try simp only [Act.put, List.setIfInBounds_toArray, List.set]
 refine wpAnyH_done (by kernel_rfl) ?_ _
 have HE : Hid (putC (putC (zC 2) 29 ([.bool p.present])) 30 ([.int .i64 p.code]) = pkC (usedP p) (usedA p a)) := Lib.hid (by unfold usedP usedA; simp only [hk.out]; rfl)
 have HU9 : Hid (MT 38 v3 (w0.heap.size) (pkC (usedP p) (usedA p a))) := Lib.hid (by have := HUv3.out; rw [HE.out] at this; exact this)
 go_wp2_with (first | (refine wpList_load_all (by rfl) 38 (.tmp 3) rfl (w0.heap.size) rfl 38 _ (0, 0) _ HU9.out Tryz.underlying38 rfl info33 ?_) | (refine wpList_store_blk (by rfl) 38 (.tmp 2) (.tmp 89) rfl rfl (w.heap.size + 1) 0 34 rfl (.agg (pkC (usedP p) (usedA p a)).toArray) rfl 38 (pkC Pkt.zero PA.zero) (pkC (usedP p) (usedA p a)) HTv3.out rfl rfl info33 (by rw [pkC_len]; decide) (one_cells rfl) ?_; rintro w9 hM _ hbel; have HM9 := Lib.hid hM; have HB9 := Lib.hid (hbel _ _ (by omega) HBv3.out); clear hM hbel))
 exact bodyPost_ret (v := .agg (pkC (usedP p) (usedA p a)).toArray) (results_cell_row rfl _ _ (w.heap.size + 1) 38 _ (0, 0) _ rfl (mtAll HM9.out) Tryz.underlying38 rfl info33) rfl ⟨rfl, HB9.out⟩
theorem used3 (p : Pkt) (a : PA) (w : World) (hk0 : p.kind = 3) :
 Calls Tryz.prog 34 #[pkV p a] w fun e w' => e = .returned (pkV (usedP p) (usedA p a)) ∧ Below w.heap.size w w' := by
 unfold pkV
 have k0 : (pkC p a)[0]? = some (.int .i64 3) := by rw [← hk0]; rfl
 have k0z := Lib.hid k0
 have hk := Lib.hid hk0
 clear hk0
 go_enter Tryz.func34, Tryz.ntmps34
 go_upto_region 1 with fail
 refine name_world (C := fun w1 => Code.wp _ _ _ _ w1) ((w.alloc (.cells (pkC p a).toArray 38)).alloc (.cells (pkC Pkt.zero PA.zero).toArray 38)) ?_
 rintro w0 hw0
 obtain ⟨b1, b2, b3⟩ := two hw0
 have hU0 : w.heap.size + 1 < w0.heap.size := b3.lt
 have k0w : w0.cell? ⟨w.heap.size, 0, none⟩ = some (.int .i64 3) := (b2.cell 0).trans k0
 have HBw0 := Lib.hid b1
 have HQw0 := Lib.hid b2
 have HTw0 := Lib.hid b3
 clear b1 b2 b3 hw0 k0
 go_upto_region 9 with (refine wpList_store_blk (by rfl) 38 (.tmp 3) (.tmp 6) rfl rfl w0.heap.size 0 34 rfl (.agg (zC 3).toArray) rfl 38 (pkC Pkt.zero PA.zero) (zC 3) (zero_new w0) rfl rfl info33 (by rw [pkC_len]; decide) (one_cells rfl) ?_; rintro w1 hM hoth hbel; have HQw1 : Hid (MT 38 w1 (w.heap.size) (pkC p a)) := Lib.hid (hoth _ _ _ (by omega) (HQw0.out.alloc _)); have HTw1 : Hid (MT 38 w1 (w.heap.size + 1) (pkC Pkt.zero PA.zero)) := Lib.hid (hoth _ _ _ (by omega) (HTw0.out.alloc _)); have HUw1 : Hid (MT 38 w1 (w0.heap.size) (zC 3)) := Lib.hid (by rw [putC_all (pkC Pkt.zero PA.zero) (zC 3) rfl] at hM; exact hM); have HBw1 : Hid (Below w.heap.size w w1) := Lib.hid (hbel _ _ (by omega) (HBw0.out.alloc (by omega) _)); have k0v : w1.cell? ⟨w.heap.size, 0, none⟩ = some (.int .i64 3) := (HQw1.out.cell 0).trans k0z.out; clear hM hoth hbel HQw0 HTw0 HBw0 k0w)
 have HLw1 := Lib.hid (zC_len 3)
 obtain ⟨v1, hv1⟩ : ∃ v1, v1 = World.drew w1 := ⟨_, rfl⟩
 have hbD : Below w1.heap.size w1 v1 := by rw [hv1]; exact (Below.refl _ _).drew
 have HBv1 : Hid (Below w.heap.size w v1) := Lib.hid (stepB HBw1.out hbD)
 have HQv1 : Hid (MT 38 v1 (w.heap.size) (pkC p a)) := Lib.hid (MT.step HQw1.out hbD)
 have HTv1 : Hid (MT 38 v1 (w.heap.size + 1) (pkC Pkt.zero PA.zero)) := Lib.hid (MT.step HTw1.out hbD)
 have HUv1 : Hid (MT 38 v1 (w0.heap.size) (zC 3)) := Lib.hid (MT.step HUw1.out hbD)
 have HLv1 : Hid ((zC 3).length = 34) := Lib.hid (HLw1.out)
 clear HBw1 HQw1 HTw1 HUw1 HLw1
 have hbd : (fun w' => MT 38 w' (w.heap.size) (pkC p a)) (World.drew w1) := by rw [← hv1]; exact HQv1.out
 have hSD := HQv1.out
 have HWD := Lib.hid hv1
 clear hv1 hbD
 refine wp_region_held_drew (S := fun w' => MT 38 w' (w.heap.size) (pkC p a)) (by kernel_rfl) hbd (fun hHeld => ?_)
 rw [← HWD.out]
 clear hHeld
 have hHeld := hSD
 clear hSD hbd HWD
 refine tkS (i := 0) (v := .pointer (some ⟨w.heap.size, 1, none⟩)) (h := ?_)
 refine tkA (i := 1) (v := .int .i64 p.id) (y := Or.inl ⟨by rfl, fun wS hSw => by (try dsimp only at hSw); have cS : wS.cell? ⟨w.heap.size, 1, none⟩ = some (.int .i64 p.id) := hSw.cell 1; clear hSw; go_simp⟩) (h := ?_)
 refine tkS (i := 2) (v := .pointer (some ⟨w.heap.size, 2, none⟩)) (h := ?_)
 refine tkA (i := 3) (v := .bool p.dup) (y := Or.inl ⟨by rfl, fun wS hSw => by (try dsimp only at hSw); have cS : wS.cell? ⟨w.heap.size, 2, none⟩ = some (.bool p.dup) := hSw.cell 2; clear hSw; go_simp⟩) (h := ?_)
 refine tkS (i := 4) (v := .pointer (some ⟨w.heap.size, 3, none⟩)) (h := ?_)
 refine tkA (i := 5) (v := msgV p.msg a.m a.mc) (y := Or.inl ⟨by rfl, fun wS hSw => by (try dsimp only at hSw); exact exec_load 31 _ rfl ⟨w.heap.size, 3, none⟩ (by go_simp) _ (run_load_part wS w.heap.size 3 9 38 31 _ (0, 0) _ hSw Tryz.underlying31 rfl info26 (by rw [pkC_len]; decide))⟩) (h := ?_)
 refine tkS (i := 6) (v := .pointer (some ⟨w0.heap.size, 1, none⟩)) (h := ?_)
 refine rdA 7 (h := fun K hK => ?_)
 refine wp_store_blk 3 _ _ rfl rfl (w0.heap.size) 1 1 (by go_simp) (.int .i64 p.id) (by go_simp) 38 (zC 3) ([.int .i64 p.id]) HUv1.out rfl rfl (oneSz _ (by simp)) (by rw [HLv1.out]; show 1 + 1 ≤ 34; decide) (one_cells rfl) ?_
 rintro v2 hM hoth hbel
 have HQv2 : Hid (MT 38 v2 (w.heap.size) (pkC p a)) := Lib.hid (hoth _ _ _ (by omega) HQv1.out)
 have HTv2 : Hid (MT 38 v2 (w.heap.size + 1) (pkC Pkt.zero PA.zero)) := Lib.hid (hoth _ _ _ (by omega) HTv1.out)
 have HUv2 : Hid (MT 38 v2 (w0.heap.size) (putC (zC 3) 1 ([.int .i64 p.id]))) := Lib.hid hM
 have HLv2 : Hid ((putC (zC 3) 1 ([.int .i64 p.id])).length = 34) := Lib.hid ((putC_len (by rw [HLv1.out]; show 1 + 1 ≤ 34; decide)).trans HLv1.out)
 have HBv2 : Hid (Below w.heap.size w v2) := Lib.hid (hbel _ _ (by omega) HBv1.out)
 clear hM hoth hbel HQv1 HTv1 HUv1 HLv1 HBv1
 clear hHeld
 refine hK.out _ _ HQv2.out (fun hHeld => ?_)
 clear hK K
 try simp only [Act.put, List.setIfInBounds_toArray, List.set]
 refine tkS (i := 8) (v := .pointer (some ⟨w0.heap.size, 2, none⟩)) (h := ?_)
 refine rdA 9 (h := fun K hK => ?_)
 refine wp_store_blk 4 _ _ rfl rfl (w0.heap.size) 2 1 (by go_simp) (.bool p.dup) (by go_simp) 38 (putC (zC 3) 1 ([.int .i64 p.id])) ([.bool p.dup]) HUv2.out rfl rfl (oneSz _ (by simp)) (by rw [HLv2.out]; show 2 + 1 ≤ 34; decide) (one_cells rfl) ?_
 rintro v3 hM hoth hbel
 have HQv3 : Hid (MT 38 v3 (w.heap.size) (pkC p a)) := Lib.hid (hoth _ _ _ (by omega) HQv2.out)
 have HTv3 : Hid (MT 38 v3 (w.heap.size + 1) (pkC Pkt.zero PA.zero)) := Lib.hid (hoth _ _ _ (by omega) HTv2.out)
 have HUv3 : Hid (MT 38 v3 (w0.heap.size) (putC (putC (zC 3) 1 ([.int .i64 p.id])) 2 ([.bool p.dup]))) := Lib.hid hM
 have HLv3 : Hid ((putC (putC (zC 3) 1 ([.int .i64 p.id])) 2 ([.bool p.dup])).length = 34) := Lib.hid ((putC_len (by rw [HLv2.out]; show 2 + 1 ≤ 34; decide)).trans HLv2.out)
 have HBv3 : Hid (Below w.heap.size w v3) := Lib.hid (hbel _ _ (by omega) HBv2.out)
 clear hM hoth hbel HQv2 HTv2 HUv2 HLv2 HBv2
 clear hHeld
 refine hK.out _ _ HQv3.out (fun hHeld => ?_)
 clear hK K
 try simp only [Act.put, List.setIfInBounds_toArray, List.set]
 refine tkS (i := 10) (v := .pointer (some ⟨w0.heap.size, 3, none⟩)) (h := ?_)
 refine rdA 11 (h := fun K hK => ?_)
 refine wp_store_blk 31 _ _ rfl rfl (w0.heap.size) 3 9 (by go_simp) (msgV p.msg a.m a.mc) (by go_simp) 38 (putC (putC (zC 3) 1 ([.int .i64 p.id])) 2 ([.bool p.dup])) (msgC p.msg a.m a.mc) HUv3.out rfl rfl info26 (by rw [HLv3.out]; show 3 + 9 ≤ 34; decide) (one_cells rfl) ?_
 rintro v4 hM hoth hbel
 have HQv4 : Hid (MT 38 v4 (w.heap.size) (pkC p a)) := Lib.hid (hoth _ _ _ (by omega) HQv3.out)
 have HTv4 : Hid (MT 38 v4 (w.heap.size + 1) (pkC Pkt.zero PA.zero)) := Lib.hid (hoth _ _ _ (by omega) HTv3.out)
 have HUv4 : Hid (MT 38 v4 (w0.heap.size) (putC (putC (putC (zC 3) 1 ([.int .i64 p.id])) 2 ([.bool p.dup])) 3 (msgC p.msg a.m a.mc))) := Lib.hid hM
 have HLv4 : Hid ((putC (putC (putC (zC 3) 1 ([.int .i64 p.id])) 2 ([.bool p.dup])) 3 (msgC p.msg a.m a.mc)).length = 34) := Lib.hid ((putC_len (by rw [HLv3.out]; show 3 + 9 ≤ 34; decide)).trans HLv3.out)
 have HBv4 : Hid (Below w.heap.size w v4) := Lib.hid (hbel _ _ (by omega) HBv3.out)
 clear hM hoth hbel HQv3 HTv3 HUv3 HLv3 HBv3
 clear hHeld
 refine hK.out _ _ HQv4.out (fun hHeld => ?_)
 clear hK K
 try simp only [Act.put, List.setIfInBounds_toArray, List.set]
 refine wpAnyH_done (by kernel_rfl) ?_ _
 have HE : Hid (putC (putC (putC (zC 3) 1 ([.int .i64 p.id])) 2 ([.bool p.dup])) 3 (msgC p.msg a.m a.mc) = pkC (usedP p) (usedA p a)) := Lib.hid (by unfold usedP usedA; simp only [hk.out]; rfl)
 have HU9 : Hid (MT 38 v4 (w0.heap.size) (pkC (usedP p) (usedA p a))) := Lib.hid (by have := HUv4.out; rw [HE.out] at this; exact this)
 go_wp2_with (first | (refine wpList_load_all (by rfl) 38 (.tmp 3) rfl (w0.heap.size) rfl 38 _ (0, 0) _ HU9.out Tryz.underlying38 rfl info33 ?_) | (refine wpList_store_blk (by rfl) 38 (.tmp 2) (.tmp 89) rfl rfl (w.heap.size + 1) 0 34 rfl (.agg (pkC (usedP p) (usedA p a)).toArray) rfl 38 (pkC Pkt.zero PA.zero) (pkC (usedP p) (usedA p a)) HTv4.out rfl rfl info33 (by rw [pkC_len]; decide) (one_cells rfl) ?_; rintro w9 hM _ hbel; have HM9 := Lib.hid hM; have HB9 := Lib.hid (hbel _ _ (by omega) HBv4.out); clear hM hbel))
 exact bodyPost_ret (v := .agg (pkC (usedP p) (usedA p a)).toArray) (results_cell_row rfl _ _ (w.heap.size + 1) 38 _ (0, 0) _ rfl (mtAll HM9.out) Tryz.underlying38 rfl info33) rfl ⟨rfl, HB9.out⟩
theorem used8 (p : Pkt) (a : PA) (w : World) (hk0 : p.kind = 8) :
 Calls Tryz.prog 34 #[pkV p a] w fun e w' => e = .returned (pkV (usedP p) (usedA p a)) ∧ Below w.heap.size w w' := by
 unfold pkV
 have k0 : (pkC p a)[0]? = some (.int .i64 8) := by rw [← hk0]; rfl
 have k0z := Lib.hid k0
 have hk := Lib.hid hk0
 clear hk0
 go_enter Tryz.func34, Tryz.ntmps34
 go_upto_region 1 with fail
 refine name_world (C := fun w1 => Code.wp _ _ _ _ w1) ((w.alloc (.cells (pkC p a).toArray 38)).alloc (.cells (pkC Pkt.zero PA.zero).toArray 38)) ?_
 rintro w0 hw0
 obtain ⟨b1, b2, b3⟩ := two hw0
 have hU0 : w.heap.size + 1 < w0.heap.size := b3.lt
 have k0w : w0.cell? ⟨w.heap.size, 0, none⟩ = some (.int .i64 8) := (b2.cell 0).trans k0
 have HBw0 := Lib.hid b1
 have HQw0 := Lib.hid b2
 have HTw0 := Lib.hid b3
 clear b1 b2 b3 hw0 k0
 go_upto_region 16 with (refine wpList_store_blk (by rfl) 38 (.tmp 3) (.tmp 6) rfl rfl w0.heap.size 0 34 rfl (.agg (zC 8).toArray) rfl 38 (pkC Pkt.zero PA.zero) (zC 8) (zero_new w0) rfl rfl info33 (by rw [pkC_len]; decide) (one_cells rfl) ?_; rintro w1 hM hoth hbel; have HQw1 : Hid (MT 38 w1 (w.heap.size) (pkC p a)) := Lib.hid (hoth _ _ _ (by omega) (HQw0.out.alloc _)); have HTw1 : Hid (MT 38 w1 (w.heap.size + 1) (pkC Pkt.zero PA.zero)) := Lib.hid (hoth _ _ _ (by omega) (HTw0.out.alloc _)); have HUw1 : Hid (MT 38 w1 (w0.heap.size) (zC 8)) := Lib.hid (by rw [putC_all (pkC Pkt.zero PA.zero) (zC 8) rfl] at hM; exact hM); have HBw1 : Hid (Below w.heap.size w w1) := Lib.hid (hbel _ _ (by omega) (HBw0.out.alloc (by omega) _)); have k0v : w1.cell? ⟨w.heap.size, 0, none⟩ = some (.int .i64 8) := (HQw1.out.cell 0).trans k0z.out; clear hM hoth hbel HQw0 HTw0 HBw0 k0w)
 have HLw1 := Lib.hid (zC_len 8)
 obtain ⟨v1, hv1⟩ : ∃ v1, v1 = World.drew w1 := ⟨_, rfl⟩
 have hbD : Below w1.heap.size w1 v1 := by rw [hv1]; exact (Below.refl _ _).drew
 have HBv1 : Hid (Below w.heap.size w v1) := Lib.hid (stepB HBw1.out hbD)
 have HQv1 : Hid (MT 38 v1 (w.heap.size) (pkC p a)) := Lib.hid (MT.step HQw1.out hbD)
 have HTv1 : Hid (MT 38 v1 (w.heap.size + 1) (pkC Pkt.zero PA.zero)) := Lib.hid (MT.step HTw1.out hbD)
 have HUv1 : Hid (MT 38 v1 (w0.heap.size) (zC 8)) := Lib.hid (MT.step HUw1.out hbD)
 have HLv1 : Hid ((zC 8).length = 34) := Lib.hid (HLw1.out)
 clear HBw1 HQw1 HTw1 HUw1 HLw1
 have hbd : (fun w' => MT 38 w' (w.heap.size) (pkC p a)) (World.drew w1) := by rw [← hv1]; exact HQv1.out
 have hSD := HQv1.out
 have HWD := Lib.hid hv1
 clear hv1 hbD
 refine wp_region_held_drew (S := fun w' => MT 38 w' (w.heap.size) (pkC p a)) (by kernel_rfl) hbd (fun hHeld => ?_)
 rw [← HWD.out]
 clear hHeld
 have hHeld := hSD
 clear hSD hbd HWD
 refine tkS (i := 0) (v := .pointer (some ⟨w.heap.size, 1, none⟩)) (h := ?_)
 refine tkA (i := 1) (v := .int .i64 p.id) (y := Or.inl ⟨by rfl, fun wS hSw => by (try dsimp only at hSw); have cS : wS.cell? ⟨w.heap.size, 1, none⟩ = some (.int .i64 p.id) := hSw.cell 1; clear hSw; go_simp⟩) (h := ?_)
 refine tkS (i := 2) (v := .pointer (some ⟨w.heap.size, 31, none⟩)) (h := ?_)
 refine tkA (i := 3) (v := .slice a.s p.subs.length a.sc) (y := Or.inl ⟨by rfl, fun wS hSw => by (try dsimp only at hSw); have cS : wS.cell? ⟨w.heap.size, 31, none⟩ = some (.slice a.s p.subs.length a.sc) := hSw.cell 31; clear hSw; go_simp⟩) (h := ?_)
 refine tkS (i := 4) (v := .pointer (some ⟨w0.heap.size, 1, none⟩)) (h := ?_)
 refine rdA 5 (h := fun K hK => ?_)
 refine wp_store_blk 3 _ _ rfl rfl (w0.heap.size) 1 1 (by go_simp) (.int .i64 p.id) (by go_simp) 38 (zC 8) ([.int .i64 p.id]) HUv1.out rfl rfl (oneSz _ (by simp)) (by rw [HLv1.out]; show 1 + 1 ≤ 34; decide) (one_cells rfl) ?_
 rintro v2 hM hoth hbel
 have HQv2 : Hid (MT 38 v2 (w.heap.size) (pkC p a)) := Lib.hid (hoth _ _ _ (by omega) HQv1.out)
 have HTv2 : Hid (MT 38 v2 (w.heap.size + 1) (pkC Pkt.zero PA.zero)) := Lib.hid (hoth _ _ _ (by omega) HTv1.out)
 have HUv2 : Hid (MT 38 v2 (w0.heap.size) (putC (zC 8) 1 ([.int .i64 p.id]))) := Lib.hid hM
 have HLv2 : Hid ((putC (zC 8) 1 ([.int .i64 p.id])).length = 34) := Lib.hid ((putC_len (by rw [HLv1.out]; show 1 + 1 ≤ 34; decide)).trans HLv1.out)
 have HBv2 : Hid (Below w.heap.size w v2) := Lib.hid (hbel _ _ (by omega) HBv1.out)
 clear hM hoth hbel HQv1 HTv1 HUv1 HLv1 HBv1
 clear hHeld
 refine hK.out _ _ HQv2.out (fun hHeld => ?_)
 clear hK K
 try simp only [Act.put, List.setIfInBounds_toArray, List.set]
 refine tkS (i := 6) (v := .pointer (some ⟨w0.heap.size, 31, none⟩)) (h := ?_)
 refine rdA 7 (h := fun K hK => ?_)
 refine wp_store_blk 34 _ _ rfl rfl (w0.heap.size) 31 1 (by go_simp) (.slice a.s p.subs.length a.sc) (by go_simp) 38 (putC (zC 8) 1 ([.int .i64 p.id])) ([.slice a.s p.subs.length a.sc]) HUv2.out rfl rfl (oneSz _ (by simp)) (by rw [HLv2.out]; show 31 + 1 ≤ 34; decide) (one_cells rfl) ?_
 rintro v3 hM hoth hbel
 have HQv3 : Hid (MT 38 v3 (w.heap.size) (pkC p a)) := Lib.hid (hoth _ _ _ (by omega) HQv2.out)
 have HTv3 : Hid (MT 38 v3 (w.heap.size + 1) (pkC Pkt.zero PA.zero)) := Lib.hid (hoth _ _ _ (by omega) HTv2.out)
 have HUv3 : Hid (MT 38 v3 (w0.heap.size) (putC (putC (zC 8) 1 ([.int .i64 p.id])) 31 ([.slice a.s p.subs.length a.sc]))) := Lib.hid hM
 have HLv3 : Hid ((putC (putC (zC 8) 1 ([.int .i64 p.id])) 31 ([.slice a.s p.subs.length a.sc])).length = 34) := Lib.hid ((putC_len (by rw [HLv2.out]; show 31 + 1 ≤ 34; decide)).trans HLv2.out)
 have HBv3 : Hid (Below w.heap.size w v3) := Lib.hid (hbel _ _ (by omega) HBv2.out)
 clear hM hoth hbel HQv2 HTv2 HUv2 HLv2 HBv2
 clear hHeld
 refine hK.out _ _ HQv3.out (fun hHeld => ?_)
 clear hK K
 try simp only [Act.put, List.setIfInBounds_toArray, List.set]
 refine wpAnyH_done (by kernel_rfl) ?_ _
 have HE : Hid (putC (putC (zC 8) 1 ([.int .i64 p.id])) 31 ([.slice a.s p.subs.length a.sc]) = pkC (usedP p) (usedA p a)) := Lib.hid (by unfold usedP usedA; simp only [hk.out]; rfl)
 have HU9 : Hid (MT 38 v3 (w0.heap.size) (pkC (usedP p) (usedA p a))) := Lib.hid (by have := HUv3.out; rw [HE.out] at this; exact this)
 go_wp2_with (first | (refine wpList_load_all (by rfl) 38 (.tmp 3) rfl (w0.heap.size) rfl 38 _ (0, 0) _ HU9.out Tryz.underlying38 rfl info33 ?_) | (refine wpList_store_blk (by rfl) 38 (.tmp 2) (.tmp 89) rfl rfl (w.heap.size + 1) 0 34 rfl (.agg (pkC (usedP p) (usedA p a)).toArray) rfl 38 (pkC Pkt.zero PA.zero) (pkC (usedP p) (usedA p a)) HTv3.out rfl rfl info33 (by rw [pkC_len]; decide) (one_cells rfl) ?_; rintro w9 hM _ hbel; have HM9 := Lib.hid hM; have HB9 := Lib.hid (hbel _ _ (by omega) HBv3.out); clear hM hbel))
 exact bodyPost_ret (v := .agg (pkC (usedP p) (usedA p a)).toArray) (results_cell_row rfl _ _ (w.heap.size + 1) 38 _ (0, 0) _ rfl (mtAll HM9.out) Tryz.underlying38 rfl info33) rfl ⟨rfl, HB9.out⟩
theorem used9 (p : Pkt) (a : PA) (w : World) (hk0 : p.kind = 9) :
 Calls Tryz.prog 34 #[pkV p a] w fun e w' => e = .returned (pkV (usedP p) (usedA p a)) ∧ Below w.heap.size w w' := by
 unfold pkV
 have k0 : (pkC p a)[0]? = some (.int .i64 9) := by rw [← hk0]; rfl
 have k0z := Lib.hid k0
 have hk := Lib.hid hk0
 clear hk0
 go_enter Tryz.func34, Tryz.ntmps34
 go_upto_region 1 with fail
 refine name_world (C := fun w1 => Code.wp _ _ _ _ w1) ((w.alloc (.cells (pkC p a).toArray 38)).alloc (.cells (pkC Pkt.zero PA.zero).toArray 38)) ?_
 rintro w0 hw0
 obtain ⟨b1, b2, b3⟩ := two hw0
 have hU0 : w.heap.size + 1 < w0.heap.size := b3.lt
 have k0w : w0.cell? ⟨w.heap.size, 0, none⟩ = some (.int .i64 9) := (b2.cell 0).trans k0
 have HBw0 := Lib.hid b1
 have HQw0 := Lib.hid b2
 have HTw0 := Lib.hid b3
 clear b1 b2 b3 hw0 k0
 go_upto_region 19 with (refine wpList_store_blk (by rfl) 38 (.tmp 3) (.tmp 6) rfl rfl w0.heap.size 0 34 rfl (.agg (zC 9).toArray) rfl 38 (pkC Pkt.zero PA.zero) (zC 9) (zero_new w0) rfl rfl info33 (by rw [pkC_len]; decide) (one_cells rfl) ?_; rintro w1 hM hoth hbel; have HQw1 : Hid (MT 38 w1 (w.heap.size) (pkC p a)) := Lib.hid (hoth _ _ _ (by omega) (HQw0.out.alloc _)); have HTw1 : Hid (MT 38 w1 (w.heap.size + 1) (pkC Pkt.zero PA.zero)) := Lib.hid (hoth _ _ _ (by omega) (HTw0.out.alloc _)); have HUw1 : Hid (MT 38 w1 (w0.heap.size) (zC 9)) := Lib.hid (by rw [putC_all (pkC Pkt.zero PA.zero) (zC 9) rfl] at hM; exact hM); have HBw1 : Hid (Below w.heap.size w w1) := Lib.hid (hbel _ _ (by omega) (HBw0.out.alloc (by omega) _)); have k0v : w1.cell? ⟨w.heap.size, 0, none⟩ = some (.int .i64 9) := (HQw1.out.cell 0).trans k0z.out; clear hM hoth hbel HQw0 HTw0 HBw0 k0w)
 have HLw1 := Lib.hid (zC_len 9)
 obtain ⟨v1, hv1⟩ : ∃ v1, v1 = World.drew w1 := ⟨_, rfl⟩
 have hbD : Below w1.heap.size w1 v1 := by rw [hv1]; exact (Below.refl _ _).drew
 have HBv1 : Hid (Below w.heap.size w v1) := Lib.hid (stepB HBw1.out hbD)
 have HQv1 : Hid (MT 38 v1 (w.heap.size) (pkC p a)) := Lib.hid (MT.step HQw1.out hbD)
 have HTv1 : Hid (MT 38 v1 (w.heap.size + 1) (pkC Pkt.zero PA.zero)) := Lib.hid (MT.step HTw1.out hbD)
 have HUv1 : Hid (MT 38 v1 (w0.heap.size) (zC 9)) := Lib.hid (MT.step HUw1.out hbD)
 have HLv1 : Hid ((zC 9).length = 34) := Lib.hid (HLw1.out)
 clear HBw1 HQw1 HTw1 HUw1 HLw1
 have hbd : (fun w' => MT 38 w' (w.heap.size) (pkC p a)) (World.drew w1) := by rw [← hv1]; exact HQv1.out
 have hSD := HQv1.out
 have HWD := Lib.hid hv1
 clear hv1 hbD
 refine wp_region_held_drew (S := fun w' => MT 38 w' (w.heap.size) (pkC p a)) (by kernel_rfl) hbd (fun hHeld => ?_)
 rw [← HWD.out]
 clear hHeld
 have hHeld := hSD
 clear hSD hbd HWD
 refine tkS (i := 0) (v := .pointer (some ⟨w.heap.size, 1, none⟩)) (h := ?_)
 refine tkA (i := 1) (v := .int .i64 p.id) (y := Or.inl ⟨by rfl, fun wS hSw => by (try dsimp only at hSw); have cS : wS.cell? ⟨w.heap.size, 1, none⟩ = some (.int .i64 p.id) := hSw.cell 1; clear hSw; go_simp⟩) (h := ?_)
 refine tkS (i := 2) (v := .pointer (some ⟨w.heap.size, 33, none⟩)) (h := ?_)
 refine tkA (i := 3) (v := .slice a.c p.codes.length a.cc) (y := Or.inl ⟨by rfl, fun wS hSw => by (try dsimp only at hSw); have cS : wS.cell? ⟨w.heap.size, 33, none⟩ = some (.slice a.c p.codes.length a.cc) := hSw.cell 33; clear hSw; go_simp⟩) (h := ?_)
 refine tkS (i := 4) (v := .pointer (some ⟨w0.heap.size, 1, none⟩)) (h := ?_)
 refine rdA 5 (h := fun K hK => ?_)
 refine wp_store_blk 3 _ _ rfl rfl (w0.heap.size) 1 1 (by go_simp) (.int .i64 p.id) (by go_simp) 38 (zC 9) ([.int .i64 p.id]) HUv1.out rfl rfl (oneSz _ (by simp)) (by rw [HLv1.out]; show 1 + 1 ≤ 34; decide) (one_cells rfl) ?_
 rintro v2 hM hoth hbel
 have HQv2 : Hid (MT 38 v2 (w.heap.size) (pkC p a)) := Lib.hid (hoth _ _ _ (by omega) HQv1.out)
 have HTv2 : Hid (MT 38 v2 (w.heap.size + 1) (pkC Pkt.zero PA.zero)) := Lib.hid (hoth _ _ _ (by omega) HTv1.out)
 have HUv2 : Hid (MT 38 v2 (w0.heap.size) (putC (zC 9) 1 ([.int .i64 p.id]))) := Lib.hid hM
 have HLv2 : Hid ((putC (zC 9) 1 ([.int .i64 p.id])).length = 34) := Lib.hid ((putC_len (by rw [HLv1.out]; show 1 + 1 ≤ 34; decide)).trans HLv1.out)
 have HBv2 : Hid (Below w.heap.size w v2) := Lib.hid (hbel _ _ (by omega) HBv1.out)
 clear hM hoth hbel HQv1 HTv1 HUv1 HLv1 HBv1
 clear hHeld
 refine hK.out _ _ HQv2.out (fun hHeld => ?_)
 clear hK K
 try simp only [Act.put, List.setIfInBounds_toArray, List.set]
 refine tkS (i := 6) (v := .pointer (some ⟨w0.heap.size, 33, none⟩)) (h := ?_)
 refine rdA 7 (h := fun K hK => ?_)
 refine wp_store_blk 36 _ _ rfl rfl (w0.heap.size) 33 1 (by go_simp) (.slice a.c p.codes.length a.cc) (by go_simp) 38 (putC (zC 9) 1 ([.int .i64 p.id])) ([.slice a.c p.codes.length a.cc]) HUv2.out rfl rfl (oneSz _ (by simp)) (by rw [HLv2.out]; show 33 + 1 ≤ 34; decide) (one_cells rfl) ?_
 rintro v3 hM hoth hbel
 have HQv3 : Hid (MT 38 v3 (w.heap.size) (pkC p a)) := Lib.hid (hoth _ _ _ (by omega) HQv2.out)
 have HTv3 : Hid (MT 38 v3 (w.heap.size + 1) (pkC Pkt.zero PA.zero)) := Lib.hid (hoth _ _ _ (by omega) HTv2.out)
 have HUv3 : Hid (MT 38 v3 (w0.heap.size) (putC (putC (zC 9) 1 ([.int .i64 p.id])) 33 ([.slice a.c p.codes.length a.cc]))) := Lib.hid hM
 have HLv3 : Hid ((putC (putC (zC 9) 1 ([.int .i64 p.id])) 33 ([.slice a.c p.codes.length a.cc])).length = 34) := Lib.hid ((putC_len (by rw [HLv2.out]; show 33 + 1 ≤ 34; decide)).trans HLv2.out)
 have HBv3 : Hid (Below w.heap.size w v3) := Lib.hid (hbel _ _ (by omega) HBv2.out)
 clear hM hoth hbel HQv2 HTv2 HUv2 HLv2 HBv2
 clear hHeld
 refine hK.out _ _ HQv3.out (fun hHeld => ?_)
 clear hK K
 try simp only [Act.put, List.setIfInBounds_toArray, List.set]
 refine wpAnyH_done (by kernel_rfl) ?_ _
 have HE : Hid (putC (putC (zC 9) 1 ([.int .i64 p.id])) 33 ([.slice a.c p.codes.length a.cc]) = pkC (usedP p) (usedA p a)) := Lib.hid (by unfold usedP usedA; simp only [hk.out]; rfl)
 have HU9 : Hid (MT 38 v3 (w0.heap.size) (pkC (usedP p) (usedA p a))) := Lib.hid (by have := HUv3.out; rw [HE.out] at this; exact this)
 go_wp2_with (first | (refine wpList_load_all (by rfl) 38 (.tmp 3) rfl (w0.heap.size) rfl 38 _ (0, 0) _ HU9.out Tryz.underlying38 rfl info33 ?_) | (refine wpList_store_blk (by rfl) 38 (.tmp 2) (.tmp 89) rfl rfl (w.heap.size + 1) 0 34 rfl (.agg (pkC (usedP p) (usedA p a)).toArray) rfl 38 (pkC Pkt.zero PA.zero) (pkC (usedP p) (usedA p a)) HTv3.out rfl rfl info33 (by rw [pkC_len]; decide) (one_cells rfl) ?_; rintro w9 hM _ hbel; have HM9 := Lib.hid hM; have HB9 := Lib.hid (hbel _ _ (by omega) HBv3.out); clear hM hbel))
 exact bodyPost_ret (v := .agg (pkC (usedP p) (usedA p a)).toArray) (results_cell_row rfl _ _ (w.heap.size + 1) 38 _ (0, 0) _ rfl (mtAll HM9.out) Tryz.underlying38 rfl info33) rfl ⟨rfl, HB9.out⟩
theorem used11 (p : Pkt) (a : PA) (w : World) (hk0 : p.kind = 11) :
 Calls Tryz.prog 34 #[pkV p a] w fun e w' => e = .returned (pkV (usedP p) (usedA p a)) ∧ Below w.heap.size w w' := by
 unfold pkV
 have k0 : (pkC p a)[0]? = some (.int .i64 11) := by rw [← hk0]; rfl
 have k0z := Lib.hid k0
 have hk := Lib.hid hk0
 clear hk0
 go_enter Tryz.func34, Tryz.ntmps34
 go_upto_region 1 with fail
 refine name_world (C := fun w1 => Code.wp _ _ _ _ w1) ((w.alloc (.cells (pkC p a).toArray 38)).alloc (.cells (pkC Pkt.zero PA.zero).toArray 38)) ?_
 rintro w0 hw0
 obtain ⟨b1, b2, b3⟩ := two hw0
 have hU0 : w.heap.size + 1 < w0.heap.size := b3.lt
 have k0w : w0.cell? ⟨w.heap.size, 0, none⟩ = some (.int .i64 11) := (b2.cell 0).trans k0
 have HBw0 := Lib.hid b1
 have HQw0 := Lib.hid b2
 have HTw0 := Lib.hid b3
 clear b1 b2 b3 hw0 k0
 go_upto_region 19 with (refine wpList_store_blk (by rfl) 38 (.tmp 3) (.tmp 6) rfl rfl w0.heap.size 0 34 rfl (.agg (zC 11).toArray) rfl 38 (pkC Pkt.zero PA.zero) (zC 11) (zero_new w0) rfl rfl info33 (by rw [pkC_len]; decide) (one_cells rfl) ?_; rintro w1 hM hoth hbel; have HQw1 : Hid (MT 38 w1 (w.heap.size) (pkC p a)) := Lib.hid (hoth _ _ _ (by omega) (HQw0.out.alloc _)); have HTw1 : Hid (MT 38 w1 (w.heap.size + 1) (pkC Pkt.zero PA.zero)) := Lib.hid (hoth _ _ _ (by omega) (HTw0.out.alloc _)); have HUw1 : Hid (MT 38 w1 (w0.heap.size) (zC 11)) := Lib.hid (by rw [putC_all (pkC Pkt.zero PA.zero) (zC 11) rfl] at hM; exact hM); have HBw1 : Hid (Below w.heap.size w w1) := Lib.hid (hbel _ _ (by omega) (HBw0.out.alloc (by omega) _)); have k0v : w1.cell? ⟨w.heap.size, 0, none⟩ = some (.int .i64 11) := (HQw1.out.cell 0).trans k0z.out; clear hM hoth hbel HQw0 HTw0 HBw0 k0w)
 have HLw1 := Lib.hid (zC_len 11)
 obtain ⟨v1, hv1⟩ : ∃ v1, v1 = World.drew w1 := ⟨_, rfl⟩
 have hbD : Below w1.heap.size w1 v1 := by rw [hv1]; exact (Below.refl _ _).drew
 have HBv1 : Hid (Below w.heap.size w v1) := Lib.hid (stepB HBw1.out hbD)
 have HQv1 : Hid (MT 38 v1 (w.heap.size) (pkC p a)) := Lib.hid (MT.step HQw1.out hbD)
 have HTv1 : Hid (MT 38 v1 (w.heap.size + 1) (pkC Pkt.zero PA.zero)) := Lib.hid (MT.step HTw1.out hbD)
 have HUv1 : Hid (MT 38 v1 (w0.heap.size) (zC 11)) := Lib.hid (MT.step HUw1.out hbD)
 have HLv1 : Hid ((zC 11).length = 34) := Lib.hid (HLw1.out)
 clear HBw1 HQw1 HTw1 HUw1 HLw1
 have hbd : (fun w' => MT 38 w' (w.heap.size) (pkC p a)) (World.drew w1) := by rw [← hv1]; exact HQv1.out
 have hSD := HQv1.out
 have HWD := Lib.hid hv1
 clear hv1 hbD
 refine wp_region_held_drew (S := fun w' => MT 38 w' (w.heap.size) (pkC p a)) (by kernel_rfl) hbd (fun hHeld => ?_)
 rw [← HWD.out]
 clear hHeld
 have hHeld := hSD
 clear hSD hbd HWD
 refine tkS (i := 0) (v := .pointer (some ⟨w.heap.size, 1, none⟩)) (h := ?_)
 refine tkA (i := 1) (v := .int .i64 p.id) (y := Or.inl ⟨by rfl, fun wS hSw => by (try dsimp only at hSw); have cS : wS.cell? ⟨w.heap.size, 1, none⟩ = some (.int .i64 p.id) := hSw.cell 1; clear hSw; go_simp⟩) (h := ?_)
 refine tkS (i := 2) (v := .pointer (some ⟨w.heap.size, 33, none⟩)) (h := ?_)
 refine tkA (i := 3) (v := .slice a.c p.codes.length a.cc) (y := Or.inl ⟨by rfl, fun wS hSw => by (try dsimp only at hSw); have cS : wS.cell? ⟨w.heap.size, 33, none⟩ = some (.slice a.c p.codes.length a.cc) := hSw.cell 33; clear hSw; go_simp⟩) (h := ?_)
 refine tkS (i := 4) (v := .pointer (some ⟨w0.heap.size, 1, none⟩)) (h := ?_)
 refine rdA 5 (h := fun K hK => ?_)
 refine wp_store_blk 3 _ _ rfl rfl (w0.heap.size) 1 1 (by go_simp) (.int .i64 p.id) (by go_simp) 38 (zC 11) ([.int .i64 p.id]) HUv1.out rfl rfl (oneSz _ (by simp)) (by rw [HLv1.out]; show 1 + 1 ≤ 34; decide) (one_cells rfl) ?_
 rintro v2 hM hoth hbel
 have HQv2 : Hid (MT 38 v2 (w.heap.size) (pkC p a)) := Lib.hid (hoth _ _ _ (by omega) HQv1.out)
 have HTv2 : Hid (MT 38 v2 (w.heap.size + 1) (pkC Pkt.zero PA.zero)) := Lib.hid (hoth _ _ _ (by omega) HTv1.out)
 have HUv2 : Hid (MT 38 v2 (w0.heap.size) (putC (zC 11) 1 ([.int .i64 p.id]))) := Lib.hid hM
 have HLv2 : Hid ((putC (zC 11) 1 ([.int .i64 p.id])).length = 34) := Lib.hid ((putC_len (by rw [HLv1.out]; show 1 + 1 ≤ 34; decide)).trans HLv1.out)
 have HBv2 : Hid (Below w.heap.size w v2) := Lib.hid (hbel _ _ (by omega) HBv1.out)
 clear hM hoth hbel HQv1 HTv1 HUv1 HLv1 HBv1
 clear hHeld
 refine hK.out _ _ HQv2.out (fun hHeld => ?_)
 clear hK K
 try simp only [Act.put, List.setIfInBounds_toArray, List.set]
 refine tkS (i := 6) (v := .pointer (some ⟨w0.heap.size, 33, none⟩)) (h := ?_)
 refine rdA 7 (h := fun K hK => ?_)
 refine wp_store_blk 36 _ _ rfl rfl (w0.heap.size) 33 1 (by go_simp) (.slice a.c p.codes.length a.cc) (by go_simp) 38 (putC (zC 11) 1 ([.int .i64 p.id])) ([.slice a.c p.codes.length a.cc]) HUv2.out rfl rfl (oneSz _ (by simp)) (by rw [HLv2.out]; show 33 + 1 ≤ 34; decide) (one_cells rfl) ?_
 rintro v3 hM hoth hbel
 have HQv3 : Hid (MT 38 v3 (w.heap.size) (pkC p a)) := Lib.hid (hoth _ _ _ (by omega) HQv2.out)
 have HTv3 : Hid (MT 38 v3 (w.heap.size + 1) (pkC Pkt.zero PA.zero)) := Lib.hid (hoth _ _ _ (by omega) HTv2.out)
 have HUv3 : Hid (MT 38 v3 (w0.heap.size) (putC (putC (zC 11) 1 ([.int .i64 p.id])) 33 ([.slice a.c p.codes.length a.cc]))) := Lib.hid hM
 have HLv3 : Hid ((putC (putC (zC 11) 1 ([.int .i64 p.id])) 33 ([.slice a.c p.codes.length a.cc])).length = 34) := Lib.hid ((putC_len (by rw [HLv2.out]; show 33 + 1 ≤ 34; decide)).trans HLv2.out)
 have HBv3 : Hid (Below w.heap.size w v3) := Lib.hid (hbel _ _ (by omega) HBv2.out)
 clear hM hoth hbel HQv2 HTv2 HUv2 HLv2 HBv2
 clear hHeld
 refine hK.out _ _ HQv3.out (fun hHeld => ?_)
 clear hK K
 try simp only [Act.put, List.setIfInBounds_toArray, List.set]
 refine wpAnyH_done (by kernel_rfl) ?_ _
 have HE : Hid (putC (putC (zC 11) 1 ([.int .i64 p.id])) 33 ([.slice a.c p.codes.length a.cc]) = pkC (usedP p) (usedA p a)) := Lib.hid (by unfold usedP usedA; simp only [hk.out]; rfl)
 have HU9 : Hid (MT 38 v3 (w0.heap.size) (pkC (usedP p) (usedA p a))) := Lib.hid (by have := HUv3.out; rw [HE.out] at this; exact this)
 go_wp2_with (first | (refine wpList_load_all (by rfl) 38 (.tmp 3) rfl (w0.heap.size) rfl 38 _ (0, 0) _ HU9.out Tryz.underlying38 rfl info33 ?_) | (refine wpList_store_blk (by rfl) 38 (.tmp 2) (.tmp 89) rfl rfl (w.heap.size + 1) 0 34 rfl (.agg (pkC (usedP p) (usedA p a)).toArray) rfl 38 (pkC Pkt.zero PA.zero) (pkC (usedP p) (usedA p a)) HTv3.out rfl rfl info33 (by rw [pkC_len]; decide) (one_cells rfl) ?_; rintro w9 hM _ hbel; have HM9 := Lib.hid hM; have HB9 := Lib.hid (hbel _ _ (by omega) HBv3.out); clear hM hbel))
 exact bodyPost_ret (v := .agg (pkC (usedP p) (usedA p a)).toArray) (results_cell_row rfl _ _ (w.heap.size + 1) 38 _ (0, 0) _ rfl (mtAll HM9.out) Tryz.underlying38 rfl info33) rfl ⟨rfl, HB9.out⟩
theorem used10 (p : Pkt) (a : PA) (w : World) (hk0 : p.kind = 10) :
 Calls Tryz.prog 34 #[pkV p a] w fun e w' => e = .returned (pkV (usedP p) (usedA p a)) ∧ Below w.heap.size w w' := by
 unfold pkV
 have k0 : (pkC p a)[0]? = some (.int .i64 10) := by rw [← hk0]; rfl
 have k0z := Lib.hid k0
 have hk := Lib.hid hk0
 clear hk0
 go_enter Tryz.func34, Tryz.ntmps34
 go_upto_region 1 with fail
 refine name_world (C := fun w1 => Code.wp _ _ _ _ w1) ((w.alloc (.cells (pkC p a).toArray 38)).alloc (.cells (pkC Pkt.zero PA.zero).toArray 38)) ?_
 rintro w0 hw0
 obtain ⟨b1, b2, b3⟩ := two hw0
 have hU0 : w.heap.size + 1 < w0.heap.size := b3.lt
 have k0w : w0.cell? ⟨w.heap.size, 0, none⟩ = some (.int .i64 10) := (b2.cell 0).trans k0
 have HBw0 := Lib.hid b1
 have HQw0 := Lib.hid b2
 have HTw0 := Lib.hid b3
 clear b1 b2 b3 hw0 k0
 go_upto_region 21 with (refine wpList_store_blk (by rfl) 38 (.tmp 3) (.tmp 6) rfl rfl w0.heap.size 0 34 rfl (.agg (zC 10).toArray) rfl 38 (pkC Pkt.zero PA.zero) (zC 10) (zero_new w0) rfl rfl info33 (by rw [pkC_len]; decide) (one_cells rfl) ?_; rintro w1 hM hoth hbel; have HQw1 : Hid (MT 38 w1 (w.heap.size) (pkC p a)) := Lib.hid (hoth _ _ _ (by omega) (HQw0.out.alloc _)); have HTw1 : Hid (MT 38 w1 (w.heap.size + 1) (pkC Pkt.zero PA.zero)) := Lib.hid (hoth _ _ _ (by omega) (HTw0.out.alloc _)); have HUw1 : Hid (MT 38 w1 (w0.heap.size) (zC 10)) := Lib.hid (by rw [putC_all (pkC Pkt.zero PA.zero) (zC 10) rfl] at hM; exact hM); have HBw1 : Hid (Below w.heap.size w w1) := Lib.hid (hbel _ _ (by omega) (HBw0.out.alloc (by omega) _)); have k0v : w1.cell? ⟨w.heap.size, 0, none⟩ = some (.int .i64 10) := (HQw1.out.cell 0).trans k0z.out; clear hM hoth hbel HQw0 HTw0 HBw0 k0w)
 have HLw1 := Lib.hid (zC_len 10)
 obtain ⟨v1, hv1⟩ : ∃ v1, v1 = World.drew w1 := ⟨_, rfl⟩
 have hbD : Below w1.heap.size w1 v1 := by rw [hv1]; exact (Below.refl _ _).drew
 have HBv1 : Hid (Below w.heap.size w v1) := Lib.hid (stepB HBw1.out hbD)
 have HQv1 : Hid (MT 38 v1 (w.heap.size) (pkC p a)) := Lib.hid (MT.step HQw1.out hbD)
 have HTv1 : Hid (MT 38 v1 (w.heap.size + 1) (pkC Pkt.zero PA.zero)) := Lib.hid (MT.step HTw1.out hbD)
 have HUv1 : Hid (MT 38 v1 (w0.heap.size) (zC 10)) := Lib.hid (MT.step HUw1.out hbD)
 have HLv1 : Hid ((zC 10).length = 34) := Lib.hid (HLw1.out)
 clear HBw1 HQw1 HTw1 HUw1 HLw1
 have hbd : (fun w' => MT 38 w' (w.heap.size) (pkC p a)) (World.drew w1) := by rw [← hv1]; exact HQv1.out
 have hSD := HQv1.out
 have HWD := Lib.hid hv1
 clear hv1 hbD
 refine wp_region_held_drew (S := fun w' => MT 38 w' (w.heap.size) (pkC p a)) (by kernel_rfl) hbd (fun hHeld => ?_)
 rw [← HWD.out]
 clear hHeld
 have hHeld := hSD
 clear hSD hbd HWD
 refine tkS (i := 0) (v := .pointer (some ⟨w.heap.size, 1, none⟩)) (h := ?_)
 refine tkA (i := 1) (v := .int .i64 p.id) (y := Or.inl ⟨by rfl, fun wS hSw => by (try dsimp only at hSw); have cS : wS.cell? ⟨w.heap.size, 1, none⟩ = some (.int .i64 p.id) := hSw.cell 1; clear hSw; go_simp⟩) (h := ?_)
 refine tkS (i := 2) (v := .pointer (some ⟨w.heap.size, 32, none⟩)) (h := ?_)
 refine tkA (i := 3) (v := .slice a.f p.filters.length a.fc) (y := Or.inl ⟨by rfl, fun wS hSw => by (try dsimp only at hSw); have cS : wS.cell? ⟨w.heap.size, 32, none⟩ = some (.slice a.f p.filters.length a.fc) := hSw.cell 32; clear hSw; go_simp⟩) (h := ?_)
 refine tkS (i := 4) (v := .pointer (some ⟨w0.heap.size, 1, none⟩)) (h := ?_)
 refine rdA 5 (h := fun K hK => ?_)
 refine wp_store_blk 3 _ _ rfl rfl (w0.heap.size) 1 1 (by go_simp) (.int .i64 p.id) (by go_simp) 38 (zC 10) ([.int .i64 p.id]) HUv1.out rfl rfl (oneSz _ (by simp)) (by rw [HLv1.out]; show 1 + 1 ≤ 34; decide) (one_cells rfl) ?_
 rintro v2 hM hoth hbel
 have HQv2 : Hid (MT 38 v2 (w.heap.size) (pkC p a)) := Lib.hid (hoth _ _ _ (by omega) HQv1.out)
 have HTv2 : Hid (MT 38 v2 (w.heap.size + 1) (pkC Pkt.zero PA.zero)) := Lib.hid (hoth _ _ _ (by omega) HTv1.out)
 have HUv2 : Hid (MT 38 v2 (w0.heap.size) (putC (zC 10) 1 ([.int .i64 p.id]))) := Lib.hid hM
 have HLv2 : Hid ((putC (zC 10) 1 ([.int .i64 p.id])).length = 34) := Lib.hid ((putC_len (by rw [HLv1.out]; show 1 + 1 ≤ 34; decide)).trans HLv1.out)
 have HBv2 : Hid (Below w.heap.size w v2) := Lib.hid (hbel _ _ (by omega) HBv1.out)
 clear hM hoth hbel HQv1 HTv1 HUv1 HLv1 HBv1
 clear hHeld
 refine hK.out _ _ HQv2.out (fun hHeld => ?_)
 clear hK K
 try simp only [Act.put, List.setIfInBounds_toArray, List.set]
 refine tkS (i := 6) (v := .pointer (some ⟨w0.heap.size, 32, none⟩)) (h := ?_)
 refine rdA 7 (h := fun K hK => ?_)
 refine wp_store_blk 35 _ _ rfl rfl (w0.heap.size) 32 1 (by go_simp) (.slice a.f p.filters.length a.fc) (by go_simp) 38 (putC (zC 10) 1 ([.int .i64 p.id])) ([.slice a.f p.filters.length a.fc]) HUv2.out rfl rfl (oneSz _ (by simp)) (by rw [HLv2.out]; show 32 + 1 ≤ 34; decide) (one_cells rfl) ?_
 rintro v3 hM hoth hbel
 have HQv3 : Hid (MT 38 v3 (w.heap.size) (pkC p a)) := Lib.hid (hoth _ _ _ (by omega) HQv2.out)
 have HTv3 : Hid (MT 38 v3 (w.heap.size + 1) (pkC Pkt.zero PA.zero)) := Lib.hid (hoth _ _ _ (by omega) HTv2.out)
 have HUv3 : Hid (MT 38 v3 (w0.heap.size) (putC (putC (zC 10) 1 ([.int .i64 p.id])) 32 ([.slice a.f p.filters.length a.fc]))) := Lib.hid hM
 have HLv3 : Hid ((putC (putC (zC 10) 1 ([.int .i64 p.id])) 32 ([.slice a.f p.filters.length a.fc])).length = 34) := Lib.hid ((putC_len (by rw [HLv2.out]; show 32 + 1 ≤ 34; decide)).trans HLv2.out)
 have HBv3 : Hid (Below w.heap.size w v3) := Lib.hid (hbel _ _ (by omega) HBv2.out)
 clear hM hoth hbel HQv2 HTv2 HUv2 HLv2 HBv2
 clear hHeld
 refine hK.out _ _ HQv3.out (fun hHeld => ?_)
 clear hK K
 try simp only [Act.put, List.setIfInBounds_toArray, List.set]
 refine wpAnyH_done (by kernel_rfl) ?_ _
 have HE : Hid (putC (putC (zC 10) 1 ([.int .i64 p.id])) 32 ([.slice a.f p.filters.length a.fc]) = pkC (usedP p) (usedA p a)) := Lib.hid (by unfold usedP usedA; simp only [hk.out]; rfl)
 have HU9 : Hid (MT 38 v3 (w0.heap.size) (pkC (usedP p) (usedA p a))) := Lib.hid (by have := HUv3.out; rw [HE.out] at this; exact this)
 go_wp2_with (first | (refine wpList_load_all (by rfl) 38 (.tmp 3) rfl (w0.heap.size) rfl 38 _ (0, 0) _ HU9.out Tryz.underlying38 rfl info33 ?_) | (refine wpList_store_blk (by rfl) 38 (.tmp 2) (.tmp 89) rfl rfl (w.heap.size + 1) 0 34 rfl (.agg (pkC (usedP p) (usedA p a)).toArray) rfl 38 (pkC Pkt.zero PA.zero) (pkC (usedP p) (usedA p a)) HTv3.out rfl rfl info33 (by rw [pkC_len]; decide) (one_cells rfl) ?_; rintro w9 hM _ hbel; have HM9 := Lib.hid hM; have HB9 := Lib.hid (hbel _ _ (by omega) HBv3.out); clear hM hbel))
 exact bodyPost_ret (v := .agg (pkC (usedP p) (usedA p a)).toArray) (results_cell_row rfl _ _ (w.heap.size + 1) 38 _ (0, 0) _ rfl (mtAll HM9.out) Tryz.underlying38 rfl info33) rfl ⟨rfl, HB9.out⟩
theorem used_any (p : Pkt) (a : PA) (w : World) (h : 1 ≤ p.kind ∧ p.kind ≤ 14) : Calls Tryz.prog 34 #[pkV p a] w fun e w' => e = .returned (pkV (usedP p) (usedA p a)) ∧ Below w.heap.size w w' := by
 have hk : p.kind = 1 ∨ p.kind = 2 ∨ p.kind = 3 ∨ p.kind = 4 ∨ p.kind = 5 ∨ p.kind = 6 ∨ p.kind = 7 ∨ p.kind = 8 ∨ p.kind = 9 ∨ p.kind = 10 ∨ p.kind = 11 ∨ p.kind = 12 ∨ p.kind = 13 ∨ p.kind = 14 := by omega
 rcases hk with hk | hk | hk | hk | hk | hk | hk | hk | hk | hk | hk | hk | hk | hk
 · exact used1 p a w hk
 · exact used2 p a w hk
 · exact used3 p a w hk
 · exact used4 p a w hk
 · exact used5 p a w hk
 · exact used6 p a w hk
 · exact used7 p a w hk
 · exact used8 p a w hk
 · exact used9 p a w hk
 · exact used10 p a w hk
 · exact used11 p a w hk
 · exact used12 p a w hk
 · exact used13 p a w hk
 · exact used14 p a w hk

end Go.Proofs.YtdkegoaflabjoaaGreatDoor
