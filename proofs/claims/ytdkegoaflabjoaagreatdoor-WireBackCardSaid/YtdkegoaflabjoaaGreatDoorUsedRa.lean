/-
What Used of the specification hands back: the packet with the fields alone that its kind uses. Conditions: none.
-/
import Derived.Test.YtdkegoaflabjoaaGreatDoorUsed
set_option maxHeartbeats 8000000
set_option maxRecDepth 50000
namespace Go.Proofs.YtdkegoaflabjoaaGreatDoor
open Go.RowKit

theorem rUsed1 (p : Pkt) (a : PA) (w : World) (hk0 : p.kind = 1) :
 Calls Tryz.prog 25 #[pkV p a] w fun e w' => e = .returned (pkV (usedP p) (usedA p a)) ∧ Below w.heap.size w w' := by
 unfold pkV
 have k0 : (pkC p a)[0]? = some (.int .i64 1) := by rw [← hk0]; rfl
 have k0z := Lib.hid k0
 have hk := Lib.hid hk0
 clear hk0
 go_enter Tryz.func25, Tryz.ntmps25
 go_upto_region 1 with fail
 refine name_world (C := fun w1 => Code.wp _ _ _ _ w1) ((w.alloc (.cells (pkC p a).toArray 38)).alloc (.cells (pkC Pkt.zero PA.zero).toArray 38)) ?_
 rintro w0 hw0
 obtain ⟨b1, b2, b3⟩ := two hw0
 have hU0 : w.heap.size + 1 < w0.heap.size := b3.lt
 have k0w : w0.cell? ⟨w.heap.size, 0, none⟩ = some (.int .i64 1) := (b2.cell 0).trans k0
 have HBw0 := Lib.hid b1
 have HQw0 := Lib.hid b2
 have HTw0 := Lib.hid b3
 clear b1 b2 b3 hw0 k0
 go_upto_region 2 with (refine wpList_store_blk (by rfl) 38 (.tmp 3) (.tmp 6) rfl rfl w0.heap.size 0 34 rfl (.agg (zC 1).toArray) rfl 38 (pkC Pkt.zero PA.zero) (zC 1) (zero_new w0) rfl rfl info33 (by rw [pkC_len]; decide) (one_cells rfl) ?_; rintro w1 hM hoth hbel; have HQw1 : Hid (MT 38 w1 (w.heap.size) (pkC p a)) := Lib.hid (hoth _ _ _ (by omega) (HQw0.out.alloc _)); have HTw1 : Hid (MT 38 w1 (w.heap.size + 1) (pkC Pkt.zero PA.zero)) := Lib.hid (hoth _ _ _ (by omega) (HTw0.out.alloc _)); have HUw1 : Hid (MT 38 w1 (w0.heap.size) (zC 1)) := Lib.hid (by rw [putC_all (pkC Pkt.zero PA.zero) (zC 1) rfl] at hM; exact hM); have HBw1 : Hid (Below w.heap.size w w1) := Lib.hid (hbel _ _ (by omega) (HBw0.out.alloc (by omega) _)); clear hM hoth hbel HQw0 HTw0 HBw0 k0w)
 have HLw1 := Lib.hid (zC_len 1)
 have c0w1 : w1.cell? ⟨w.heap.size, 0, none⟩ = some (.int .i64 1) := (HQw1.out.cell 0).trans k0z.out
 go_upto_region 5 with fail
 have c12w1 : w1.cell? ⟨w.heap.size, 12, none⟩ = some (.string p.client) := HQw1.out.cell 12
 go_upto_region 6 with (refine wpList_store_blk (by rfl) 9 (.tmp 28) (.tmp 27) rfl rfl (w0.heap.size) 12 1 rfl (.string p.client) rfl 38 (zC 1) ([.string p.client]) HUw1.out rfl rfl (oneSz _ (by simp)) (by rw [HLw1.out]; show 12 + 1 ≤ 34; decide) (one_cells rfl) ?_; rintro w2 hM hoth hbel; have HQw2 : Hid (MT 38 w2 (w.heap.size) (pkC p a)) := Lib.hid (hoth _ _ _ (by omega) HQw1.out); have HTw2 : Hid (MT 38 w2 (w.heap.size + 1) (pkC Pkt.zero PA.zero)) := Lib.hid (hoth _ _ _ (by omega) HTw1.out); have HUw2 : Hid (MT 38 w2 (w0.heap.size) (putC (zC 1) 12 ([.string p.client]))) := Lib.hid hM; have HLw2 : Hid ((putC (zC 1) 12 ([.string p.client])).length = 34) := Lib.hid ((putC_len (by rw [HLw1.out]; show 12 + 1 ≤ 34; decide)).trans HLw1.out); have HBw2 : Hid (Below w.heap.size w w2) := Lib.hid (hbel _ _ (by omega) HBw1.out); clear hM hoth hbel HQw1 HTw1 HUw1 HLw1 HBw1 c0w1 c12w1; have c0w2 : w2.cell? ⟨w.heap.size, 0, none⟩ = some (.int .i64 1) := (HQw2.out.cell 0).trans k0z.out)
 have c13w2 : w2.cell? ⟨w.heap.size, 13, none⟩ = some (.string p.user) := HQw2.out.cell 13
 go_upto_region 7 with (refine wpList_store_blk (by rfl) 9 (.tmp 31) (.tmp 30) rfl rfl (w0.heap.size) 13 1 rfl (.string p.user) rfl 38 (putC (zC 1) 12 ([.string p.client])) ([.string p.user]) HUw2.out rfl rfl (oneSz _ (by simp)) (by rw [HLw2.out]; show 13 + 1 ≤ 34; decide) (one_cells rfl) ?_; rintro w3 hM hoth hbel; have HQw3 : Hid (MT 38 w3 (w.heap.size) (pkC p a)) := Lib.hid (hoth _ _ _ (by omega) HQw2.out); have HTw3 : Hid (MT 38 w3 (w.heap.size + 1) (pkC Pkt.zero PA.zero)) := Lib.hid (hoth _ _ _ (by omega) HTw2.out); have HUw3 : Hid (MT 38 w3 (w0.heap.size) (putC (putC (zC 1) 12 ([.string p.client])) 13 ([.string p.user]))) := Lib.hid hM; have HLw3 : Hid ((putC (putC (zC 1) 12 ([.string p.client])) 13 ([.string p.user])).length = 34) := Lib.hid ((putC_len (by rw [HLw2.out]; show 13 + 1 ≤ 34; decide)).trans HLw2.out); have HBw3 : Hid (Below w.heap.size w w3) := Lib.hid (hbel _ _ (by omega) HBw2.out); clear hM hoth hbel HQw2 HTw2 HUw2 HLw2 HBw2 c0w2 c13w2; have c0w3 : w3.cell? ⟨w.heap.size, 0, none⟩ = some (.int .i64 1) := (HQw3.out.cell 0).trans k0z.out)
 have c14w3 : w3.cell? ⟨w.heap.size, 14, none⟩ = some (.bool p.clean) := HQw3.out.cell 14
 go_upto_region 8 with (refine wpList_store_blk (by rfl) 4 (.tmp 34) (.tmp 33) rfl rfl (w0.heap.size) 14 1 rfl (.bool p.clean) rfl 38 (putC (putC (zC 1) 12 ([.string p.client])) 13 ([.string p.user])) ([.bool p.clean]) HUw3.out rfl rfl (oneSz _ (by simp)) (by rw [HLw3.out]; show 14 + 1 ≤ 34; decide) (one_cells rfl) ?_; rintro w4 hM hoth hbel; have HQw4 : Hid (MT 38 w4 (w.heap.size) (pkC p a)) := Lib.hid (hoth _ _ _ (by omega) HQw3.out); have HTw4 : Hid (MT 38 w4 (w.heap.size + 1) (pkC Pkt.zero PA.zero)) := Lib.hid (hoth _ _ _ (by omega) HTw3.out); have HUw4 : Hid (MT 38 w4 (w0.heap.size) (putC (putC (putC (zC 1) 12 ([.string p.client])) 13 ([.string p.user])) 14 ([.bool p.clean]))) := Lib.hid hM; have HLw4 : Hid ((putC (putC (putC (zC 1) 12 ([.string p.client])) 13 ([.string p.user])) 14 ([.bool p.clean])).length = 34) := Lib.hid ((putC_len (by rw [HLw3.out]; show 14 + 1 ≤ 34; decide)).trans HLw3.out); have HBw4 : Hid (Below w.heap.size w w4) := Lib.hid (hbel _ _ (by omega) HBw3.out); clear hM hoth hbel HQw3 HTw3 HUw3 HLw3 HBw3 c0w3 c14w3; have c0w4 : w4.cell? ⟨w.heap.size, 0, none⟩ = some (.int .i64 1) := (HQw4.out.cell 0).trans k0z.out)
 have c15w4 : w4.cell? ⟨w.heap.size, 15, none⟩ = some (.int .i64 p.keep) := HQw4.out.cell 15
 go_upto_region 9 with (refine wpList_store_blk (by rfl) 3 (.tmp 37) (.tmp 36) rfl rfl (w0.heap.size) 15 1 rfl (.int .i64 p.keep) rfl 38 (putC (putC (putC (zC 1) 12 ([.string p.client])) 13 ([.string p.user])) 14 ([.bool p.clean])) ([.int .i64 p.keep]) HUw4.out rfl rfl (oneSz _ (by simp)) (by rw [HLw4.out]; show 15 + 1 ≤ 34; decide) (one_cells rfl) ?_; rintro w5 hM hoth hbel; have HQw5 : Hid (MT 38 w5 (w.heap.size) (pkC p a)) := Lib.hid (hoth _ _ _ (by omega) HQw4.out); have HTw5 : Hid (MT 38 w5 (w.heap.size + 1) (pkC Pkt.zero PA.zero)) := Lib.hid (hoth _ _ _ (by omega) HTw4.out); have HUw5 : Hid (MT 38 w5 (w0.heap.size) (putC (putC (putC (putC (zC 1) 12 ([.string p.client])) 13 ([.string p.user])) 14 ([.bool p.clean])) 15 ([.int .i64 p.keep]))) := Lib.hid hM; have HLw5 : Hid ((putC (putC (putC (putC (zC 1) 12 ([.string p.client])) 13 ([.string p.user])) 14 ([.bool p.clean])) 15 ([.int .i64 p.keep])).length = 34) := Lib.hid ((putC_len (by rw [HLw4.out]; show 15 + 1 ≤ 34; decide)).trans HLw4.out); have HBw5 : Hid (Below w.heap.size w w5) := Lib.hid (hbel _ _ (by omega) HBw4.out); clear hM hoth hbel HQw4 HTw4 HUw4 HLw4 HBw4 c0w4 c15w4; have c0w5 : w5.cell? ⟨w.heap.size, 0, none⟩ = some (.int .i64 1) := (HQw5.out.cell 0).trans k0z.out)
 have c16w5 : w5.cell? ⟨w.heap.size, 16, none⟩ = some (.int .i64 p.expiry) := HQw5.out.cell 16
 go_upto_region 10 with (refine wpList_store_blk (by rfl) 3 (.tmp 40) (.tmp 39) rfl rfl (w0.heap.size) 16 1 rfl (.int .i64 p.expiry) rfl 38 (putC (putC (putC (putC (zC 1) 12 ([.string p.client])) 13 ([.string p.user])) 14 ([.bool p.clean])) 15 ([.int .i64 p.keep])) ([.int .i64 p.expiry]) HUw5.out rfl rfl (oneSz _ (by simp)) (by rw [HLw5.out]; show 16 + 1 ≤ 34; decide) (one_cells rfl) ?_; rintro w6 hM hoth hbel; have HQw6 : Hid (MT 38 w6 (w.heap.size) (pkC p a)) := Lib.hid (hoth _ _ _ (by omega) HQw5.out); have HTw6 : Hid (MT 38 w6 (w.heap.size + 1) (pkC Pkt.zero PA.zero)) := Lib.hid (hoth _ _ _ (by omega) HTw5.out); have HUw6 : Hid (MT 38 w6 (w0.heap.size) (putC (putC (putC (putC (putC (zC 1) 12 ([.string p.client])) 13 ([.string p.user])) 14 ([.bool p.clean])) 15 ([.int .i64 p.keep])) 16 ([.int .i64 p.expiry]))) := Lib.hid hM; have HLw6 : Hid ((putC (putC (putC (putC (putC (zC 1) 12 ([.string p.client])) 13 ([.string p.user])) 14 ([.bool p.clean])) 15 ([.int .i64 p.keep])) 16 ([.int .i64 p.expiry])).length = 34) := Lib.hid ((putC_len (by rw [HLw5.out]; show 16 + 1 ≤ 34; decide)).trans HLw5.out); have HBw6 : Hid (Below w.heap.size w w6) := Lib.hid (hbel _ _ (by omega) HBw5.out); clear hM hoth hbel HQw5 HTw5 HUw5 HLw5 HBw5 c0w5 c16w5; have c0w6 : w6.cell? ⟨w.heap.size, 0, none⟩ = some (.int .i64 1) := (HQw6.out.cell 0).trans k0z.out)
 have c17w6 : w6.cell? ⟨w.heap.size, 17, none⟩ = some (.int .i64 p.window) := HQw6.out.cell 17
 go_upto_region 11 with (refine wpList_store_blk (by rfl) 3 (.tmp 43) (.tmp 42) rfl rfl (w0.heap.size) 17 1 rfl (.int .i64 p.window) rfl 38 (putC (putC (putC (putC (putC (zC 1) 12 ([.string p.client])) 13 ([.string p.user])) 14 ([.bool p.clean])) 15 ([.int .i64 p.keep])) 16 ([.int .i64 p.expiry])) ([.int .i64 p.window]) HUw6.out rfl rfl (oneSz _ (by simp)) (by rw [HLw6.out]; show 17 + 1 ≤ 34; decide) (one_cells rfl) ?_; rintro w7 hM hoth hbel; have HQw7 : Hid (MT 38 w7 (w.heap.size) (pkC p a)) := Lib.hid (hoth _ _ _ (by omega) HQw6.out); have HTw7 : Hid (MT 38 w7 (w.heap.size + 1) (pkC Pkt.zero PA.zero)) := Lib.hid (hoth _ _ _ (by omega) HTw6.out); have HUw7 : Hid (MT 38 w7 (w0.heap.size) (putC (putC (putC (putC (putC (putC (zC 1) 12 ([.string p.client])) 13 ([.string p.user])) 14 ([.bool p.clean])) 15 ([.int .i64 p.keep])) 16 ([.int .i64 p.expiry])) 17 ([.int .i64 p.window]))) := Lib.hid hM; have HLw7 : Hid ((putC (putC (putC (putC (putC (putC (zC 1) 12 ([.string p.client])) 13 ([.string p.user])) 14 ([.bool p.clean])) 15 ([.int .i64 p.keep])) 16 ([.int .i64 p.expiry])) 17 ([.int .i64 p.window])).length = 34) := Lib.hid ((putC_len (by rw [HLw6.out]; show 17 + 1 ≤ 34; decide)).trans HLw6.out); have HBw7 : Hid (Below w.heap.size w w7) := Lib.hid (hbel _ _ (by omega) HBw6.out); clear hM hoth hbel HQw6 HTw6 HUw6 HLw6 HBw6 c0w6 c17w6; have c0w7 : w7.cell? ⟨w.heap.size, 0, none⟩ = some (.int .i64 1) := (HQw7.out.cell 0).trans k0z.out)
 go_upto_region 25 with (first | (refine wpList_load_part (by rfl) 33 (.tmp 44) rfl w.heap.size 18 11 rfl 38 (pkC p a) (0, 0) _ HQw7.out Tryz.underlying33 rfl info28 (by show 18 + 11 ≤ 34; decide) ?_) | (refine wpList_store_blk (by rfl) 33 (.tmp 46) (.tmp 45) rfl rfl (w0.heap.size) 18 11 rfl (wlV p a) rfl 38 (putC (putC (putC (putC (putC (putC (zC 1) 12 ([.string p.client])) 13 ([.string p.user])) 14 ([.bool p.clean])) 15 ([.int .i64 p.keep])) 16 ([.int .i64 p.expiry])) 17 ([.int .i64 p.window])) (wlC p a) HUw7.out rfl rfl info28 (by rw [HLw7.out]; show 18 + 11 ≤ 34; decide) (one_cells rfl) ?_; rintro w8 hM hoth hbel; have HQw8 : Hid (MT 38 w8 (w.heap.size) (pkC p a)) := Lib.hid (hoth _ _ _ (by omega) HQw7.out); have HTw8 : Hid (MT 38 w8 (w.heap.size + 1) (pkC Pkt.zero PA.zero)) := Lib.hid (hoth _ _ _ (by omega) HTw7.out); have HUw8 : Hid (MT 38 w8 (w0.heap.size) (putC (putC (putC (putC (putC (putC (putC (zC 1) 12 ([.string p.client])) 13 ([.string p.user])) 14 ([.bool p.clean])) 15 ([.int .i64 p.keep])) 16 ([.int .i64 p.expiry])) 17 ([.int .i64 p.window])) 18 (wlC p a))) := Lib.hid hM; have HLw8 : Hid ((putC (putC (putC (putC (putC (putC (putC (zC 1) 12 ([.string p.client])) 13 ([.string p.user])) 14 ([.bool p.clean])) 15 ([.int .i64 p.keep])) 16 ([.int .i64 p.expiry])) 17 ([.int .i64 p.window])) 18 (wlC p a)).length = 34) := Lib.hid ((putC_len (by rw [HLw7.out]; show 18 + 11 ≤ 34; decide)).trans HLw7.out); have HBw8 : Hid (Below w.heap.size w w8) := Lib.hid (hbel _ _ (by omega) HBw7.out); clear hM hoth hbel HQw7 HTw7 HUw7 HLw7 HBw7 c0w7; have c0w8 : w8.cell? ⟨w.heap.size, 0, none⟩ = some (.int .i64 1) := (HQw8.out.cell 0).trans k0z.out))
 have HE : Hid (putC (putC (putC (putC (putC (putC (putC (zC 1) 12 ([.string p.client])) 13 ([.string p.user])) 14 ([.bool p.clean])) 15 ([.int .i64 p.keep])) 16 ([.int .i64 p.expiry])) 17 ([.int .i64 p.window])) 18 (wlC p a) = pkC (usedP p) (usedA p a)) := Lib.hid (by unfold usedP usedA; simp only [hk.out]; rfl)
 have HU9 : Hid (MT 38 w8 (w0.heap.size) (pkC (usedP p) (usedA p a))) := Lib.hid (by have := HUw8.out; rw [HE.out] at this; exact this)
 go_wp2_with (first | (refine wpList_load_all (by rfl) 38 (.tmp 3) rfl (w0.heap.size) rfl 38 _ (0, 0) _ HU9.out Tryz.underlying38 rfl info33 ?_) | (refine wpList_store_blk (by rfl) 38 (.tmp 2) (.tmp 96) rfl rfl (w.heap.size + 1) 0 34 rfl (.agg (pkC (usedP p) (usedA p a)).toArray) rfl 38 (pkC Pkt.zero PA.zero) (pkC (usedP p) (usedA p a)) HTw8.out rfl rfl info33 (by rw [pkC_len]; decide) (one_cells rfl) ?_; rintro w9 hM _ hbel; have HM9 := Lib.hid hM; have HB9 := Lib.hid (hbel _ _ (by omega) HBw8.out); clear hM hbel))
 exact bodyPost_ret (v := .agg (pkC (usedP p) (usedA p a)).toArray) (results_cell_row rfl _ _ (w.heap.size + 1) 38 _ (0, 0) _ rfl (mtAll HM9.out) Tryz.underlying38 rfl info33) rfl ⟨rfl, HB9.out⟩
theorem rUsed12 (p : Pkt) (a : PA) (w : World) (hk0 : p.kind = 12) :
 Calls Tryz.prog 25 #[pkV p a] w fun e w' => e = .returned (pkV (usedP p) (usedA p a)) ∧ Below w.heap.size w w' := by
 unfold pkV
 have k0 : (pkC p a)[0]? = some (.int .i64 12) := by rw [← hk0]; rfl
 have k0z := Lib.hid k0
 have hk := Lib.hid hk0
 clear hk0
 go_enter Tryz.func25, Tryz.ntmps25
 go_upto_region 1 with fail
 refine name_world (C := fun w1 => Code.wp _ _ _ _ w1) ((w.alloc (.cells (pkC p a).toArray 38)).alloc (.cells (pkC Pkt.zero PA.zero).toArray 38)) ?_
 rintro w0 hw0
 obtain ⟨b1, b2, b3⟩ := two hw0
 have hU0 : w.heap.size + 1 < w0.heap.size := b3.lt
 have k0w : w0.cell? ⟨w.heap.size, 0, none⟩ = some (.int .i64 12) := (b2.cell 0).trans k0
 have HBw0 := Lib.hid b1
 have HQw0 := Lib.hid b2
 have HTw0 := Lib.hid b3
 clear b1 b2 b3 hw0 k0
 go_upto_region 2 with (refine wpList_store_blk (by rfl) 38 (.tmp 3) (.tmp 6) rfl rfl w0.heap.size 0 34 rfl (.agg (zC 12).toArray) rfl 38 (pkC Pkt.zero PA.zero) (zC 12) (zero_new w0) rfl rfl info33 (by rw [pkC_len]; decide) (one_cells rfl) ?_; rintro w1 hM hoth hbel; have HQw1 : Hid (MT 38 w1 (w.heap.size) (pkC p a)) := Lib.hid (hoth _ _ _ (by omega) (HQw0.out.alloc _)); have HTw1 : Hid (MT 38 w1 (w.heap.size + 1) (pkC Pkt.zero PA.zero)) := Lib.hid (hoth _ _ _ (by omega) (HTw0.out.alloc _)); have HUw1 : Hid (MT 38 w1 (w0.heap.size) (zC 12)) := Lib.hid (by rw [putC_all (pkC Pkt.zero PA.zero) (zC 12) rfl] at hM; exact hM); have HBw1 : Hid (Below w.heap.size w w1) := Lib.hid (hbel _ _ (by omega) (HBw0.out.alloc (by omega) _)); clear hM hoth hbel HQw0 HTw0 HBw0 k0w)
 have HLw1 := Lib.hid (zC_len 12)
 have c0w1 : w1.cell? ⟨w.heap.size, 0, none⟩ = some (.int .i64 12) := (HQw1.out.cell 0).trans k0z.out
 go_upto_region 25 with fail
 have HE : Hid (zC 12 = pkC (usedP p) (usedA p a)) := Lib.hid (by unfold usedP usedA; simp only [hk.out]; rfl)
 have HU9 : Hid (MT 38 w1 (w0.heap.size) (pkC (usedP p) (usedA p a))) := Lib.hid (by have := HUw1.out; rw [HE.out] at this; exact this)
 go_wp2_with (first | (refine wpList_load_all (by rfl) 38 (.tmp 3) rfl (w0.heap.size) rfl 38 _ (0, 0) _ HU9.out Tryz.underlying38 rfl info33 ?_) | (refine wpList_store_blk (by rfl) 38 (.tmp 2) (.tmp 96) rfl rfl (w.heap.size + 1) 0 34 rfl (.agg (pkC (usedP p) (usedA p a)).toArray) rfl 38 (pkC Pkt.zero PA.zero) (pkC (usedP p) (usedA p a)) HTw1.out rfl rfl info33 (by rw [pkC_len]; decide) (one_cells rfl) ?_; rintro w9 hM _ hbel; have HM9 := Lib.hid hM; have HB9 := Lib.hid (hbel _ _ (by omega) HBw1.out); clear hM hbel))
 exact bodyPost_ret (v := .agg (pkC (usedP p) (usedA p a)).toArray) (results_cell_row rfl _ _ (w.heap.size + 1) 38 _ (0, 0) _ rfl (mtAll HM9.out) Tryz.underlying38 rfl info33) rfl ⟨rfl, HB9.out⟩
theorem rUsed13 (p : Pkt) (a : PA) (w : World) (hk0 : p.kind = 13) :
 Calls Tryz.prog 25 #[pkV p a] w fun e w' => e = .returned (pkV (usedP p) (usedA p a)) ∧ Below w.heap.size w w' := by
 unfold pkV
 have k0 : (pkC p a)[0]? = some (.int .i64 13) := by rw [← hk0]; rfl
 have k0z := Lib.hid k0
 have hk := Lib.hid hk0
 clear hk0
 go_enter Tryz.func25, Tryz.ntmps25
 go_upto_region 1 with fail
 refine name_world (C := fun w1 => Code.wp _ _ _ _ w1) ((w.alloc (.cells (pkC p a).toArray 38)).alloc (.cells (pkC Pkt.zero PA.zero).toArray 38)) ?_
 rintro w0 hw0
 obtain ⟨b1, b2, b3⟩ := two hw0
 have hU0 : w.heap.size + 1 < w0.heap.size := b3.lt
 have k0w : w0.cell? ⟨w.heap.size, 0, none⟩ = some (.int .i64 13) := (b2.cell 0).trans k0
 have HBw0 := Lib.hid b1
 have HQw0 := Lib.hid b2
 have HTw0 := Lib.hid b3
 clear b1 b2 b3 hw0 k0
 go_upto_region 2 with (refine wpList_store_blk (by rfl) 38 (.tmp 3) (.tmp 6) rfl rfl w0.heap.size 0 34 rfl (.agg (zC 13).toArray) rfl 38 (pkC Pkt.zero PA.zero) (zC 13) (zero_new w0) rfl rfl info33 (by rw [pkC_len]; decide) (one_cells rfl) ?_; rintro w1 hM hoth hbel; have HQw1 : Hid (MT 38 w1 (w.heap.size) (pkC p a)) := Lib.hid (hoth _ _ _ (by omega) (HQw0.out.alloc _)); have HTw1 : Hid (MT 38 w1 (w.heap.size + 1) (pkC Pkt.zero PA.zero)) := Lib.hid (hoth _ _ _ (by omega) (HTw0.out.alloc _)); have HUw1 : Hid (MT 38 w1 (w0.heap.size) (zC 13)) := Lib.hid (by rw [putC_all (pkC Pkt.zero PA.zero) (zC 13) rfl] at hM; exact hM); have HBw1 : Hid (Below w.heap.size w w1) := Lib.hid (hbel _ _ (by omega) (HBw0.out.alloc (by omega) _)); clear hM hoth hbel HQw0 HTw0 HBw0 k0w)
 have HLw1 := Lib.hid (zC_len 13)
 have c0w1 : w1.cell? ⟨w.heap.size, 0, none⟩ = some (.int .i64 13) := (HQw1.out.cell 0).trans k0z.out
 go_upto_region 25 with fail
 have HE : Hid (zC 13 = pkC (usedP p) (usedA p a)) := Lib.hid (by unfold usedP usedA; simp only [hk.out]; rfl)
 have HU9 : Hid (MT 38 w1 (w0.heap.size) (pkC (usedP p) (usedA p a))) := Lib.hid (by have := HUw1.out; rw [HE.out] at this; exact this)
 go_wp2_with (first | (refine wpList_load_all (by rfl) 38 (.tmp 3) rfl (w0.heap.size) rfl 38 _ (0, 0) _ HU9.out Tryz.underlying38 rfl info33 ?_) | (refine wpList_store_blk (by rfl) 38 (.tmp 2) (.tmp 96) rfl rfl (w.heap.size + 1) 0 34 rfl (.agg (pkC (usedP p) (usedA p a)).toArray) rfl 38 (pkC Pkt.zero PA.zero) (pkC (usedP p) (usedA p a)) HTw1.out rfl rfl info33 (by rw [pkC_len]; decide) (one_cells rfl) ?_; rintro w9 hM _ hbel; have HM9 := Lib.hid hM; have HB9 := Lib.hid (hbel _ _ (by omega) HBw1.out); clear hM hbel))
 exact bodyPost_ret (v := .agg (pkC (usedP p) (usedA p a)).toArray) (results_cell_row rfl _ _ (w.heap.size + 1) 38 _ (0, 0) _ rfl (mtAll HM9.out) Tryz.underlying38 rfl info33) rfl ⟨rfl, HB9.out⟩

end Go.Proofs.YtdkegoaflabjoaaGreatDoor
